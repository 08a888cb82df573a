/-
  Walks: rows of signs, by the law's own helpers.
-/
import Derived.Test.YtfnmpohcoabenaaSgP
import Derived.Test.YtfnmpohcoabenaaAidRow
import Derived.Test.YtfnmpohcoabenaaChecked
import Derived.BigQuiet
import Derived.WalkSmall
import Derived.Deep.RegionHeld3
namespace Go.Proofs.Ytfnmpohcoabenaa
open Go.RowKit

theorem infoSg : (Try.prog.info? 41).map (·.size) = some 4 := by kernel_rfl
theorem infoSi : (Try.prog.info? 42).map (·.size) = some 4 := by kernel_rfl

set_option maxHeartbeats 1000000 in
theorem szSign_any (x : Sg) (left : Int) (w : World) (h0 : 0 ≤ left) (h1 : left ≤ 1048576) (hx : x.text.size ≤ maxLen) :
    Calls Try.prog 20 #[x.val, .int .i64 left] w fun e w' => ∃ r : Int, e = .returned (.int .i64 r) ∧ (r < 0 ∨ (0 ≤ r ∧ r + x.text.size = left)) ∧ Below w.heap.size w w' := by
  unfold maxLen at hx
  have hw : wrap64 (left - x.text.size) = left - x.text.size := IntWalk.wrap64_in _ (by omega)
  by_cases h : left < x.text.size
  · go_enter Try.func20, Try.ntmps20
    go_wp2
    go_ret
    exact ⟨-1, rfl, .inl (by omega), (Below.refl _ _).alloc (Nat.le_refl _) _⟩
  · have hn : ¬ (left - (x.text.size : Int) < 0) := by omega
    go_enter Try.func20, Try.ntmps20
    go_wp2
    go_ret
    exact ⟨left - x.text.size, rfl, .inr (by omega), (Below.refl _ _).alloc (Nat.le_refl _) _⟩

/-- What the loop keeps. -/
def SzRel (w : World) (xs : List Sg) (iv lv : Value) (wr : World) : Prop :=
  ∃ (k : Nat) (l : Int), k ≤ xs.length ∧ iv = .int .i64 k ∧ lv = .int .i64 l ∧ 0 ≤ l ∧ l ≤ 1048576 ∧ Hid (l + xs.length + sgSz (xs.take k) = 1048576) ∧ Below w.heap.size w wr

set_option maxHeartbeats 1000000 in
theorem szSignS_any (v : Value) (xs : List Sg) (w : World) (h : SgAt w v xs) (hlen : xs.length ≤ maxLen) (hx : ∀ x ∈ xs, x.text.size ≤ maxLen) :
    Calls Try.prog 10 #[v, .int .i64 1048576] w fun e w' => ∃ r : Int, e = .returned (.int .i64 r) ∧ (r < 0 ∨ xs.length + sgSz xs ≤ 1048576) ∧ Below w.heap.size w w' := by
  obtain ⟨ao, c, rfl, hc⟩ := h
  unfold maxLen at hlen
  have hw : wrap64 (1048576 - (xs.length : Int)) = 1048576 - (xs.length : Int) := IntWalk.wrap64_in _ (by omega)
  by_cases h : 1048576 < xs.length
  · have hn : (1048576 : Int) < (xs.length : Int) := by omega
    go_enter Try.func10, Try.ntmps10
    go_wp2
    go_ret
    exact ⟨-1, rfl, .inl (by omega), Below.refl _ _⟩
  · have hn : ¬ (1048576 - (xs.length : Int) < 0) := by omega
    have HC := hide hc
    have HX := hide hx
    clear hc hx
    go_enter Try.func10, Try.ntmps10
    go_wp2
    go_loopw [5, 1] (fun iv lv wr => SzRel w xs iv lv wr) (fun iv _ _ => xs.length - (intOf iv).toNat)
    case atStart => exact ⟨0, _, Nat.zero_le _, rfl, rfl, by omega, by omega, by simp [Hid, sgSz], Below.refl _ _⟩
    case round =>
      obtain ⟨k, l, hk, rfl, rfl, hl0, hl1, HS, hb⟩ := hrel
      by_cases hlt : k < xs.length
      · obtain ⟨a, rfl, ha, hcell⟩ := HC.out k hlt
        have hcell2 := hcell.stays hb (by have e : (a.add (k * 4)).block = a.block := by simp only [Addr.add]; split <;> rfl
                                          rw [e]; exact ha)
        obtain ⟨x, ex⟩ : ∃ x, x = xs[k] := ⟨_, rfl⟩
        have hxs := HX.out x (by rw [ex]; exact List.getElem_mem _)
        have HT := hide (sgSz_take xs k hlt)
        rw [← ex] at hcell2 HT
        obtain ⟨p, hp⟩ : ∃ p, a.add (k * 4) = p := ⟨_, rfl⟩
        rw [hp] at hcell2
        obtain ⟨c0, c1, c2, c3⟩ := hcell2.facts
        have hi0 : (0 : Int) ≤ (k : Int) := by omega
        have hi1 : (k : Int) < (xs.length : Int) := by omega
        clear hcell hcell2 ex
        go_wp2_with (go_at_call 20; refine (szSign_any x l _ hl0 hl1 hxs).mono ?_; rintro e w1 ⟨r, rfl, hr, hb1⟩)
        · go_ret
          exact ⟨-1, rfl, .inl (by omega), hb.trans (hb1.mono hb.size)⟩
        · go_roundw
          case rel =>
            refine ⟨k + 1, r, by omega, by go_num, rfl, by omega, by omega, ?_, hb.trans (hb1.mono hb.size)⟩
            have h1 := HS.out
            have h2 := HT.out
            show _ = _
            rw [h2]
            omega
          case measure => simp [intOf]; omega
      · have HF : Hid (xs.length + sgSz xs ≤ 1048576) := by
          have h1 := HS.out
          rw [List.take_of_length_le (by omega)] at h1
          show _ ≤ _
          omega
        go_wp2
        go_ret
        exact ⟨l, rfl, .inr HF.out, hb⟩

set_option maxHeartbeats 1000000 in
theorem toSign_any (x : Sg) (w : World) : Calls Try.prog 21 #[x.val] w fun e w' => e = .returned x.val ∧ Below w.heap.size w w' := by
  go_enter Try.func21, Try.ntmps21
  go_wp2
  refine bodyPost_ret (results_cell (a := ⟨w.heap.size + 1, 0, none⟩) rfl _ _ rfl (SgCell.readVar (x := x) ?_ 42 _ Try.underlying42 rfl infoSi)) rfl ?_
  · have h1 := SgCell.new (w.alloc (.cells #[.int .i64 x.kind, .string x.text, .int .i64 x.num, .int .i64 x.place] 41)) x 42
    have e1 : (w.alloc (.cells #[.int .i64 x.kind, .string x.text, .int .i64 x.num, .int .i64 x.place] 41)).heap.size = w.heap.size + 1 := by simp
    rw [e1] at h1
    exact h1.stays (B := w.heap.size + 2) ((Below.refl _ _).alloc (by simp) _) (by simp)
  · exact ⟨rfl, (((Below.refl _ _).alloc (Nat.le_refl _) _).alloc (by simp) _).alloc (by simp; omega) _⟩

theorem there_cells {w : World} {g o : Nat} (h : w.there g o 4) : ∃ y : Value × Value × Value × Value, w.cell? { block := g, off := o } = some y.1 ∧ w.cell? { block := g, off := o + 1 } = some y.2.1 ∧ w.cell? { block := g, off := o + 2 } = some y.2.2.1 ∧ w.cell? { block := g, off := o + 3 } = some y.2.2.2 := by
  obtain ⟨y0, h0⟩ := Option.isSome_iff_exists.1 (h 0 (by omega)).1
  obtain ⟨y1, h1⟩ := Option.isSome_iff_exists.1 (h 1 (by omega)).1
  obtain ⟨y2, h2⟩ := Option.isSome_iff_exists.1 (h 2 (by omega)).1
  obtain ⟨y3, h3⟩ := Option.isSome_iff_exists.1 (h 3 (by omega)).1
  exact ⟨⟨y0, y1, y2, y3⟩, h0, h1, h2, h3⟩
theorem there_free {w : World} {g o : Nat} (h : w.there g o 4) : w.frozen? { block := g, off := o } = false ∧ w.frozen? { block := g, off := o + 1 } = false ∧ w.frozen? { block := g, off := o + 2 } = false ∧ w.frozen? { block := g, off := o + 3 } = false :=
  ⟨(h 0 (by omega)).2, (h 1 (by omega)).2, (h 2 (by omega)).2, (h 3 (by omega)).2⟩

/-- The first k of a row are written. -/
def zeroSg : Sg := ⟨0, ByteArray.empty, 0, 0⟩
def sgTo (xs : List Sg) (k : Nat) : List Sg := xs.take k ++ List.replicate (xs.length - k) zeroSg
theorem sgTo_zero (xs : List Sg) : sgTo xs 0 = List.replicate xs.length zeroSg := by simp [sgTo]
theorem sgTo_all (xs : List Sg) : sgTo xs xs.length = xs := by simp [sgTo]
theorem sgTo_len (xs : List Sg) (k : Nat) (h : k ≤ xs.length) : (sgTo xs k).length = xs.length := by simp [sgTo]; omega
theorem sgTo_succ (xs : List Sg) (k : Nat) (h : k < xs.length) : (sgTo xs k).set k xs[k] = sgTo xs (k + 1) := by
  unfold sgTo
  have e : xs.length - k = (xs.length - (k + 1)) + 1 := by omega
  rw [List.set_append_right _ _ (by rw [List.length_take]; omega), List.length_take, Nat.min_eq_left (by omega), Nat.sub_self, e, List.replicate_succ, List.set_cons_zero, List.take_succ_eq_append_getElem h, List.append_assoc]
  rfl
theorem sgZero_cells (n : Nat) : sgCells (List.replicate n zeroSg) = (madeCells zeroSg.val.cells (n * 4)).toList := by
  have hz : zeroSg.val.cells = #[.int .i64 0, .string ByteArray.empty, .int .i64 0, .int .i64 0] := rfl
  apply List.ext_getElem?
  intro i
  by_cases hi : i < n * 4
  · have h1 : (sgCells (List.replicate n zeroSg))[i]? = zeroSg.cells[i % 4]? := by
      have := sgCells_at (List.replicate n zeroSg) (i / 4) (i % 4) (by simp; omega) (by omega)
      rw [show i / 4 * 4 + i % 4 = i from by omega] at this
      rw [this]
      simp
    rw [h1, hz]
    simp only [madeCells, Array.toList_map, Array.toList_range, List.getElem?_map, List.getElem?_range hi, Option.map_some]
    have h4 : i % 4 < 4 := by omega
    generalize i % 4 = m at h4
    match m, h4 with
    | 0, _ => rfl
    | 1, _ => rfl
    | 2, _ => rfl
    | 3, _ => rfl
  · rw [List.getElem?_eq_none (by rw [sgCells_len]; simp; omega), List.getElem?_eq_none (by rw [Array.length_toList, size_madeCells]; omega)]

def ToRel (w : World) (xs : List Sg) (v : Value) (iv : Value) (wr : World) : Prop :=
  ∃ k : Nat, k ≤ xs.length ∧ iv = .int .i64 k ∧ wr.ownsRow w.heap.size 42 4 v xs.length (sgCells (sgTo xs k)) ∧ Below w.heap.size w wr

theorem infoSi3 : (Try.prog.info? 42).map (fun i => (i.zero, i.size, i.bytes)) = some (some zeroSg.val, 4, 40) := by kernel_rfl

set_option maxHeartbeats 1000000 in
theorem toSignS_any (v : Value) (xs : List Sg) (w : World) (h : SgAt w v xs) (hlen : xs.length ≤ 1048576) :
    Calls Try.prog 12 #[v] w fun e w' => ∃ v', e = .returned v' ∧ w'.ownsRow w.heap.size 42 4 v' xs.length (sgCells xs) ∧ Below w.heap.size w w' := by
  obtain ⟨ao, c, rfl, hc⟩ := h
  obtain ⟨i0, hi, hz0, hz1, hz2⟩ := info_parts infoSi3
  obtain ⟨wm, hmk, hown, hgr⟩ := run_make_full (P := Try.prog) w w.heap.size 26 42 i0 zeroSg.val 4 Try.underlying26 hi hz0 hz1 .i64 .i64 xs.length (by rw [hz2]; omega) (by unfold maxLen; omega) (Nat.le_refl _)
  rw [← sgZero_cells, ← sgTo_zero] at hown
  have HO := hide hown
  have HG := hide hgr
  have HC := hide hc
  clear hc hown hgr hi hz0 hz1 hz2
  go_enter Try.func12, Try.ntmps12
  go_wp2
  go_loopw [4] (fun iv wr => ToRel w xs (.slice (some ⟨w.heap.size, 0, none⟩) xs.length xs.length) iv wr) (fun iv _ => xs.length - (intOf iv).toNat)
  case atStart => exact ⟨0, Nat.zero_le _, rfl, HO.out, (Below.refl _ _).grown HG.out (Nat.le_refl _) (fun k hk => by cases hk)⟩
  case round =>
    obtain ⟨k, hk, rfl, hown, hb⟩ := hrel
    by_cases hlt : k < xs.length
    · obtain ⟨a, rfl, ha, hcell⟩ := HC.out k hlt
      have hcell2 := hcell.stays hb (by rw [add_block]; exact ha)
      obtain ⟨x, ex⟩ : ∃ x, x = xs[k] := ⟨_, rfl⟩
      rw [← ex] at hcell2
      obtain ⟨p, hp⟩ : ∃ p, a.add (k * 4) = p := ⟨_, rfl⟩
      rw [hp] at hcell2
      obtain ⟨c0, c1, c2, c3⟩ := hcell2.facts
      have hi0 : (0 : Int) ≤ (k : Int) := by omega
      have hi1 : (k : Int) < (xs.length : Int) := by omega
      have EX := hide ex
      have HO := hide hown
      have HB := hide hb
      clear hcell hcell2 ex hown hb
      go_wp2_with (go_at_call 21; refine (toSign_any x _).mono ?_; rintro e w1 ⟨rfl, hb1⟩; have hown1 := ownsRow_stays HO.out hb1; have hth := there_own hown1 k hlt; obtain ⟨⟨y0, y1, y2, y3⟩, hy0, hy1, hy2, hy3⟩ := there_cells hth; obtain ⟨f0, f1, f2, f3⟩ := there_free hth)
      have HR : Hid ((w1.setCells w.heap.size (k * 4) x.cells).ownsRow w.heap.size 42 4 (.slice (some ⟨w.heap.size, 0, none⟩) xs.length xs.length) xs.length (sgCells (sgTo xs (k + 1)))) := by
        have h := ownsRow_setCells x.cells (k * 4) _ _ hown1
        rw [setL_sg _ _ _ (by rw [sgTo_len xs k (by omega)]; exact hlt), EX.out, sgTo_succ xs k hlt] at h
        rw [EX.out]
        exact h
      have HB2 : Hid (Below w.heap.size w (w1.setCells w.heap.size (k * 4) x.cells)) := below_setCells (Nat.le_refl _) _ _ _ (HB.out.trans (hb1.mono HB.out.size))
      go_roundw
      case rel => exact ⟨k + 1, by omega, by go_num, HR.out, HB2.out⟩
      case measure => simp [intOf]; omega
    · go_wp2
      go_ret
      refine ⟨_, rfl, ?_, hb⟩
      have e : k = xs.length := by omega
      rw [e, sgTo_all] at hown
      exact hown
end Go.Proofs.Ytfnmpohcoabenaa
