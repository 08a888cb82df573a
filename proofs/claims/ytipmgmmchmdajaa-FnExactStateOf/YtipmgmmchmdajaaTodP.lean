/-
  Walks: what is to be done as a list behind pointers, by the program: as a row again.
-/
import Derived.Test.YtipmgmmchmdajaaTodW
import Derived.Deep.OwnRows
import Derived.Test.YtipmgmmchmdajaaTreeP
import Derived.Test.YtipmgmmchmdajaaAid
namespace Go.Proofs.Ytipmgmmchmdajaa
open Go.RowKit

/-- The row, filled from its end down to a place. -/
def rowF (xs : List Int) (a : Nat) : List Int := List.replicate a 0 ++ xs.drop a
theorem rowF_len {xs : List Int} {a : Nat} (h : a ≤ xs.length) : (rowF xs a).length = xs.length := by
  rw [rowF, List.length_append, List.length_replicate, List.length_drop]
  omega
theorem rowF_step {xs : List Int} {a : Nat} (h : a < xs.length) : (rowF xs (a + 1)).set a xs[a] = rowF xs a := by
  rw [rowF, rowF, List.replicate_succ', List.append_assoc, List.set_append_right _ _ (by simp), List.length_replicate, Nat.sub_self, List.singleton_append, List.set_cons_zero, ← List.drop_eq_getElem_cons h]
theorem rowF_zero (xs : List Int) : rowF xs 0 = xs := by simp [rowF]
theorem made_ints (n : Nat) : (madeCells #[.int .i64 0] n).toList = (List.replicate n (0 : Int)).map I64 := by
  have := made_flat [.int .i64 0] (by simp) n
  simp only [List.length_singleton, Nat.mul_one] at this
  rw [this]
  induction n with
  | zero => rfl
  | succ n ih => simp [List.replicate_succ]
/-- The row under way. -/
structure PlZ (w : World) (xs : List Int) (a : Nat) (t : Value) (z : World) : Prop where
  own : z.ownsRow w.heap.size 3 1 (.slice (some ⟨w.heap.size, 0, none⟩) xs.length xs.length) xs.length ((rowF xs a).map I64)
  ch : Chain z t (xs.take a).reverse
  bel : Below w.heap.size w z
theorem PlZ.store {w : World} {xs : List Int} {a : Nat} {t t' : Value} {z : World} (h : PlZ w xs (a + 1) t z) (ha : a < xs.length) (hc : Chain z t' (xs.take a).reverse) : PlZ w xs a t' (z.setCell ⟨w.heap.size, a, none⟩ (.int .i64 xs[a])) := by
  refine ⟨?_, ?_, h.bel.setCell (p := ⟨w.heap.size, a, none⟩) (Nat.le_refl _) _⟩
  · have h9 := (h.own.stored a (.int .i64 xs[a])).1
    rw [← rowF_step ha, List.map_set]
    exact h9
  · rcases h.own.2 with ⟨e, _⟩ | ⟨g, cap, cur, e, _, hg, _⟩
    · cases e
    · injection e with e _ _
      injection e with e
      injection e with e _ _
      subst e
      exact hc.other hg (by decide) _ _
def PlQ (w : World) (xs : List Int) (av tv : Value) (z : World) : Prop := ∃ (a : Nat) (t : Option Addr), a ≤ xs.length ∧ av = .int .i64 (a : Int) ∧ tv = .pointer t ∧ Hid (PlZ w xs a (.pointer t) z)
theorem infoI3 : (Try.prog.info? 3).map (fun i => (i.zero, i.size, i.bytes)) = some (some (.int .i64 0), 1, 8) := by kernel_rfl
theorem makeI_run (n : Nat) (hn : n ≤ 1048576) (w : World) : (Instr.makeSlice 30 (.int .i64 (n : Int)) (.int .i64 (n : Int))).run Try.prog w = .ok (.slice (some ⟨w.heap.size, 0, none⟩) n n) (w.alloc (.cells (madeCells #[.int .i64 0] n) 3)) :=
  run_make_row' 30 3 (.int .i64 0) 8 Try.underlying30 infoI3 rfl .i64 .i64 n (by omega) (by omega) w

set_option maxRecDepth 100000 in
set_option maxHeartbeats 2000000 in
theorem places_any (b o : Nat) (t : Option Addr) (xs : List Int) (cs : Array Value) (T : TypeId) (w : World) (hb : Box w b cs T) (h0 : cs[o]? = some (.pointer t)) (h1 : cs[o + 1]? = some (.int .i64 (xs.length : Int))) (hc : Chain w (.pointer t) xs.reverse) (hl : xs.length ≤ 1048576) :
    Calls Try.prog 71 #[.pointer (some ⟨b, o, none⟩)] w fun e w' => ∃ v, e = .returned v ∧ w'.ownsRow w.heap.size 3 1 v xs.length (xs.map I64) ∧ Below w.heap.size w w' := by
  have c1 := (Lib.cell_of_heap hb (o + 1)).trans h1
  have hb1 : Below w.heap.size w (w.alloc (.cells (madeCells #[.int .i64 0] xs.length) 3)) := (Below.refl _ _).alloc (Nat.le_refl _) _
  have d0 := (Lib.cell_of_heap (hb.stays hb1) o).trans h0
  have d1 := (Lib.cell_of_heap (hb.stays hb1) (o + 1)).trans h1
  have Z1 : Hid (PlZ w xs xs.length (.pointer t) (w.alloc (.cells (madeCells #[.int .i64 0] xs.length) 3))) := by
    refine hide ⟨⟨by rw [List.length_map, rowF_len (Nat.le_refl _), Nat.mul_one], .inr ⟨w.heap.size, xs.length, madeCells #[.int .i64 0] xs.length, rfl, Nat.le_refl _, heap_alloc_new w _, Nat.le_refl _, by unfold maxLen; omega, by rw [size_madeCells, Nat.mul_one], ?_⟩⟩, by rw [List.take_length]; exact hc.stays hb1, hb1⟩
    rw [made_ints, Nat.mul_one, rowF, List.drop_length, List.append_nil, List.take_of_length_le (by simp)]
  clear hb1 hb h0 h1 hc
  have HM := hide fun z => makeI_run xs.length hl z
  obtain ⟨n, en⟩ : ∃ n, xs.length = n := ⟨_, rfl⟩
  have EN := hide en
  rw [en] at hl c1 d0 d1 HM ⊢
  have Z1' := hide Z1.out
  rw [en] at Z1'
  clear en Z1
  go_enter Try.func71, Try.ntmps71
  have hmk := HM.out w
  go_wp2_with fail
  go_loopw [4, 5] (fun av tv z => PlQ w xs av tv z) (fun av _ _ => (intOf av).toNat)
  case atStart => exact ⟨n, t, by rw [EN.out]; omega, rfl, rfl, Z1'⟩
  case round =>
    clear Z1' c1 d0 d1 hmk HM
    obtain ⟨a, t, ha, rfl, rfl, Z⟩ := hrel
    cases a with
    | zero =>
      obtain rfl : t = none := by
        have := Z.out.ch
        rw [List.take_zero] at this
        injection this
      have HO := hide Z.out.own
      rw [rowF_zero, EN.out] at HO
      go_wp2
      go_ret
      exact ⟨_, rfl, HO.out, Z.out.bel⟩
    | succ a =>
      have hin : a < xs.length := by omega
      have HCH := hide Z.out.ch
      rw [List.take_succ_eq_append_getElem hin, List.reverse_append, List.reverse_singleton, List.singleton_append] at HCH
      obtain ⟨g, nx, et, hg, hc⟩ := HCH.out
      injection et with et
      subst et
      obtain ⟨nt, rfl⟩ := hc.form
      have Z2 := hide (Z.out.store hin hc)
      have hg2 : Box (wr.setCell ⟨w.heap.size, a, none⟩ (.int .i64 xs[a])) g #[.int .i64 xs[a], .pointer nt] 120 := by
        rcases Z.out.own.2 with ⟨e, _⟩ | ⟨g', cap, cur, e, _, hg', _⟩
        · cases e
        · injection e with e _ _
          injection e with e
          injection e with e _ _
          subst e
          refine hg.other _ _ fun e => ?_
          have e' : g = w.heap.size := e
          subst e'
          have h1 : wr.heap[w.heap.size]? = _ := hg
          rw [h1] at hg'
          injection hg' with h2
          injection h2 with _ h2
          exact absurd h2 (by decide)
      obtain ⟨⟨uo, hu⟩, hf⟩ := own_there Z.out.own a (by omega) 0 (by decide)
      rw [Nat.mul_one, Nat.add_zero] at hu hf
      have k0 := Lib.cell_of_heap hg 0
      have k1 := Lib.cell_of_heap hg2 1
      simp at k0 k1
      have hi0 : (0 : Int) ≤ (a : Int) := by omega
      have hi1 : (a : Int) < (n : Int) := by rw [← EN.out]; omega
      have hw : wrap64 ((a : Int) + 1 - 1) = (a : Int) := by unfold wrap64; omega
      have ha2 := ha
      clear hg hg2 hc HCH Z
      generalize xs[a] = k at *
      go_wp2
      go_roundw
      case rel => exact ⟨a, nt, by omega, by go_num, rfl, Z2⟩
      case measure => simp [intOf]
end Go.Proofs.Ytipmgmmchmdajaa

namespace Go.Proofs.Ytipmgmmchmdajaa
open Go.RowKit

/-- The word that stands for what comes out of an entry. -/
def resultN : ByteArray := ⟨#[114, 101, 115, 117, 108, 116]⟩
/-- No two are the same, and none is that word. -/
noncomputable def unlikeB (xs : List ByteArray) : Bool := @decide (xs.Nodup ∧ resultN ∉ xs) (Classical.propDecidable _)
theorem unlike_nil : unlikeB [] = true := by simp [unlikeB]
theorem unlike_snoc (ys : List ByteArray) (x : ByteArray) : unlikeB (ys ++ [x]) = true ↔ unlikeB ys = true ∧ x ≠ resultN ∧ x ∉ ys := by
  simp only [unlikeB, decide_eq_true_eq, List.nodup_append, List.mem_append, List.mem_singleton]
  constructor
  · rintro ⟨⟨h1, _, h3⟩, h4⟩
    exact ⟨⟨h1, fun h => h4 (Or.inl h)⟩, fun e => h4 (Or.inr e.symm), fun h => h3 x h x rfl rfl⟩
  · rintro ⟨⟨h1, h2⟩, h3, h4⟩
    refine ⟨⟨h1, by simp, fun a ha b hb e => ?_⟩, fun h => ?_⟩
    · subst hb; subst e; exact h4 ha
    · rcases h with h | h
      · exact h2 h
      · exact h3 h.symm
theorem unlike_perm {xs ys : List ByteArray} (h : xs.Perm ys) : unlikeB xs = unlikeB ys := by
  unfold unlikeB
  exact decide_eq_decide.2 (and_congr h.nodup_iff (not_congr h.mem_iff))
theorem unlike_take {xs : List ByteArray} {i : Nat} (h : unlikeB (xs.take i) = false) : unlikeB xs = false := by
  rw [Bool.eq_false_iff] at h ⊢
  intro h2
  apply h
  simp only [unlikeB, decide_eq_true_eq] at h2 ⊢
  exact ⟨h2.1.sublist (List.take_sublist i xs), fun q => h2.2 (List.mem_of_mem_take q)⟩
theorem unlike_step {xs : List ByteArray} {i : Nat} (hi : i < xs.length) (h : unlikeB (xs.take i) = true) (h1 : xs[i] ≠ resultN) (h2 : xs[i] ∉ xs.take i) : unlikeB (xs.take (i + 1)) = true := by
  rw [List.take_succ_eq_append_getElem hi]
  exact (unlike_snoc _ _).2 ⟨h, h1, h2⟩
theorem unlike_stop {xs : List ByteArray} {i : Nat} (hi : i < xs.length) (h : xs[i] = resultN ∨ xs[i] ∈ xs.take i) : unlikeB xs = false := by
  apply unlike_take (i := i + 1)
  rw [List.take_succ_eq_append_getElem hi, Bool.eq_false_iff]
  intro q
  obtain ⟨_, q1, q2⟩ := (unlike_snoc _ _).1 q
  rcases h with h | h
  · exact q1 h
  · exact q2 h
theorem mem_take_of {xs : List ByteArray} {i k : Nat} (hk : k < i) (hx : k < xs.length) : xs[k] ∈ xs.take i :=
  List.mem_take_iff_getElem.2 ⟨k, by omega, rfl⟩
theorem not_mem_take {xs : List ByteArray} {i : Nat} {x : ByteArray} (h : ∀ j, j < i → xs[j]? ≠ some x) : x ∉ xs.take i := by
  intro q
  obtain ⟨j, hj, e⟩ := List.mem_take_iff_getElem.1 q
  exact h j (by omega) (by rw [List.getElem?_eq_getElem (by omega), e])
/-- Is the name among these? -/
def memB (ks : List ByteArray) (s : ByteArray) : Bool := ks.any fun x => decide (x = s)
theorem memB_iff {ks : List ByteArray} {s : ByteArray} : memB ks s = true ↔ s ∈ ks := by
  rw [memB, List.any_eq_true]
  exact ⟨fun ⟨x, h, e⟩ => of_decide_eq_true e ▸ h, fun h => ⟨s, h, decide_eq_true rfl⟩⟩
theorem memB_no {ks : List ByteArray} {s : ByteArray} : memB ks s = false ↔ s ∉ ks := by
  rw [Bool.eq_false_iff]
  exact not_congr memB_iff
theorem memB_congr {ks ls : List ByteArray} {s t : ByteArray} (h : s ∈ ks ↔ t ∈ ls) : memB ks s = memB ls t := Bool.eq_iff_iff.2 (memB_iff.trans (h.trans memB_iff.symm))
end Go.Proofs.Ytipmgmmchmdajaa
