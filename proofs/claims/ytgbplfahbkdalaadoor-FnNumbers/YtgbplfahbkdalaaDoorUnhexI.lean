/-
  Walks: figures of the base 16 read, by the program; the law.
-/
import Derived.Test.YtgbplfahbkdalaaDoorUnhexS
namespace Go.Proofs.YtgbplfahbkdalaaDoor
open Go.RowKit

/-- What the loop keeps: the first figures have become bytes; what the figures are worth lies below B. -/
def UnIRel (s : ByteArray) (ds : List Int) (B : Nat) (w : World) (v i : Value) (wr : World) : Prop :=
  ∃ k : Nat, 2 * k ≤ s.size ∧ i = .int .i64 ((2 * k : Nat) : Int) ∧ wr.ownsRow B 5 1 v k ((pairsL (ds.take (2 * k))).map (Value.int .u8)) ∧ Below B w wr

theorem take_two {ds : List Int} {k : Nat} {x y : Int} (hx : ds[2 * k]? = some x) (hy : ds[2 * k + 1]? = some y) : ds.take (2 * (k + 1)) = ds.take (2 * k) ++ [x, y] := by
  rw [show 2 * (k + 1) = 2 * k + 1 + 1 by omega, List.take_add_one, List.take_add_one, hx, hy]
  simp

theorem UnIRel.step {s : ByteArray} {ds : List Int} {B k : Nat} {x y z : Int} {w wr w1 : World} {v' : Value} {o : Obj} (hB : B ≤ wr.heap.size) (hk : 2 * k + 1 < s.size) (hl : 2 * k ≤ ds.length) (hx : ds[2 * k]? = some x) (hy : ds[2 * k + 1]? = some y)
    (hz : z = 16 * x + y) (hb : Below B w wr) (hown : w1.ownsRow B 5 1 v' (k + 1) ((pairsL (ds.take (2 * k))).map (Value.int .u8) ++ [.int .u8 z])) (hb1 : Below B (wr.alloc o).drew w1) :
    UnIRel s ds B w v' (.int .i64 (2 * (k : Int) + 2)) w1 := by
  refine ⟨k + 1, by omega, by go_num, ?_, ((hb.alloc hB o).drew).trans hb1⟩
  rw [take_two hx hy, pairsL_snoc k _ _ _ (by simp; omega), ← hz]
  simpa using hown

theorem keep_cell {B : Nat} {wr w2 : World} {o : Obj} {g i : Nat} {v : Value} (hB : B ≤ wr.heap.size) (hb1 : Below B (wr.alloc o).drew w2) (hg : g < B) (hc : wr.cell? ⟨g, i, none⟩ = some v) : w2.cell? ⟨g, i, none⟩ = some v :=
  (hb1.cell (p := ⟨g, i, none⟩) hg).trans ((World.cell?_alloc_past _ _ _ (by omega)).trans hc)

theorem one_new (w : World) (e : TypeId) (x : Value) : ∀ j u, [x][j]? = some u → ((w.alloc (.cells #[x] e)).drew).cell? ((⟨w.heap.size, 0, none⟩ : Addr).add j) = some u :=
  World.news_of_block (w := (w.alloc (.cells #[x] e)).drew) (cs := #[x]) (t := e) (fr := (0, 0)) (heap_alloc_new w _)

set_option maxRecDepth 100000 in
set_option maxHeartbeats 1000000 in
theorem implUnhex_yes (s : ByteArray) (w : World) (hs : s.size ≤ 40000) (he : s.size % 2 = 0) : Calls Tryd.prog 14 #[.string s] w (UnEnd s w) := by
  have hd : decide ((40000 : Int) < (s.size : Int)) = false := by simp; omega
  have hd2 : ((s.size : Int) % 2 != 0) = false := by simp; omega
  obtain ⟨M, hM, hmk⟩ := make_run (s.size / 2) (by omega)
  rw [show ((s.size / 2 : Nat) : Int) = (s.size : Int) / 2 by omega] at hmk
  have HM := hide hM
  clear hM
  go_enter Tryd.func14, Tryd.ntmps14
  go_wp2_with fail
  refine (figuresOf_any 16 s _ hs (by omega)).mono ?_
  rintro e w1 (⟨v, ds, rfl, hnums, hown, hb⟩ | ⟨rfl, hnums, hb⟩)
  · have hlen := numsB_length _ _ hnums
    have hin := numsB_in _ _ hnums
    have hsl : s.data.toList.length = s.size := by rw [Array.length_toList]; rfl
    rw [hsl] at hlen
    have HB := hide hb
    have HN := hide hnums
    have hg1 := hown
    rcases hown.2 with ⟨rfl, h0⟩ | ⟨g, cap, cur, rfl, _, hgl, _, _, _, _⟩
    · have h0' : ds = [] := List.length_eq_zero_iff.1 (by omega)
      subst h0'
      have hc0 : (convert 22 9 (.slice (some ⟨w1.heap.size, 0, none⟩) 0 (s.size / 2))).run Tryd.prog (w1.alloc (.cells M 5)) = .ok (.string (strOfNums (pairsL []))) (w1.alloc (.cells M 5)) :=
        conv_own (n := 0) (base := w1.heap.size) 22 9 5 Tryd.underlying22 Tryd.underlying5 Tryd.underlying9 (World.ownsRow_made w1 M (s.size / 2) (Nat.le_refl _) (by unfold maxLen; omega) (by rw [HM.out]; omega))
      have hsz0 := hb.size
      have hz0 : (s.size : Int) ≤ 0 := by omega
      clear hown hg1 hb hnums h0 hlen
      go_wp2
      refine wp_loop_rounds 1 ?_
      rw [rounds_succ]
      go_wp2
      go_ret2
      exact ⟨.inl ⟨[], HN.out, rfl⟩, HB.out.alloc hsz0 _⟩
    · have hcell : ∀ i, i < s.size → w1.cell? ⟨g, i, none⟩ = some (.int .i64 (ds.getD i 0)) := fun i hi => by
        have := hown.cellAt i (by omega)
        rw [this, List.getElem?_map, List.getD_eq_getElem?_getD, List.getElem?_eq_getElem (by omega)]
        rfl
      have hgs : g < w1.heap.size := (hown.lt g rfl).2
      have HCell := hide hcell
      have HIn := hide hin
      clear hown hg1 hb hnums hcell hin hgl
      go_wp2
      go_loopw [6, 7] (fun v i wr => UnIRel s ds w1.heap.size w1 v i wr) (fun _ i _ => s.size - (intOf i).toNat)
      case atStart => exact ⟨0, by omega, rfl, World.ownsRow_made w1 M (s.size / 2) (Nat.le_refl _) (by unfold maxLen; omega) (by rw [HM.out]; omega), (Below.refl _ _).alloc (Nat.le_refl _) _⟩
      case round =>
        clear hmk
        obtain ⟨k, hk, rfl, hown, hb⟩ := hrel
        have hsz := hb.size
        by_cases hlt : 2 * k < s.size
        · have hlt2 : 2 * k + 1 < s.size := by omega
          have hx : ds[2 * k]? = some (ds.getD (2 * k) 0) := by rw [List.getD_eq_getElem?_getD, List.getElem?_eq_getElem (by omega)]; rfl
          have hy : ds[2 * k + 1]? = some (ds.getD (2 * k + 1) 0) := by rw [List.getD_eq_getElem?_getD, List.getElem?_eq_getElem (by omega)]; rfl
          have hcx : wr.cell? ⟨g, 2 * k, none⟩ = some (.int .i64 (ds.getD (2 * k) 0)) := (hb.cell (p := ⟨g, 2 * k, none⟩) hgs).trans (HCell.out _ hlt)
          have hcy : wr.cell? ⟨g, 2 * k + 1, none⟩ = some (.int .i64 (ds.getD (2 * k + 1) 0)) := (hb.cell (p := ⟨g, 2 * k + 1, none⟩) hgs).trans (HCell.out _ hlt2)
          have hxi := HIn.out _ (List.mem_of_getElem? hx)
          have hyi := HIn.out _ (List.mem_of_getElem? hy)
          obtain ⟨x, ex⟩ : ∃ x, x = ds.getD (2 * k) 0 := ⟨_, rfl⟩
          obtain ⟨y, ey⟩ : ∃ y, y = ds.getD (2 * k + 1) 0 := ⟨_, rfl⟩
          rw [← ex] at hx hcx hxi
          rw [← ey] at hy hcy hyi
          have HX := hide hx
          have HY := hide hy
          have ea1 : (2 * (k : Int)).toNat = 2 * k := by omega
          have ea2 : (2 * (k : Int) + 1).toNat = 2 * k + 1 := by omega
          have hi0 : (0 : Int) ≤ 2 * (k : Int) := by omega
          have hi1 : 2 * (k : Int) < (s.size : Int) := by omega
          have hi2 : (0 : Int) ≤ 2 * (k : Int) + 1 := by omega
          have hi3 : 2 * (k : Int) + 1 < (s.size : Int) := by omega
          have hw1 : IntKind.i64.wrap (2 * (k : Int) + 1) = 2 * (k : Int) + 1 := IntWalk.i64_in _ (by omega)
          have hw2 : IntKind.i64.wrap (x * 16) = x * 16 := IntWalk.i64_in _ (by omega)
          have hw3 : IntKind.i64.wrap (x * 16 + y) = x * 16 + y := IntWalk.i64_in _ (by omega)
          have hw4 : IntKind.u8.wrap (x * 16 + y) = x * 16 + y := by simp [IntKind.wrap, IntKind.signed, IntKind.bits]; omega
          have HO := hide ((hown.alloc (.cells #[.int .u8 (x * 16 + y)] 5)).drew)
          have HNew := hide (one_new wr 5 (.int .u8 (x * 16 + y)))
          have HB2 := hide hb
          clear hown hb hx hy ex ey
          go_wp2
          go_region_held3 (fun w' => w'.cell? ⟨g, 2 * k, none⟩ = some (.int .i64 x) ∧ w'.cell? ⟨g, 2 * k + 1, none⟩ = some (.int .i64 y)) (first | go_keep | exact ⟨keep_cell hsz hb1 hgs hcx, keep_cell hsz hb1 hgs hcy⟩)
            ((refine step_appn ?_ (.tmp 34) (.tmp 47) 22 ?_ w1.heap.size 5 (.int .u8 0) 1 Tryd.underlying22 Tryd.info5 rfl _ k _ ?_ (unhide HO) ⟨wr.heap.size, 0, none⟩ 1 1 _ ?_ rfl (unhide HNew) ?_ ?_ ?_ ?_ ?_; (rfl); (rfl); (rfl); (rfl); (simp [Value.oneCell']); (unfold maxLen; omega); (omega); (simp; omega); intro v' w2 hown1 hb1))
          all_goals
            have R := hide (UnIRel.step (s := s) hsz hlt2 (by omega) HX.out HY.out (by omega) HB2.out hown1 hb1)
            clear hown1 hb1
            go_wp2
            go_roundw
            case rel => exact unhide R
            case measure => simp [intOf]; omega
        · have hc : (convert 22 9 u6).run Tryd.prog wr = .ok (.string (strOfNums (pairsL ds))) wr := by
            have := hown
            rw [List.take_of_length_le (by omega)] at this
            exact conv_own 22 9 5 Tryd.underlying22 Tryd.underlying5 Tryd.underlying9 this
          clear hown
          go_wp2
          go_ret2
          exact ⟨.inl ⟨ds, HN.out, rfl⟩, HB.out.trans (hb.mono HB.out.size)⟩
  · go_wp2
    go_ret2
    exact ⟨.inr ⟨hnums, rfl⟩, hb⟩

theorem implUnhex_no (s : ByteArray) (w : World) (hs : 40000 < s.size ∨ s.size % 2 ≠ 0) (_h : s.size ≤ 1048576) :
    Calls Tryd.prog 14 #[.string s] w fun e w' => e = .returned (.tuple #[.string ⟨#[]⟩, .bool false]) ∧ w = w' := by
  by_cases h1 : s.size % 2 = 0
  · have hd2 : ((s.size : Int) % 2 != 0) = false := by simp; omega
    have h2 : 40000 < s.size := by omega
    go_enter Tryd.func14, Tryd.ntmps14
    go_wp2
    go_ret2
    exact ⟨rfl, rfl⟩
  · have hd2 : ((s.size : Int) % 2 != 0) = true := by simp; omega
    go_enter Tryd.func14, Tryd.ntmps14
    go_wp2
    go_ret2
    exact ⟨rfl, rfl⟩

end Go.Proofs.YtgbplfahbkdalaaDoor
