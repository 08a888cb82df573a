/-
  Walk of the library: slices.Repeat of -1, so many times as a gate has queues.
-/
import Derived.Test.YtnedpcgdepiakaaCloW
import Derived.Deep.CutRange
import Derived.Deep.RegionLaw
namespace Go.Proofs.Ytnedpcgdepiakaa
open Go.RowKit
open Go.ChangeShapes Go.WideShapes Go.ChangeAt Go.Deep

set_option maxRecDepth 100000 in
set_option maxHeartbeats 1000000 in
theorem mul64_one (n : Nat) (w : World) (hn : n ≤ 2) : Calls Try.prog 50 #[.int .u64 1, .int .u64 (n : Int)] w fun e w' => e = .returned (.tuple #[.int .u64 0, .int .u64 (n : Int)]) ∧ w' = w := by
  have : n = 0 ∨ n = 1 ∨ n = 2 := by omega
  rcases this with rfl | rfl | rfl <;>
  · go_enter Try.func50, Try.ntmps50
    go_wp2
    go_ret2
    exact ⟨rfl, rfl⟩
set_option maxRecDepth 100000 in
set_option maxHeartbeats 1000000 in
theorem mul_one_ (n : Nat) (w : World) (hn : n ≤ 2) : Calls Try.prog 45 #[.int .u64 1, .int .u64 (n : Int)] w fun e w' => e = .returned (.tuple #[.int .u64 0, .int .u64 (n : Int)]) ∧ w' = w := by
  have C := hide (mul64_one n w hn)
  go_enter Try.func45, Try.ntmps45
  go_wp2_with (go_at_call 50; refine (unhide C).mono ?_; rintro e w1 ⟨rfl, rfl⟩)
  go_ret2
  exact ⟨rfl, rfl⟩
theorem sizeI3 : (Try.prog.info? 3).map (·.size) = some 1 := by kernel_rfl
/-- While it is repeated: the row, and how much of it stands. -/
def RpR (n : Nat) (w : World) (iv : Value) (z : World) : Prop :=
  ∃ (i : Nat) (cs : List Value), iv = .int .i64 i ∧ i ≤ n ∧ min n 1 ≤ i ∧ Hid (z.heap[w.heap.size]? = some (.cells cs.toArray 3 (0, 0))) ∧ Hid (cs.length = n) ∧ Hid (cs.take i = List.replicate i (I64 (-1))) ∧ Hid (Below w.heap.size w z)
theorem splice_take (cs X : List Value) (i : Nat) (hX : X = List.replicate X.length (I64 (-1))) (h0 : cs.take i = List.replicate i (I64 (-1))) : (splice cs i X).take (i + X.length) = List.replicate (i + X.length) (I64 (-1)) := by
  unfold splice
  rw [h0, ← List.append_assoc, List.take_append_of_le_length (by simp), List.take_of_length_le (by simp), List.append_eq_replicate_iff]
  exact ⟨by simp, by rw [List.length_replicate], hX⟩

set_option maxRecDepth 100000 in
set_option maxHeartbeats 400000 in
theorem repeat_any (b : Nat) (n : Nat) (w : World) (hn : n ≤ 2) (hb : w.cell? ⟨b, 0, none⟩ = some (I64 (-1))) (hbl : b < w.heap.size) :
    Calls Try.prog 26 #[.slice (some ⟨b, 0, none⟩) 1 1, .int .i64 (n : Int)] w fun e w' => ∃ v', e = .returned v' ∧ w'.ownsRow w.heap.size 3 1 v' n (List.replicate n (I64 (-1))) ∧ Below w.heap.size w w' := by
  have C := hide (mul_one_ n w hn)
  obtain ⟨Z, eZ⟩ : ∃ Z, (madeCells #[.int .i64 0] n).toList = Z := ⟨_, rfl⟩
  have hZ : Z.length = n := by rw [← eZ, made_ints]; simp
  have eM : madeCells #[.int .i64 0] n = Z.toArray := by rw [← eZ]
  have hmk := makeI_run n (by omega) w
  rw [eM] at hmk
  have HG : Hid ((w.alloc (.cells Z.toArray 3)).heap[w.heap.size]? = some (.cells Z.toArray 3 (0, 0))) := hide (heap_alloc_new w _)
  have HB : Hid (Below w.heap.size w (w.alloc (.cells Z.toArray 3))) := hide ((Below.refl _ _).alloc (Nat.le_refl _) _)
  have HC := hide hb
  clear eM eZ hb
  have HZ := hide hZ
  clear hZ
  have h1 : ¬ ((n : Int) < 0) := by omega
  obtain ⟨X, eX⟩ : ∃ X, List.replicate (min n 1) (I64 (-1)) = X := ⟨_, rfl⟩
  have EX := hide eX
  have HX : Hid (X.length = min n 1) := hide (by rw [← eX, List.length_replicate])
  clear eX
  have H1 : Hid (∀ u ∈ X, u.oneCell' = true) := hide (by rw [← EX.out]; intro u hu; rw [List.eq_of_mem_replicate hu]; rfl)
  have HN : Hid (X.length = Nat.min 1 n) := hide (by rw [HX.out]; exact Nat.min_comm ..)
  go_enter Try.func26, Try.ntmps26
  go_wp2_with (first
    | (go_at_call 45; refine (unhide C).mono ?_; rintro e w1 ⟨rfl, e2⟩; rw [e2]; clear e2 w1)
    | (refine wpList_copy_splice rfl (.tmp 31) (.tmp 32) 22 22 rfl 3 Try.underlying22 (by kernel_rfl) _ _ _ _ _ _ rfl rfl w.heap.size 0 Z 3 HG.out X HN.out (fun h => ⟨rfl, ?_⟩) (by rw [HX.out, HZ.out]; omega) H1.out w.heap.size w HB.out (Nat.le_refl _) ?_))
  · refine ⟨_, rfl, fun j u hj => ?_⟩
    rw [← EX.out] at hj
    obtain ⟨hj2, rfl⟩ := List.getElem?_eq_some_iff.1 hj
    rw [List.length_replicate] at hj2
    obtain rfl : j = 0 := by omega
    rw [List.getElem_replicate]
    exact (World.cell?_alloc_lt _ _ _ hbl).trans HC.out
  intro w2 HG2 hB2
  have HB2 := hide hB2
  clear hB2 HG HB hmk C HN HC
  rw [HX.out]
  go_wp2
  go_loopw [8] (RpR n w) (fun iv _ => n - (intOf iv).toNat)
  case atStart =>
    refine ⟨min n 1, _, rfl, Nat.min_le_left .., Nat.le_refl _, HG2, hide ?_, hide ?_, HB2⟩
    · rw [length_splice _ _ _ (by rw [HX.out, HZ.out]; omega)]; exact HZ.out
    · have := splice_take Z X 0 (by rw [HX.out]; exact EX.out.symm) rfl
      rw [Nat.zero_add, HX.out] at this
      exact this
  case round =>
    clear HG2 HB2 w2 HZ EX HX H1
    obtain ⟨i, cs, rfl, hi, hm, HG, HL, HT, HB⟩ := hrel
    by_cases hlt : i < n
    · obtain rfl : n = 2 := by omega
      obtain rfl : i = 1 := by omega
      obtain ⟨x, y, rfl⟩ : ∃ x y, cs = [x, y] := by
        match cs, HL.out with
        | [x, y], _ => exact ⟨x, y, rfl⟩
      obtain rfl : x = I64 (-1) := by have := HT.out; simpa using this
      have H1 : Hid (∀ u ∈ [I64 (-1)], u.oneCell' = true) := hide (by intro u hu; rw [List.mem_singleton.1 hu]; rfl)
      have HC1 : Hid (∀ j u, [I64 (-1)][j]? = some u → wr.drew.cell? ((⟨w.heap.size, 0, none⟩ : Addr).add j) = some u) := by
        refine hide fun j u hj => ?_
        obtain ⟨hj2, rfl⟩ := List.getElem?_eq_some_iff.1 hj
        obtain rfl : j = 0 := by simpa using hj2
        exact Lib.cell_of_heap HG.out 0
      go_wp2_with fail
      go_region_law (refine step_copy_splice rfl (.tmp 41) (.tmp 44) 22 22 rfl 3 Try.underlying22 sizeI3 (some ⟨w.heap.size, 1, none⟩) (some ⟨w.heap.size, 0, none⟩) 1 1 1 2 ?_ ?_ w.heap.size 1 [I64 (-1), y] 3 ?_ [I64 (-1)] rfl ?_ ?_ ?_ w.heap.size w ?_ (Nat.le_refl _) ?_; (kernel_rfl); (kernel_rfl); (exact HG.out); (exact fun _ => ⟨rfl, _, rfl, fun j u hj => HC1.out j u hj⟩); (simp); (exact H1.out); (exact HB.out.drew); intro w3 HG3 hB3; have HB3 := hide hB3; clear hB3)
      go_simp
      rw [show IntKind.i64.wrap 2 = 2 from rfl]
      go_roundw
      case rel => exact ⟨.int .i64 2, _, _, _, _, _, _, _, _, _, _, _, _, _, ⟨2, _, rfl, by omega, by omega, HG3, hide rfl, hide rfl, HB3⟩, rfl⟩
      case measure => simp [intOf]
    · obtain rfl : i = n := by omega
      have hlt' : ¬ (i : Int) < (i : Int) := by omega
      go_wp2
      go_ret
      refine ⟨_, rfl, ⟨by simp, .inr ⟨w.heap.size, i, _, rfl, Nat.le_refl _, HG.out, Nat.le_refl _, by unfold maxLen; omega, ?_, ?_⟩⟩, HB.out⟩
      · simp [HL.out]
      · rw [Nat.mul_one]; exact HT.out
end Go.Proofs.Ytnedpcgdepiakaa
