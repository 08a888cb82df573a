/-
  Walk: what register A has behind a word, and its fault, by the program.
-/
import Derived.Test.YtmchgmpdhfefjaaWkE
namespace Go.Proofs.Ytmchgmpdhfefjaa
open Go.RowKit

/-- A call that changes nothing, behind two orders that were drawn. -/
theorem quiet_sum {P : Program} {f : FuncId} {args : Array Value} (U : World) (k j : Nat) (v : Value) (h : Calls P f args (U.drewN (k + j)) fun e w' => e = .returned v ∧ U.drewN (k + j) = w') : Calls P f args (U.drewN (k + j)) fun e w' => e = .returned v ∧ ∃ m, w' = U.drewN (k + m) :=
  h.mono fun _ _ ⟨he, hw⟩ => ⟨he, j, hw.symm⟩

set_option maxRecDepth 100000 in
set_option maxHeartbeats 8000000 in
theorem implValue_any {B G : Nat} {mv : Value} (r0 r1 r2 r3 r4 r5 r6 r7 p q : Int) (mem : List Int) (op a b c : Int) (z : World) (h : WkZ B G mv [r0, r1, r2, r3, r4, r5, r6, r7] p q mem z) (ha : 0 ≤ a ∧ a ≤ 7) (hb : 0 ≤ b ∧ b ≤ 7) (hc : 0 ≤ c) (hm : touchB op = true → c < mem.length) :
    Calls Try.prog 45 #[.pointer (some ⟨G, 0, none⟩), .agg #[.int .i64 op, .int .i64 a, .int .i64 b, .int .i64 c]] z fun e w' => e = .returned (two (valN ⟨[r0, r1, r2, r3, r4, r5, r6, r7], p, q⟩ ⟨op, a, b, c⟩ mem) (valF ⟨[r0, r1, r2, r3, r4, r5, r6, r7], p, q⟩ ⟨op, a, b, c⟩ mem)) ∧ Below z.heap.size z w' := by
  obtain ⟨ka, rfl⟩ : ∃ k : Nat, a = (k : Int) := ⟨a.toNat, by omega⟩
  obtain ⟨kb, rfl⟩ : ∃ k : Nat, b = (k : Int) := ⟨b.toNat, by omega⟩
  obtain ⟨kc, rfl⟩ : ∃ k : Nat, c = (k : Int) := ⟨c.toNat, by omega⟩
  have hal : Below z.heap.size z (z.alloc (.cells #[.int .i64 op, .int .i64 (ka : Int), .int .i64 (kb : Int), .int .i64 (kc : Int)] 34)) := (Below.refl _ _).alloc (Nat.le_refl _) _
  have H1 := h.stays hal
  have g1 := H1.reg (show ka < [r0, r1, r2, r3, r4, r5, r6, r7].length by simp; omega)
  have g2 := H1.reg (show kb < [r0, r1, r2, r3, r4, r5, r6, r7].length by simp; omega)
  obtain ⟨n1, en1⟩ : ∃ n, [r0, r1, r2, r3, r4, r5, r6, r7].getD ka 0 = n := ⟨_, rfl⟩
  obtain ⟨n2, en2⟩ : ∃ n, [r0, r1, r2, r3, r4, r5, r6, r7].getD kb 0 = n := ⟨_, rfl⟩
  rw [en1] at g1
  rw [en2] at g2
  have a0 : (0 : Int) ≤ (ka : Int) := by omega
  have a1 : (ka : Int) < 8 := by omega
  have b0 : (0 : Int) ≤ (kb : Int) := by omega
  have b1 : (kb : Int) < 8 := by omega
  have c0 : (0 : Int) ≤ (kc : Int) := by omega
  obtain ⟨m, em⟩ : ∃ m, mem.getD kc 0 = m := ⟨_, rfl⟩
  have HV : valN ⟨[r0, r1, r2, r3, r4, r5, r6, r7], p, q⟩ ⟨op, ka, kb, kc⟩ mem = if op = 1 then (kc : Int) else if op = 2 ∨ op = 9 then (if vok m = true then m else 0) else if op = 4 then calcX kc n1 n2 else if op = 5 then (if n1 = 0 then 1 else 0) else if op = 6 then negN n1 else n1 := by rw [← en1, ← en2, ← em]; rfl
  have HF : valF ⟨[r0, r1, r2, r3, r4, r5, r6, r7], p, q⟩ ⟨op, ka, kb, kc⟩ mem = if op = 1 then 0 else if op = 2 ∨ op = 9 then (if vok m = true then 0 else 4) else if op = 4 then calcY kc n1 n2 else if op = 5 then 0 else if op = 6 then negF n1 else 0 := by rw [← en1, ← en2, ← em]; rfl
  obtain ⟨V, eV⟩ : ∃ V, valN ⟨[r0, r1, r2, r3, r4, r5, r6, r7], p, q⟩ ⟨op, ka, kb, kc⟩ mem = V := ⟨_, rfl⟩
  obtain ⟨F, eF⟩ : ∃ F, valF ⟨[r0, r1, r2, r3, r4, r5, r6, r7], p, q⟩ ⟨op, ka, kb, kc⟩ mem = F := ⟨_, rfl⟩
  rw [eV] at HV
  rw [eF] at HF
  rw [eV, eF]
  clear eV eF en1 en2 ha hb hc
  have HAL := hide hal
  have b10 : Box _ G #[.int .i64 r0, .int .i64 r1, .int .i64 r2, .int .i64 r3, .int .i64 r4, .int .i64 r5, .int .i64 r6, .int .i64 r7, .int .i64 p, .int .i64 q, mv] 61 := H1.bO
  have q10 := Lib.cell_of_heap b10 10
  simp at q10
  clear b10
  by_cases ht : op = 2 ∨ op = 9
  · have hlt := hm (by unfold touchB; rcases ht with rfl | rfl <;> rfl)
    obtain ⟨mq, mc, rfl, _⟩ := own_form H1.mo (by omega)
    obtain ⟨qm, _⟩ := own_cell H1.mo (show kc < mem.length by omega)
    rw [em] at qm
    obtain ⟨n, en⟩ : ∃ n, mem.length = n := ⟨_, rfl⟩
    rw [en] at q10 hlt
    have CL := fun z => hide (implLoaded_any m z)
    obtain rfl : V = if vok m = true then m else 0 := by rw [HV]; rcases ht with rfl | rfl <;> simp
    obtain rfl : F = if vok m = true then (0 : Int) else 4 := by rw [HF]; rcases ht with rfl | rfl <;> simp
    clear H1 h hal hm em en HV HF g2 n2 b0 b1
    obtain ⟨l1, e1⟩ : ∃ l, (if vok m = true then m else 0) = l := ⟨_, rfl⟩
    obtain ⟨l2, e2⟩ : ∃ l, (if vok m = true then (0 : Int) else 4) = l := ⟨_, rfl⟩
    simp only [e1, e2, two] at CL
    have CL' := fun (U : World) k j => hide (quiet_sum U k j _ (unhide (CL (U.drewN (k + j)))))
    clear CL
    rw [e1, e2]
    clear e1 e2
    rcases ht with rfl | rfl
    all_goals
      go_enter Try.func45, Try.ntmps45
      go_wp2_with fail
      go_quiet (fail)
      go_wp2_with fail
      go_quiet ((go_at_call 53; with_reducible exact unhide (CL' _ _ _)))
      go_wp2
      go_ret2
      exact ⟨rfl, HAL.out.trans ⟨rfl, rfl, rfl, Nat.le_refl _, fun _ _ => rfl⟩⟩
  · have t2 : (op == 2) = false := by simp; omega
    have t9 : (op == 9) = false := by simp; omega
    clear H1 h hal hm em q10
    by_cases h1 : op = 1
    · subst h1
      obtain rfl : V = (kc : Int) := by rw [HV]; simp
      obtain rfl : F = 0 := by rw [HF]; simp
      clear HV HF t2 t9 ht g2 n2 b0 b1
      go_enter Try.func45, Try.ntmps45
      go_wp2_with fail
      go_quiet (fail)
      go_wp2
      go_ret2
      exact ⟨rfl, HAL.out.trans ⟨rfl, rfl, rfl, Nat.le_refl _, fun _ _ => rfl⟩⟩
    have t1 : (op == 1) = false := by simpa using h1
    by_cases h4 : op = 4
    · subst h4
      obtain rfl : V = calcX kc n1 n2 := by rw [HV]; simp
      obtain rfl : F = calcY kc n1 n2 := by rw [HF]; simp
      have CC := fun z => hide (implCalc kc n1 n2 z)
      generalize calcX (kc : Int) n1 n2 = V at *
      generalize calcY (kc : Int) n1 n2 = F at *
      simp only [two] at CC
      have CC' := fun (U : World) k j => hide (quiet_sum U k j _ (unhide (CC (U.drewN (k + j)))))
      clear CC
      clear HV HF t1 t2 t9 ht h1
      go_enter Try.func45, Try.ntmps45
      go_wp2_with fail
      go_quiet (fail)
      go_wp2_with fail
      go_quiet ((go_at_call 54; with_reducible exact unhide (CC' _ _ _)))
      go_wp2
      go_ret2
      exact ⟨rfl, HAL.out.trans ⟨rfl, rfl, rfl, Nat.le_refl _, fun _ _ => rfl⟩⟩
    have t4 : (op == 4) = false := by simpa using h4
    by_cases h5 : op = 5
    · subst h5
      obtain rfl : V = (if n1 = 0 then 1 else 0) := by rw [HV]; simp
      obtain rfl : F = 0 := by rw [HF]; simp
      have CC := fun z => hide (implDenied n1 z)
      generalize (if n1 = 0 then (1 : Int) else 0) = V at *
      clear HV HF t1 t2 t9 t4 ht h1 h4 g2 n2 b0 b1
      go_enter Try.func45, Try.ntmps45
      go_wp2_with fail
      go_quiet (fail)
      go_wp2_with (go_at_call 55; refine (unhide (CC _)).mono ?_; rintro e z2 ⟨rfl, rfl⟩)
      go_ret2
      exact ⟨rfl, HAL.out.trans ⟨rfl, rfl, rfl, Nat.le_refl _, fun _ _ => rfl⟩⟩
    have t5 : (op == 5) = false := by simpa using h5
    by_cases h6 : op = 6
    · subst h6
      obtain rfl : V = negN n1 := by rw [HV]; simp
      obtain rfl : F = negF n1 := by rw [HF]; simp
      have CC := fun z => hide (implNeg n1 z)
      simp only [negV_two, two] at CC
      generalize negN n1 = V at *
      generalize negF n1 = F at *
      clear HV HF t1 t2 t9 t4 t5 ht h1 h4 h5 g2 n2 b0 b1
      go_enter Try.func45, Try.ntmps45
      go_wp2_with fail
      go_quiet (fail)
      go_wp2_with (go_at_call 56; refine (unhide (CC _)).mono ?_; rintro e z2 ⟨rfl, rfl⟩)
      go_ret2
      exact ⟨rfl, HAL.out.trans ⟨rfl, rfl, rfl, Nat.le_refl _, fun _ _ => rfl⟩⟩
    · have t6 : (op == 6) = false := by simpa using h6
      obtain rfl : V = n1 := by rw [HV]; simp [h1, h4, h5, h6, ht]
      obtain rfl : F = 0 := by rw [HF]; simp [h1, h4, h5, h6, ht]
      clear HV HF ht h1 h4 h5 h6 g2 n2 b0 b1
      go_enter Try.func45, Try.ntmps45
      go_wp2_with fail
      go_quiet (fail)
      go_wp2
      go_ret2
      exact ⟨rfl, HAL.out.trans ⟨rfl, rfl, rfl, Nat.le_refl _, fun _ _ => rfl⟩⟩
end Go.Proofs.Ytmchgmpdhfefjaa

namespace Go.Proofs.Ytmchgmpdhfefjaa
open Go.RowKit

set_option maxRecDepth 100000 in
set_option maxHeartbeats 8000000 in
theorem implWrite_any {B G : Nat} {mv : Value} (r0 r1 r2 r3 r4 r5 r6 r7 p q : Int) (mem : List Int) (op a b c : Int) (z : World) (h : WkZ B G mv [r0, r1, r2, r3, r4, r5, r6, r7] p q mem z) (ha : 0 ≤ a ∧ a ≤ 7) (hc : 0 ≤ c) (hm : touchB op = true → c < mem.length) :
    Calls Try.prog 46 #[.pointer (some ⟨G, 0, none⟩), .agg #[.int .i64 op, .int .i64 a, .int .i64 b, .int .i64 c]] z fun e w' => e = .returned (.tuple #[]) ∧ WkZ B G mv [r0, r1, r2, r3, r4, r5, r6, r7] p q (memE ⟨[r0, r1, r2, r3, r4, r5, r6, r7], p, q⟩ ⟨op, a, b, c⟩ mem) w' ∧ Below B z w' ∧ (∀ k, k < z.heap.size → mv.ownBlock ≠ some k → w'.heap[k]? = z.heap[k]?) := by
  obtain ⟨ka, rfl⟩ : ∃ k : Nat, a = (k : Int) := ⟨a.toNat, by omega⟩
  obtain ⟨kc, rfl⟩ : ∃ k : Nat, c = (k : Int) := ⟨c.toNat, by omega⟩
  have hal : Below z.heap.size z (z.alloc (.cells #[.int .i64 op, .int .i64 (ka : Int), .int .i64 b, .int .i64 (kc : Int)] 34)) := (Below.refl _ _).alloc (Nat.le_refl _) _
  obtain ⟨V, hV⟩ : ∃ V, z.alloc (.cells #[.int .i64 op, .int .i64 (ka : Int), .int .i64 b, .int .i64 (kc : Int)] 34) = V := ⟨_, rfl⟩
  have bI := Box.made z #[.int .i64 op, .int .i64 (ka : Int), .int .i64 b, .int .i64 (kc : Int)] 34
  have hBz : B ≤ z.heap.size := by have := h.bO.lt; have := h.hB; omega
  rw [hV] at hal bI
  have H1 := hide (h.stays hal)
  have HAL := hide (hal.mono hBz)
  have HK := hide fun k (hk : k < z.heap.size) => hal.block k hk
  have HV := hide hV
  have g1 := H1.out.reg (show ka < [r0, r1, r2, r3, r4, r5, r6, r7].length by simp; omega)
  have EM : memE ⟨[r0, r1, r2, r3, r4, r5, r6, r7], p, q⟩ ⟨op, ka, b, kc⟩ mem = if op = 3 then mem.set kc ([r0, r1, r2, r3, r4, r5, r6, r7].getD ka 0) else if op = 9 then mem.set kc 1 else mem := rfl
  obtain ⟨M, eM⟩ : ∃ M, memE ⟨[r0, r1, r2, r3, r4, r5, r6, r7], p, q⟩ ⟨op, ka, b, kc⟩ mem = M := ⟨_, rfl⟩
  rw [eM] at EM ⊢
  obtain ⟨n1, en1⟩ : ∃ n, [r0, r1, r2, r3, r4, r5, r6, r7].getD ka 0 = n := ⟨_, rfl⟩
  rw [en1] at g1 EM
  have a0 : (0 : Int) ≤ (ka : Int) := by omega
  have a1 : (ka : Int) < 8 := by omega
  have c0 : (0 : Int) ≤ (kc : Int) := by omega
  have HM := hide hm
  clear hV en1 eM ha hc h hal hm
  have i0 := Lib.cell_of_heap bI 0
  have i1 := Lib.cell_of_heap bI 1
  have i3 := Lib.cell_of_heap bI 3
  have b10 : Box V G #[.int .i64 r0, .int .i64 r1, .int .i64 r2, .int .i64 r3, .int .i64 r4, .int .i64 r5, .int .i64 r6, .int .i64 r7, .int .i64 p, .int .i64 q, mv] 61 := H1.out.bO
  have q10 := Lib.cell_of_heap b10 10
  simp at i0 i1 i3 q10
  clear bI b10
  by_cases ht : op = 3 ∨ op = 9
  · have hlt := HM.out (by unfold touchB; rcases ht with rfl | rfl <;> rfl)
    obtain ⟨mq, mc, rfl, hq⟩ := own_form H1.out.mo (by omega)
    obtain ⟨qm, qf⟩ := own_cell H1.out.mo (show kc < mem.length by omega)
    have Z3 := hide ((H1.out.setMem (i := kc) n1).stays (Below.refl _ _).drew)
    have Z9 := hide ((H1.out.setMem (i := kc) 1).stays (Below.refl _ _).drew)
    have B3 := hide ((HAL.out.setCell (p := ⟨mq, kc, none⟩) hq (.int .i64 n1)).drew)
    have B9 := hide ((HAL.out.setCell (p := ⟨mq, kc, none⟩) hq (.int .i64 1)).drew)
    obtain ⟨n, en⟩ : ∃ n, mem.length = n := ⟨_, rfl⟩
    have EN := hide en
    rw [en] at q10 hlt
    have HK3 := hide fun (n : Int) k (hk : k < z.heap.size) (hne : (Value.slice (some ⟨mq, 0, none⟩) mem.length mc).ownBlock ≠ some k) => (Below.heap_setCell V ⟨mq, kc, none⟩ (.int .i64 n) k (fun e => hne (by rw [show k = mq from e]; rfl))).trans (HK.out k hk)
    clear en hq HM HAL H1 HK
    rcases ht with rfl | rfl
    · obtain rfl : M = mem.set kc n1 := by rw [EM]; simp
      clear EM Z9 B9
      simp only [EN.out] at *
      go_enter Try.func46, Try.ntmps46
      go_wp2_with fail
      rw [HV.out]
      clear HV
      go_region
      go_wp2
      refine bodyPost_end (results_none rfl _ _ _) rfl ?_
      exact ⟨rfl, Z3.out, B3.out, HK3.out n1⟩
    · obtain rfl : M = mem.set kc 1 := by rw [EM]; simp
      clear EM Z3 B3
      simp only [EN.out] at *
      go_enter Try.func46, Try.ntmps46
      go_wp2_with fail
      rw [HV.out]
      clear HV
      go_region
      go_wp2
      refine bodyPost_end (results_none rfl _ _ _) rfl ?_
      exact ⟨rfl, Z9.out, B9.out, HK3.out 1⟩
  · have t3 : (op == 3) = false := by simp; omega
    have t9 : (op == 9) = false := by simp; omega
    obtain rfl : M = mem := by rw [EM, if_neg (by omega), if_neg (by omega)]
    clear EM HM ht g1 q10
    go_enter Try.func46, Try.ntmps46
    go_wp2_with fail
    rw [HV.out]
    clear HV
    go_wp2
    refine bodyPost_end (results_none rfl _ _ _) rfl ?_
    exact ⟨rfl, H1.out, HAL.out, fun k hk _ => HK.out k hk⟩
end Go.Proofs.Ytmchgmpdhfefjaa
