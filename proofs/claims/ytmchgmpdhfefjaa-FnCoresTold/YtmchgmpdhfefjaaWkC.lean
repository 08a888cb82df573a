/-
  Walks: whether a core is right, by the program.
-/
import Derived.Test.YtmchgmpdhfefjaaWkB
import Derived.Laws.StructEq
import Derived.ChangeKeysEq
import Derived.BigQuiet
namespace Go.Proofs.Ytmchgmpdhfefjaa
open Go.RowKit

theorem part3_run {cs : Array Value} {k : Nat} {n : Int} (h : cs[k]? = some (.int .i64 n)) (z : World) : (part 3 cs k).run Try.prog z = .ok (.int .i64 n) z := by
  rw [part]
  simp [go_sem, h]
theorem eqInt3 (d : Nat) (a b : Int) (z : World) : (Op.equalIn (d + 1) 3 (.int .i64 a) (.int .i64 b)).run Try.prog z = .ok (a == b) z := run_equalIn_int z d 3 .i64 .i64 a b Try.underlying3
theorem eqItems_cons {d k : Nat} {ks : List Nat} {xs ys : Array Value} {a b : Int} {t : Bool} {w : World} (hx : xs[k]? = some (.int .i64 a)) (hy : ys[k]? = some (.int .i64 b)) (ht : (Op.eqItems (d + 1) 3 1 xs ys ks).run Try.prog w = .ok t w) :
    (Op.eqItems (d + 1) 3 1 xs ys (k :: ks)).run Try.prog w = .ok (a == b && t) w := by
  simp only [Op.eqItems, Sem.run_bind, Nat.mul_one, part3_run hx, part3_run hy, Result.andThen_ok, eqInt3]
  cases h : (a == b)
  · simp
  · simpa using ht
theorem run_eq_regs (d : Nat) (r0 r1 r2 r3 r4 r5 r6 r7 s0 s1 s2 s3 s4 s5 s6 s7 : Int) (w : World) : (Op.equalIn (d + 2) 55 (.agg #[.int .i64 r0, .int .i64 r1, .int .i64 r2, .int .i64 r3, .int .i64 r4, .int .i64 r5, .int .i64 r6, .int .i64 r7]) (.agg #[.int .i64 s0, .int .i64 s1, .int .i64 s2, .int .i64 s3, .int .i64 s4, .int .i64 s5, .int .i64 s6, .int .i64 s7])).run Try.prog w = .ok (r0 == s0 && (r1 == s1 && (r2 == s2 && (r3 == s3 && (r4 == s4 && (r5 == s5 && (r6 == s6 && (r7 == s7 && true)))))))) w := by
  obtain ⟨i, hi⟩ : ∃ i, Try.prog.info? 3 = some i := Option.isSome_iff_exists.1 (by kernel_rfl)
  have hc : Try.prog.cellsOf 3 = 1 := by kernel_rfl
  rw [run_equalIn_array w (d + 1) _ _ Try.underlying55 hi, hc]
  exact eqItems_cons rfl rfl (eqItems_cons rfl rfl (eqItems_cons rfl rfl (eqItems_cons rfl rfl (eqItems_cons rfl rfl (eqItems_cons rfl rfl (eqItems_cons rfl rfl (eqItems_cons rfl rfl rfl)))))))
/-- Whether two states are the same. -/
def eqSt (r0 r1 r2 r3 r4 r5 r6 r7 p q s0 s1 s2 s3 s4 s5 s6 s7 p' q' : Int) : Bool := (r0 == s0 && (r1 == s1 && (r2 == s2 && (r3 == s3 && (r4 == s4 && (r5 == s5 && (r6 == s6 && (r7 == s7 && true)))))))) && (p == p' && q == q')
theorem run_eql_state (r0 r1 r2 r3 r4 r5 r6 r7 p q s0 s1 s2 s3 s4 s5 s6 s7 p' q' : Int) (w : World) : (binOp .eql 57 (.agg #[.int .i64 r0, .int .i64 r1, .int .i64 r2, .int .i64 r3, .int .i64 r4, .int .i64 r5, .int .i64 r6, .int .i64 r7, .int .i64 p, .int .i64 q]) (.agg #[.int .i64 s0, .int .i64 s1, .int .i64 s2, .int .i64 s3, .int .i64 s4, .int .i64 s5, .int .i64 s6, .int .i64 s7, .int .i64 p', .int .i64 q'])).run Try.prog w = .ok (.bool (eqSt r0 r1 r2 r3 r4 r5 r6 r7 p q s0 s1 s2 s3 s4 s5 s6 s7 p' q')) w := by
  rw [run_eql_struct, run_equalIn_agg w _ _ _ _ (by kernel_rfl) (by kernel_rfl)]
  simp only [Program.fieldsOf, Try.underlying57]
  have e1 : ∀ r0 r1 r2 r3 r4 r5 r6 r7 p q : Int, (part 55 #[.int .i64 r0, .int .i64 r1, .int .i64 r2, .int .i64 r3, .int .i64 r4, .int .i64 r5, .int .i64 r6, .int .i64 r7, .int .i64 p, .int .i64 q] 0).run Try.prog w = .ok (.agg #[.int .i64 r0, .int .i64 r1, .int .i64 r2, .int .i64 r3, .int .i64 r4, .int .i64 r5, .int .i64 r6, .int .i64 r7]) w := by
    intro r0 r1 r2 r3 r4 r5 r6 r7 p q
    rw [part]
    simp [go_sem]
  obtain ⟨B, eB⟩ : ∃ B, (r0 == s0 && (r1 == s1 && (r2 == s2 && (r3 == s3 && (r4 == s4 && (r5 == s5 && (r6 == s6 && (r7 == s7 && true)))))))) = B := ⟨_, rfl⟩
  have e2 : (Op.equalIn 9999 55 (.agg #[.int .i64 r0, .int .i64 r1, .int .i64 r2, .int .i64 r3, .int .i64 r4, .int .i64 r5, .int .i64 r6, .int .i64 r7]) (.agg #[.int .i64 s0, .int .i64 s1, .int .i64 s2, .int .i64 s3, .int .i64 s4, .int .i64 s5, .int .i64 s6, .int .i64 s7])).run Try.prog w = .ok B w := by
    rw [← eB]
    exact run_eq_regs 9997 r0 r1 r2 r3 r4 r5 r6 r7 s0 s1 s2 s3 s4 s5 s6 s7 w
  have e3 : ∀ a b : Int, (Op.equalIn 9999 3 (.int .i64 a) (.int .i64 b)).run Try.prog w = .ok (a == b) w := fun a b => eqInt3 9998 a b w
  have e4 : ∀ r0 r1 r2 r3 r4 r5 r6 r7 p q : Int, (part 3 #[.int .i64 r0, .int .i64 r1, .int .i64 r2, .int .i64 r3, .int .i64 r4, .int .i64 r5, .int .i64 r6, .int .i64 r7, .int .i64 p, .int .i64 q] 8).run Try.prog w = .ok (.int .i64 p) w := fun _ _ _ _ _ _ _ _ _ _ => part3_run rfl w
  have e5 : ∀ r0 r1 r2 r3 r4 r5 r6 r7 p q : Int, (part 3 #[.int .i64 r0, .int .i64 r1, .int .i64 r2, .int .i64 r3, .int .i64 r4, .int .i64 r5, .int .i64 r6, .int .i64 r7, .int .i64 p, .int .i64 q] 9).run Try.prog w = .ok (.int .i64 q) w := fun _ _ _ _ _ _ _ _ _ _ => part3_run rfl w
  unfold eqSt
  rw [eB]
  simp [Op.eqFields, Sem.run_bind]
  simp only [e1, e2, e3, e4, e5, Result.andThen_ok]
  clear e1 e2 e4 e5 eB
  cases B
  · simp
  by_cases h : p = p' <;> by_cases h' : q = q' <;> simp [h, h']
theorem cl_ok (n : Int) : (n == cl n) = vok n := by
  unfold cl vok
  rw [Bool.eq_iff_iff]
  simp
  split <;> split at * <;> omega
theorem eqSt_ok (r0 r1 r2 r3 r4 r5 r6 r7 p q : Int) : eqSt r0 r1 r2 r3 r4 r5 r6 r7 p q (cl r0) (cl r1) (cl r2) (cl r3) (cl r4) (cl r5) (cl r6) (cl r7) (clC p) (clP q) = coreOkB ⟨[r0, r1, r2, r3, r4, r5, r6, r7], p, q⟩ := by
  have h1 : (p == clC p) = decide (0 ≤ p) := by
    unfold clC
    rw [Bool.eq_iff_iff]
    by_cases hp : p < 0
    · simp [hp]; omega
    · simp [hp]; omega
  have h2 : (q == clP q) = inZ (-1) 3 q := by
    unfold clP inZ
    rw [Bool.eq_iff_iff]
    simp
    split <;> split at * <;> omega
  unfold eqSt coreOkB
  rw [h1, h2]
  simp only [cl_ok, List.all_cons, List.all_nil, List.length_cons, List.length_nil, beq_self_eq_true, Bool.true_and]
/-- A state in a box. -/
structure OkZ (w : World) (G : Nat) (cs : Array Value) (z : World) : Prop where
  bS : Box z G cs 57
  bel : Below w.heap.size w z
theorem OkZ.stays {w : World} {G : Nat} {cs : Array Value} {z z' : World} (h : OkZ w G cs z) (hb : Below z.heap.size z z') : OkZ w G cs z' := ⟨h.bS.stays hb, h.bel.trans (hb.mono h.bel.size)⟩

set_option maxRecDepth 100000 in
set_option maxHeartbeats 4000000 in
theorem implCoreOk_any (v : Value) (x : Co) (w : World) (h : CoAt w v x) (hl : CoLen x) :
    Calls Try.prog 17 #[.agg #[v, .int .i64 x.pc, .int .i64 x.process]] w fun e w' => e = .returned (.bool (coreOkB x)) ∧ Below w.heap.size w w' := by
  have hal : Below w.heap.size w (w.alloc (.cells #[v, .int .i64 x.pc, .int .i64 x.process] 26)) := (Below.refl _ _).alloc (Nat.le_refl _) _
  have HAL := hide hal
  have L := hl
  by_cases h8 : x.regs.length = 8
  · obtain ⟨xs, p, q⟩ := x
    obtain ⟨r0, r1, r2, r3, r4, r5, r6, r7, rfl⟩ := eight h8
    have CS := hide (implStateOf_yes v r0 r1 r2 r3 r4 r5 r6 r7 p q _ (h.stays hal).a0)
    have CB := fun z => hide (implBounded_any r0 r1 r2 r3 r4 r5 r6 r7 p q z)
    have RE := fun z => run_eql_state r0 r1 r2 r3 r4 r5 r6 r7 p q (cl r0) (cl r1) (cl r2) (cl r3) (cl r4) (cl r5) (cl r6) (cl r7) (clC p) (clP q) z
    have EO := hide (eqSt_ok r0 r1 r2 r3 r4 r5 r6 r7 p q)
    simp only [EO.out] at RE
    obtain ⟨B, eB⟩ : ∃ B, coreOkB ⟨[r0, r1, r2, r3, r4, r5, r6, r7], p, q⟩ = B := ⟨_, rfl⟩
    rw [eB] at RE ⊢
    obtain ⟨o, c, ev, _⟩ := h.a0
    obtain rfl : v = .slice o 8 c := ev
    clear h hl L h8 hal EO eB
    go_enter Try.func17, Try.ntmps17
    go_wp2_with (first | (go_at_call 29; refine (unhide CS).mono ?_; rintro e z1 ⟨rfl, hb1⟩; have HB1 := hide (HAL.out.trans (hb1.mono HAL.out.size)); clear hb1) | fail)
    have Z1 : Hid (OkZ w z1.heap.size #[.int .i64 r0, .int .i64 r1, .int .i64 r2, .int .i64 r3, .int .i64 r4, .int .i64 r5, .int .i64 r6, .int .i64 r7, .int .i64 p, .int .i64 q] (z1.alloc (.cells #[.int .i64 r0, .int .i64 r1, .int .i64 r2, .int .i64 r3, .int .i64 r4, .int .i64 r5, .int .i64 r6, .int .i64 r7, .int .i64 p, .int .i64 q] 57))) := hide ⟨Box.made _ _ _, HB1.out.alloc HB1.out.size _⟩
    obtain ⟨Z, hZ⟩ : ∃ Z, z1.alloc (.cells #[.int .i64 r0, .int .i64 r1, .int .i64 r2, .int .i64 r3, .int .i64 r4, .int .i64 r5, .int .i64 r6, .int .i64 r7, .int .i64 p, .int .i64 q] 57) = Z := ⟨_, rfl⟩
    obtain ⟨G, hG⟩ : ∃ G, z1.heap.size = G := ⟨_, rfl⟩
    rw [hZ, hG] at Z1
    rw [hZ, hG]
    clear hZ hG HB1 CS HAL
    have KC : Hid (∀ z : World, OkZ w G #[.int .i64 r0, .int .i64 r1, .int .i64 r2, .int .i64 r3, .int .i64 r4, .int .i64 r5, .int .i64 r6, .int .i64 r7, .int .i64 p, .int .i64 q] z → z.cell? ⟨G, 0, none⟩ = some (.int .i64 r0) ∧ z.cell? ⟨G, 1, none⟩ = some (.int .i64 r1) ∧ z.cell? ⟨G, 2, none⟩ = some (.int .i64 r2) ∧ z.cell? ⟨G, 3, none⟩ = some (.int .i64 r3) ∧ z.cell? ⟨G, 4, none⟩ = some (.int .i64 r4) ∧ z.cell? ⟨G, 5, none⟩ = some (.int .i64 r5) ∧ z.cell? ⟨G, 6, none⟩ = some (.int .i64 r6) ∧ z.cell? ⟨G, 7, none⟩ = some (.int .i64 r7) ∧ z.cell? ⟨G, 8, none⟩ = some (.int .i64 p) ∧ z.cell? ⟨G, 9, none⟩ = some (.int .i64 q) ∧ Hid (OkZ w G #[.int .i64 r0, .int .i64 r1, .int .i64 r2, .int .i64 r3, .int .i64 r4, .int .i64 r5, .int .i64 r6, .int .i64 r7, .int .i64 p, .int .i64 q] z)) := hide fun z h => ⟨Lib.cell_of_heap h.bS 0, Lib.cell_of_heap h.bS 1, Lib.cell_of_heap h.bS 2, Lib.cell_of_heap h.bS 3, Lib.cell_of_heap h.bS 4, Lib.cell_of_heap h.bS 5, Lib.cell_of_heap h.bS 6, Lib.cell_of_heap h.bS 7, Lib.cell_of_heap h.bS 8, Lib.cell_of_heap h.bS 9, h⟩
    have KV : Hid (∀ z : World, (z.cell? ⟨G, 0, none⟩ = some (.int .i64 r0) ∧ z.cell? ⟨G, 1, none⟩ = some (.int .i64 r1) ∧ z.cell? ⟨G, 2, none⟩ = some (.int .i64 r2) ∧ z.cell? ⟨G, 3, none⟩ = some (.int .i64 r3) ∧ z.cell? ⟨G, 4, none⟩ = some (.int .i64 r4) ∧ z.cell? ⟨G, 5, none⟩ = some (.int .i64 r5) ∧ z.cell? ⟨G, 6, none⟩ = some (.int .i64 r6) ∧ z.cell? ⟨G, 7, none⟩ = some (.int .i64 r7) ∧ z.cell? ⟨G, 8, none⟩ = some (.int .i64 p) ∧ z.cell? ⟨G, 9, none⟩ = some (.int .i64 q) ∧ Hid (OkZ w G #[.int .i64 r0, .int .i64 r1, .int .i64 r2, .int .i64 r3, .int .i64 r4, .int .i64 r5, .int .i64 r6, .int .i64 r7, .int .i64 p, .int .i64 q] z)) → OkZ w G #[.int .i64 r0, .int .i64 r1, .int .i64 r2, .int .i64 r3, .int .i64 r4, .int .i64 r5, .int .i64 r6, .int .i64 r7, .int .i64 p, .int .i64 q] z) := hide fun z h => h.2.2.2.2.2.2.2.2.2.2.out
    have K1 := hide (KC.out _ (Z1.out.stays (Below.refl _ _).drew))
    go_region_held3 (fun z => z.cell? ⟨G, 0, none⟩ = some (.int .i64 r0) ∧ z.cell? ⟨G, 1, none⟩ = some (.int .i64 r1) ∧ z.cell? ⟨G, 2, none⟩ = some (.int .i64 r2) ∧ z.cell? ⟨G, 3, none⟩ = some (.int .i64 r3) ∧ z.cell? ⟨G, 4, none⟩ = some (.int .i64 r4) ∧ z.cell? ⟨G, 5, none⟩ = some (.int .i64 r5) ∧ z.cell? ⟨G, 6, none⟩ = some (.int .i64 r6) ∧ z.cell? ⟨G, 7, none⟩ = some (.int .i64 r7) ∧ z.cell? ⟨G, 8, none⟩ = some (.int .i64 p) ∧ z.cell? ⟨G, 9, none⟩ = some (.int .i64 q) ∧ Hid (OkZ w G #[.int .i64 r0, .int .i64 r1, .int .i64 r2, .int .i64 r3, .int .i64 r4, .int .i64 r5, .int .i64 r6, .int .i64 r7, .int .i64 p, .int .i64 q] z)) (first | with_reducible exact K1.out | with_reducible exact KC.out _ CW.out)
      ((go_at_call 38; refine (unhide (CB _)).mono ?_; rintro e w6 ⟨rfl, hb6⟩; have CW : Hid (OkZ w G #[.int .i64 r0, .int .i64 r1, .int .i64 r2, .int .i64 r3, .int .i64 r4, .int .i64 r5, .int .i64 r6, .int .i64 r7, .int .i64 p, .int .i64 q] w6) := (hide ((KV.out _ (by assumption)).stays hb6)); clear hb6))
    go_wp2
    go_ret
    exact ⟨rfl, CW.out.bel⟩
  · have CS := hide (implStateOf_no v x _ (h.stays hal) hl h8)
    have e8 : coreOkB x = false := by
      unfold coreOkB
      simp [h8]
    rw [e8]
    obtain ⟨o, c, rfl, _⟩ := h.a0
    clear h hl L h8 hal e8
    go_enter Try.func17, Try.ntmps17
    go_wp2_with (first | (go_at_call 29; refine (unhide CS).mono ?_; rintro e z1 ⟨rfl, hb1⟩; have HB1 := hide (HAL.out.trans (hb1.mono HAL.out.size)); clear hb1) | fail)
    go_quiet (fail)
    go_wp2
    go_ret
    exact ⟨rfl, (HB1.out.alloc HB1.out.size _).trans ⟨rfl, rfl, rfl, Nat.le_refl _, fun _ _ => rfl⟩⟩
end Go.Proofs.Ytmchgmpdhfefjaa
