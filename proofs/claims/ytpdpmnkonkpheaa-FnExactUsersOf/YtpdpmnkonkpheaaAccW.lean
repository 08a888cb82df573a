/-
  Walks: who uses what, by the specification.
-/
import Derived.Test.YtpdpmnkonkpheaaScoI
import Derived.Test.YtpdpmnkonkpheaaEntW
import Derived.Test.YtpdpmnkonkpheaaUnlP
import Derived.BigQuiet
namespace Go.Proofs.Ytpdpmnkonkpheaa
open Go.RowKit

/-- Does the process at this place use the monitor at that place? -/
def usesP (ms : List Mo) (ps : List Pr) (i m : Int) : Bool :=
  if 0 ≤ i ∧ i < (ps.length : Int) ∧ 0 ≤ m ∧ m < (ms.length : Int) then memB (ps.getD i.toNat default).uses (ms.getD m.toNat default).name else false
theorem usesP_in {ms : List Mo} {ps : List Pr} {i m : Nat} (hi : i < ps.length) (hm : m < ms.length) : usesP ms ps (i : Int) (m : Int) = memB ps[i].uses ms[m].name := by
  rw [usesP, if_pos ⟨by omega, by omega, by omega, by omega⟩, Int.toNat_natCast, Int.toNat_natCast, List.getD_eq_getElem?_getD, List.getElem?_eq_getElem hi, List.getD_eq_getElem?_getD, List.getElem?_eq_getElem hm]
  rfl

set_option maxRecDepth 100000 in
set_option maxHeartbeats 4000000 in
theorem specUses_any (nv mv pv : Value) (ms : List Mo) (ps : List Pr) (i m : Int) (w : World) (hN : SlV nv) (hM : MosAt w mv ms) (hP : PrsAt w pv ps) (hml : ms.length ≤ 1048576) (hpl : ps.length ≤ 1048576) (hul : ∀ p ∈ ps, p.uses.length ≤ 1048576) :
    Calls Try.prog 6 #[.agg #[nv, mv, pv], .int .i64 i, .int .i64 m] w fun e w' => e = .returned (.bool (usesP ms ps i m)) ∧ Below w.heap.size w w' := by
  have hb1 : Below w.heap.size w (w.alloc (.cells #[nv, mv, pv] 33)) := (Below.refl _ _).alloc (Nat.le_refl _) _
  have HM := hide (hM.stays hb1)
  have HP := hide (hP.stays hb1)
  have HX := hide (Boxed.made w nv mv pv 33)
  have HB := hide hb1
  have C1 := fun z => hide (l01In_gen i 0 ((ps.length : Int) - 1) z)
  have C2 := fun z => hide (l01In_gen m 0 ((ms.length : Int) - 1) z)
  have HUL := hide hul
  clear hb1 hul
  obtain ⟨ao, an, ac, rfl⟩ := hN
  obtain ⟨mo, mc, rfl, _⟩ := hM
  obtain ⟨po, pc, rfl, _⟩ := hP
  obtain ⟨R, eR⟩ : ∃ R, usesP ms ps i m = R := ⟨_, rfl⟩
  have ER := hide eR
  rw [eR]
  clear eR
  obtain ⟨n, en⟩ : ∃ n, ms.length = n := ⟨_, rfl⟩
  have EN := hide en
  obtain ⟨q, eq⟩ : ∃ q, ps.length = q := ⟨_, rfl⟩
  have EQ := hide eq
  rw [en] at C2 hml
  rw [eq] at C1 hpl
  rw [en, eq] at HM HP HX HB ⊢
  clear en eq
  obtain ⟨c0, c1, c2, hlt0⟩ := HX.out
  obtain ⟨W1, hW⟩ : ∃ W1, w.alloc (.cells #[.slice ao an ac, .slice mo n mc, .slice po q pc] 33) = W1 := ⟨_, rfl⟩
  have HWW := hide hW
  rw [hW] at HM HP HB c0 c1 c2
  clear hW hlt0 HX
  cases h1 : inZ 0 ((q : Int) - 1) i with
  | false =>
    have eR2 : R = false := by
      rw [← ER.out, usesP, if_neg]
      rintro ⟨a, b, _⟩
      have := inZ_yes.2 (show 0 ≤ i ∧ i ≤ (q : Int) - 1 by rw [EQ.out] at b; omega)
      rw [h1] at this
      cases this
    subst eR2
    rw [h1] at C1
    clear h1
    have C1' := fun k => hide (Calls.quiet_of_same (w := W1) (n := k) (unhide (C1 (W1.drewN k))))
    go_enter Try.func6, Try.ntmps6
    go_wp2_with fail
    rw [HWW.out]
    go_quiet ((go_at_call 19; with_reducible exact unhide (C1' _)))
    all_goals go_wp2
    all_goals go_ret
    all_goals exact ⟨rfl, below_drewN HB.out _⟩
  | true =>
    have hi2 := inZ_yes.1 h1
    obtain ⟨j, ej⟩ : ∃ j : Nat, i = (j : Int) := ⟨i.toNat, by omega⟩
    subst ej
    rw [h1] at C1
    clear h1
    have hj0 : (0 : Int) ≤ (j : Int) := by omega
    have hj1 : (j : Int) < (q : Int) := by omega
    have hjx : j < ps.length := by rw [EQ.out]; omega
    cases h2 : inZ 0 ((n : Int) - 1) m with
    | false =>
      have eR2 : R = false := by
        rw [← ER.out, usesP, if_neg]
        rintro ⟨_, _, a, b⟩
        have := inZ_yes.2 (show 0 ≤ m ∧ m ≤ (n : Int) - 1 by rw [EN.out] at b; omega)
        rw [h2] at this
        cases this
      subst eR2
      rw [h2] at C2
      clear h2
      have C1' := fun k => hide (Calls.quiet_of_same (w := W1) (n := k) (unhide (C1 (W1.drewN k))))
      have C2' := fun k => hide (Calls.quiet_of_same (w := W1) (n := k) (unhide (C2 (W1.drewN k))))
      go_enter Try.func6, Try.ntmps6
      go_wp2_with fail
      rw [HWW.out]
      go_quiet ((go_at_call 19; first | with_reducible exact unhide (C1' _) | with_reducible exact unhide (C2' _)))
      all_goals go_wp2
      all_goals go_ret
      all_goals exact ⟨rfl, below_drewN HB.out _⟩
    | true =>
      have hm2 := inZ_yes.1 h2
      obtain ⟨k, ek⟩ : ∃ k : Nat, m = (k : Int) := ⟨m.toNat, by omega⟩
      subst ek
      rw [h2] at C2
      clear h2
      have hk0 : (0 : Int) ≤ (k : Int) := by omega
      have hk1 : (k : Int) < (n : Int) := by omega
      have hkx : k < ms.length := by rw [EN.out]; omega
      have HR : Hid (memB ps[j].uses ms[k].name = R) := by rw [← ER.out, usesP_in hjx hkx]; exact hide rfl
      have hu := HUL.out _ (List.getElem_mem hjx)
      obtain ⟨po', pc', e5, hpc⟩ := HP.out
      injection e5 with e6 e7 e8
      subst e6
      obtain ⟨pa, uv, vv, rfl, _, hpx⟩ := hpc j hjx
      obtain ⟨mo', mc', e5, hmc⟩ := HM.out
      injection e5 with e6 e9 e10
      subst e6
      obtain ⟨ma, v1, v2, v3, rfl, _, hmx⟩ := hmc k hkx
      obtain ⟨r1, hr1⟩ : ∃ r, pa.add (j * 4) = r := ⟨_, rfl⟩
      obtain ⟨r2, hr2⟩ : ∃ r, ma.add (k * 4) = r := ⟨_, rfl⟩
      rw [hr1] at hpx
      rw [hr2] at hmx
      have d1 := hpx.c1
      have d0 := hmx.c0
      have HU := hide hpx.uses
      obtain ⟨x, ex⟩ : ∃ x, ps[j] = x := ⟨_, rfl⟩
      obtain ⟨y, ey⟩ : ∃ y, ms[k] = y := ⟨_, rfl⟩
      rw [ex] at HU hu HR
      rw [ey] at d0 HR
      obtain ⟨uo, uc, rfl, _⟩ := hpx.uses
      rw [ex] at d1 HU
      have C3 := fun z h => hide (l08In_any (.slice uo x.uses.length uc) x.uses y.name z h hu)
      rw [HR.out] at C3
      clear hpc hmc e7 e8 e9 e10 hpx hmx ex ey hi2 hm2
      have C1' := fun k => hide (Calls.quiet_of_same (w := W1) (n := k) (unhide (C1 (W1.drewN k))))
      have C2' := fun k => hide (Calls.quiet_of_same (w := W1) (n := k) (unhide (C2 (W1.drewN k))))
      have C3' := fun k => hide (Calls.quiet_of_same (w := W1) (n := k) (unhide (C3 (W1.drewN k) (HU.out.stays (below_drewN (Below.refl _ _) _)))))
      clear C1 C2 C3
      go_enter Try.func6, Try.ntmps6
      go_wp2_with fail
      rw [HWW.out]
      go_quiet (first
        | (go_at_call 19; first | with_reducible exact unhide (C1' _) | with_reducible exact unhide (C2' _))
        | (go_at_call 20; with_reducible exact unhide (C3' _)))
      all_goals go_wp2
      all_goals go_ret
      all_goals exact ⟨rfl, below_drewN HB.out _⟩
end Go.Proofs.Ytpdpmnkonkpheaa
