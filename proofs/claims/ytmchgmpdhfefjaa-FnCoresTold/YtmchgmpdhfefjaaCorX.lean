/-
  Walk: a word that needs no memory, by the specification.
-/
import Derived.Test.YtmchgmpdhfefjaaCorQ
import Derived.Deep.Cut
namespace Go.Proofs.Ytmchgmpdhfefjaa
open Go.RowKit

set_option maxRecDepth 100000 in
set_option maxHeartbeats 8000000 in
theorem l15Calc_any (B G : Nat) (r mv : Value) (x : Co) (mem : List Int) (z : World) (op a b c : Int) (h : CsZ B G r mv x mem z) (h8 : x.regs.length = 8) (ha : 0 ≤ a ∧ a ≤ 7) (hb : 0 ≤ b ∧ b ≤ 7) (hop : op = 1 ∨ op = 4 ∨ op = 5 ∨ op = 6) (hp : 0 ≤ x.pc ∧ x.pc ≤ 1048576) :
    Calls Try.prog 49 #[.pointer (some ⟨G, 0, none⟩), .agg #[.int .i64 op, .int .i64 a, .int .i64 b, .int .i64 c]] z fun e z' => e = .returned (.int .i64 (stepCalc x ⟨op, a, b, c⟩).2) ∧ CsZ B G r mv (stepCalc x ⟨op, a, b, c⟩).1 mem z' ∧ Below B z z' := by
  obtain ⟨q, k, e, hBq⟩ := own_form h.ro (by omega)
  subst e
  obtain ⟨ai, rfl⟩ : ∃ i : Nat, a = (i : Int) := ⟨a.toNat, by omega⟩
  obtain ⟨bi, rfl⟩ : ∃ i : Nat, b = (i : Int) := ⟨b.toNat, by omega⟩
  have hai : ai < 8 := by omega
  have hbi : bi < 8 := by omega
  have hBG := h.hB
  have hBz : B ≤ z.heap.size := Nat.le_trans hBG (Nat.le_of_lt h.bO.lt)
  obtain ⟨W1, hW⟩ : ∃ W1, z.alloc (.cells #[.int .i64 op, .int .i64 (ai : Int), .int .i64 (bi : Int), .int .i64 c] 34) = W1 := ⟨_, rfl⟩
  have hb1 : Below z.heap.size z W1 := by rw [← hW]; exact (Below.refl _ _).alloc (Nat.le_refl _) _
  have Z1 := hide (h.stays hb1)
  have B1 := hide (hb1.mono hBz)
  have BI : Hid (Box W1 z.heap.size #[.int .i64 op, .int .i64 (ai : Int), .int .i64 (bi : Int), .int .i64 c] 34) := by rw [← hW]; exact hide (Box.made z _ _)
  have HW := hide hW
  have HU : Hid (stepCalc x ⟨op, (ai : Int), (bi : Int), c⟩ = if calcF x ⟨op, (ai : Int), (bi : Int), c⟩ = 0 then ({ x with regs := x.regs.set ai (calcN x ⟨op, (ai : Int), (bi : Int), c⟩), pc := x.pc + 1 }, 0) else (x, calcF x ⟨op, (ai : Int), (bi : Int), c⟩)) := hide rfl
  have E8 := hide h8
  clear h hb1 hW ha hb
  have p0 := Lib.cell_of_heap Z1.out.bO 0
  have p1 := Lib.cell_of_heap Z1.out.bO 1
  have pf := Lib.frozen_of_heap Z1.out.bO 1
  have i0 := Lib.cell_of_heap BI.out 0
  have i1 := Lib.cell_of_heap BI.out 1
  have i2 := Lib.cell_of_heap BI.out 2
  have i3 := Lib.cell_of_heap BI.out 3
  simp at p0 p1 i0 i1 i2 i3
  have HRA := hide (own_cell Z1.out.ro (by rw [h8]; exact hai))
  have HRB := hide (own_cell Z1.out.ro (by rw [h8]; exact hbi))
  have ra := HRA.out.1
  have fa := HRA.out.2
  have rb := HRB.out.1
  rw [h8] at p0
  have GA : Hid (regAt x (ai : Int) = x.regs.getD ai 0) := hide (by unfold regAt; rw [Int.toNat_natCast])
  have GB : Hid (regAt x (bi : Int) = x.regs.getD bi 0) := hide (by unfold regAt; rw [Int.toNat_natCast])
  obtain ⟨va, eva⟩ : ∃ v, x.regs.getD ai 0 = v := ⟨_, rfl⟩
  obtain ⟨vb, evb⟩ : ∃ v, x.regs.getD bi 0 = v := ⟨_, rfl⟩
  rw [eva] at ra GA
  rw [evb] at rb GB
  have hia0 : (0 : Int) ≤ (ai : Int) := by omega
  have hia8 : (ai : Int) < 8 := by omega
  have hib0 : (0 : Int) ≤ (bi : Int) := by omega
  have hib8 : (bi : Int) < 8 := by omega
  have hpw : wrap64 (x.pc + 1) = x.pc + 1 := by unfold wrap64; omega
  have EVA := hide eva
  have EVB := hide evb
  have HBz := hide hBz
  clear HRA HRB eva evb h8
  have Z1' := hide Z1.out
  rw [E8.out] at Z1'
  go_enter Try.func49, Try.ntmps49
  go_wp2_with fail
  rw [HW.out]
  go_quiet (fail)
  clear p0 p1 pf i0 i1 i2 i3 ra fa rb
  obtain ⟨V, hV⟩ : ∃ Y, W1.drewN nq = Y := ⟨_, rfl⟩
  have hbV : Below W1.heap.size W1 V := by rw [← hV]; exact below_drewN (Below.refl _ _) _
  rw [hV]
  have Z2 := hide (Z1.out.stays hbV)
  have B2 := hide (B1.out.trans (hbV.mono (Nat.le_trans HBz.out B1.out.size)))
  have BI2 := hide (BI.out.stays hbV)
  clear hV hbV
  have p0 := Lib.cell_of_heap Z2.out.bO 0
  have p1 := Lib.cell_of_heap Z2.out.bO 1
  have pf := Lib.frozen_of_heap Z2.out.bO 1
  have i0 := Lib.cell_of_heap BI2.out 0
  have i1 := Lib.cell_of_heap BI2.out 1
  have i2 := Lib.cell_of_heap BI2.out 2
  have i3 := Lib.cell_of_heap BI2.out 3
  simp at p0 p1 i0 i1 i2 i3
  rw [E8.out] at p0
  have HRA := hide (own_cell Z2.out.ro (by rw [E8.out]; exact hai))
  have HRB := hide (own_cell Z2.out.ro (by rw [E8.out]; exact hbi))
  have ra := HRA.out.1
  have fa := HRA.out.2
  have rb := HRB.out.1
  rw [EVA.out] at ra
  rw [EVB.out] at rb
  clear HRA HRB
  rcases hop with rfl | rfl | rfl | rfl
  · have HF : Hid (calcF x ⟨1, (ai : Int), (bi : Int), c⟩ = 0) := hide rfl
    have HN : Hid (calcN x ⟨1, (ai : Int), (bi : Int), c⟩ = c) := hide rfl
    go_wp2_with fail
    have HE : Hid (stepCalc x ⟨1, (ai : Int), (bi : Int), c⟩ = ({ x with regs := x.regs.set ai (c), pc := x.pc + 1 }, 0)) := hide (by rw [HU.out, HF.out, HN.out, if_pos rfl])
    have ZR := hide (Z2.out.setReg (i := ai) (c))
    have BR : Hid (Below B z (V.setCell ⟨q, ai, none⟩ (.int .i64 (c)))) := hide (B2.out.setCell (p := ⟨q, ai, none⟩) hBq _)
    have k1 := Lib.cell_of_heap ZR.out.bO 1
    have kf := Lib.frozen_of_heap ZR.out.bO 1
    simp at k1 kf
    have ZP := hide ((ZR.out.setPc (x.pc + 1)).stays (Below.refl _ _).drew)
    have BP := hide ((BR.out.setCell (p := ⟨G, 1, none⟩) hBG (.int .i64 (x.pc + 1))).drew)
    go_region
    go_wp2
    go_ret
    rw [HE.out]
    exact ⟨rfl, ZP.out, BP.out⟩
  · have CC := fun w => hide ((specCalc c va vb w).mono fun _ _ h => And.intro h.1 h.2.symm)
    have HF : Hid (calcF x ⟨4, (ai : Int), (bi : Int), c⟩ = calcY c va vb) := hide (by show calcY c (regAt x (ai : Int)) (regAt x (bi : Int)) = _; rw [GA.out, GB.out])
    have HN : Hid (calcN x ⟨4, (ai : Int), (bi : Int), c⟩ = calcX c va vb) := hide (by show calcX c (regAt x (ai : Int)) (regAt x (bi : Int)) = _; rw [GA.out, GB.out])
    obtain ⟨nn, en⟩ : ∃ n, calcX c va vb = n := ⟨_, rfl⟩
    obtain ⟨ff, ef⟩ : ∃ n, calcY c va vb = n := ⟨_, rfl⟩
    simp only [en, ef, two] at CC
    rw [en] at HN
    rw [ef] at HF
    clear en ef
    have CC' := fun k => hide (Calls.quiet_of_same (w := V) (n := k) (unhide (CC (V.drewN k))))
    go_wp2_with fail
    go_quiet ((go_at_call 57; with_reducible exact unhide (CC' _)))
    clear p0 p1 pf i0 i1 i2 i3 ra fa rb
    obtain ⟨U, hV⟩ : ∃ Y, V.drewN nq = Y := ⟨_, rfl⟩
    have hbV : Below V.heap.size V U := by rw [← hV]; exact below_drewN (Below.refl _ _) _
    rw [hV]
    have Z3 := hide (Z2.out.stays hbV)
    have B3 := hide (B2.out.trans (hbV.mono (Nat.le_trans HBz.out B2.out.size)))
    have BI3 := hide (BI2.out.stays hbV)
    clear hV hbV
    have p0 := Lib.cell_of_heap Z3.out.bO 0
    have p1 := Lib.cell_of_heap Z3.out.bO 1
    have pf := Lib.frozen_of_heap Z3.out.bO 1
    have i0 := Lib.cell_of_heap BI3.out 0
    have i1 := Lib.cell_of_heap BI3.out 1
    have i2 := Lib.cell_of_heap BI3.out 2
    have i3 := Lib.cell_of_heap BI3.out 3
    simp at p0 p1 i0 i1 i2 i3
    rw [E8.out] at p0
    have HRA := hide (own_cell Z3.out.ro (by rw [E8.out]; exact hai))
    have HRB := hide (own_cell Z3.out.ro (by rw [E8.out]; exact hbi))
    have ra := HRA.out.1
    have fa := HRA.out.2
    have rb := HRB.out.1
    rw [EVA.out] at ra
    rw [EVB.out] at rb
    clear HRA HRB
    by_cases hf : ff = 0
    · subst hf
      go_wp2_with fail
      have HE : Hid (stepCalc x ⟨4, (ai : Int), (bi : Int), c⟩ = ({ x with regs := x.regs.set ai (nn), pc := x.pc + 1 }, 0)) := hide (by rw [HU.out, HF.out, HN.out, if_pos rfl])
      have ZR := hide (Z3.out.setReg (i := ai) (nn))
      have BR : Hid (Below B z (U.setCell ⟨q, ai, none⟩ (.int .i64 (nn)))) := hide (B3.out.setCell (p := ⟨q, ai, none⟩) hBq _)
      have k1 := Lib.cell_of_heap ZR.out.bO 1
      have kf := Lib.frozen_of_heap ZR.out.bO 1
      simp at k1 kf
      have ZP := hide ((ZR.out.setPc (x.pc + 1)).stays (Below.refl _ _).drew)
      have BP := hide ((BR.out.setCell (p := ⟨G, 1, none⟩) hBG (.int .i64 (x.pc + 1))).drew)
      go_region
      go_wp2
      go_ret
      rw [HE.out]
      exact ⟨rfl, ZP.out, BP.out⟩
    · have HE : Hid (stepCalc x ⟨4, (ai : Int), (bi : Int), c⟩ = (x, ff)) := hide (by rw [HU.out, HF.out, if_neg hf])
      go_wp2
      go_ret
      rw [HE.out]
      exact ⟨rfl, Z3.out, B3.out⟩
  · have CC := fun w => hide ((specDenied va w).mono fun _ _ h => And.intro h.1 h.2.symm)
    have HF : Hid (calcF x ⟨5, (ai : Int), (bi : Int), c⟩ = 0) := hide rfl
    have HN : Hid (calcN x ⟨5, (ai : Int), (bi : Int), c⟩ = if va = 0 then 1 else 0) := hide (by show (if regAt x (ai : Int) = 0 then (1 : Int) else 0) = _; rw [GA.out])
    obtain ⟨nn, en⟩ : ∃ n : Int, (if va = 0 then 1 else 0) = n := ⟨_, rfl⟩
    simp only [en] at CC
    rw [en] at HN
    clear en
    go_wp2_with fail
    refine (unhide (CC _)).mono ?_
    rintro e zz ⟨rfl, ez⟩
    rw [ez]
    clear ez zz
    go_wp2_with fail
    have HE : Hid (stepCalc x ⟨5, (ai : Int), (bi : Int), c⟩ = ({ x with regs := x.regs.set ai (nn), pc := x.pc + 1 }, 0)) := hide (by rw [HU.out, HF.out, HN.out, if_pos rfl])
    have ZR := hide (Z2.out.setReg (i := ai) (nn))
    have BR : Hid (Below B z (V.setCell ⟨q, ai, none⟩ (.int .i64 (nn)))) := hide (B2.out.setCell (p := ⟨q, ai, none⟩) hBq _)
    have k1 := Lib.cell_of_heap ZR.out.bO 1
    have kf := Lib.frozen_of_heap ZR.out.bO 1
    simp at k1 kf
    have ZP := hide ((ZR.out.setPc (x.pc + 1)).stays (Below.refl _ _).drew)
    have BP := hide ((BR.out.setCell (p := ⟨G, 1, none⟩) hBG (.int .i64 (x.pc + 1))).drew)
    go_region
    go_wp2
    go_ret
    rw [HE.out]
    exact ⟨rfl, ZP.out, BP.out⟩
  · have CC := fun w => hide ((specNeg va w).mono fun _ _ h => And.intro h.1 h.2.symm)
    have HF : Hid (calcF x ⟨6, (ai : Int), (bi : Int), c⟩ = negF va) := hide (by show negF (regAt x (ai : Int)) = _; rw [GA.out])
    have HN : Hid (calcN x ⟨6, (ai : Int), (bi : Int), c⟩ = negN va) := hide (by show negN (regAt x (ai : Int)) = _; rw [GA.out])
    obtain ⟨nn, en⟩ : ∃ n, negN va = n := ⟨_, rfl⟩
    obtain ⟨ff, ef⟩ : ∃ n, negF va = n := ⟨_, rfl⟩
    simp only [negV_two, en, ef, two] at CC
    rw [en] at HN
    rw [ef] at HF
    clear en ef
    go_wp2_with fail
    refine (unhide (CC _)).mono ?_
    rintro e zz ⟨rfl, ez⟩
    rw [ez]
    clear ez zz
    by_cases hf : ff = 0
    · subst hf
      go_wp2_with fail
      have HE : Hid (stepCalc x ⟨6, (ai : Int), (bi : Int), c⟩ = ({ x with regs := x.regs.set ai (nn), pc := x.pc + 1 }, 0)) := hide (by rw [HU.out, HF.out, HN.out, if_pos rfl])
      have ZR := hide (Z2.out.setReg (i := ai) (nn))
      have BR : Hid (Below B z (V.setCell ⟨q, ai, none⟩ (.int .i64 (nn)))) := hide (B2.out.setCell (p := ⟨q, ai, none⟩) hBq _)
      have k1 := Lib.cell_of_heap ZR.out.bO 1
      have kf := Lib.frozen_of_heap ZR.out.bO 1
      simp at k1 kf
      have ZP := hide ((ZR.out.setPc (x.pc + 1)).stays (Below.refl _ _).drew)
      have BP := hide ((BR.out.setCell (p := ⟨G, 1, none⟩) hBG (.int .i64 (x.pc + 1))).drew)
      go_region
      go_wp2
      go_ret
      rw [HE.out]
      exact ⟨rfl, ZP.out, BP.out⟩
    · have HE : Hid (stepCalc x ⟨6, (ai : Int), (bi : Int), c⟩ = (x, ff)) := hide (by rw [HU.out, HF.out, if_neg hf])
      go_wp2
      go_ret
      rw [HE.out]
      exact ⟨rfl, Z2.out, B2.out⟩
end Go.Proofs.Ytmchgmpdhfefjaa

