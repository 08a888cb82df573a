/-
  Walks: two Envs put together, by the specification.
-/
import Derived.Test.YtmckcbgdkjbpfaaScoI
import Derived.Deep.CutRange
import Derived.BigQuiet
import Derived.Deep.RegionLaw
namespace Go.Proofs.Ytmckcbgdkjbpfaa
open Go.RowKit

theorem selE_yes {a b : Ev} {i : Nat} (h0 : i < b.names.length) (h1 : i < b.vals.length) (h : memB a.names b.names[i] = false) : selE a b (i + 1) = selE a b i ++ [(b.names[i], b.vals[i])] := by
  unfold selE
  have hl : i < (b.names.zip b.vals).length := by rw [List.length_zip]; omega
  rw [List.take_succ_eq_append_getElem hl, List.filter_append, List.getElem_zip, List.filter_cons, if_pos (by rw [h]; rfl)]
  rfl
theorem selE_no {a b : Ev} {i : Nat} (h0 : i < b.names.length) (h1 : i < b.vals.length) (h : memB a.names b.names[i] = true) : selE a b (i + 1) = selE a b i := by
  unfold selE
  have hl : i < (b.names.zip b.vals).length := by rw [List.length_zip]; omega
  rw [List.take_succ_eq_append_getElem hl, List.filter_append, List.getElem_zip, List.filter_cons, if_neg (by rw [h]; decide)]
  simp
def ToR (w : World) (va0 va1 vb0 vb1 : Value) (G : Nat) (a b : Ev) (iv : Value) (wr : World) : Prop :=
  ∃ (i : Nat) (r0 r1 : Value), i ≤ min b.names.length b.vals.length ∧ iv = .int .i64 i ∧ Hid (ToZ w va0 va1 vb0 vb1 G r0 r1 (togTo a b i) wr)

set_option maxRecDepth 100000 in
set_option maxHeartbeats 8000000 in
theorem specTogether_any (va0 va1 vb0 vb1 : Value) (a b : Ev) (w : World) (hA : EvAt w va0 va1 a) (hB : EvAt w vb0 vb1 b) (hl : szEv a + szEv b ≤ 1048576) :
    Calls Try.prog 22 #[.agg #[va0, va1], .agg #[vb0, vb1]] w fun e w' => ∃ r0 r1, e = .returned (.agg #[r0, r1]) ∧ EvOwn w.heap.size w' r0 r1 (togE a b) ∧ Below w.heap.size w w' := by
  have hla : EvLen a := szEv_len (by omega)
  have hlb : EvLen b := szEv_len (by omega)
  have HLT : Hid (∀ i, i ≤ min b.names.length b.vals.length → (togTo a b i).names.length ≤ 1048576 ∧ (togTo a b i).vals.length ≤ 1048576) := fun i hi => by
    have h1 := selE_len a b i
    unfold szEv szStrs at hl
    refine ⟨?_, ?_⟩
    · show (a.names ++ _).length ≤ _
      rw [List.length_append, List.length_map]
      omega
    · show (a.vals ++ _).length ≤ _
      rw [List.length_append, List.length_map]
      omega
  have HAW := hide hA
  have HBW := hide hB
  have hal := hla.l0
  have L0 := hlb.l0
  have L1 := hlb.l1
  have CC := fun z h => hide (copyEv_any va0 va1 a z h hla)
  obtain ⟨W1, hW⟩ : ∃ W1, ((w.alloc (.cells #[va0, va1] 27)).alloc (.cells #[vb0, vb1] 27)).alloc (.cells #[.slice none 0 0, .slice none 0 0] 27) = W1 := ⟨_, rfl⟩
  have B1 : Hid (Below w.heap.size w W1) := by rw [← hW]; show Below w.heap.size w _; go_grown
  have BA1 : Hid (Box W1 w.heap.size #[va0, va1] 27) := by rw [← hW]; exact hide (((Box.made w _ _).stays ((Below.refl _ _).alloc (Nat.le_refl _) _)).stays ((Below.refl _ _).alloc (Nat.le_refl _) _))
  have BB1 : Hid (Box W1 (w.heap.size + 1) #[vb0, vb1] 27) := by rw [← hW]; exact hide ((Box.madeAt (by simp) _ _).stays ((Below.refl _ _).alloc (Nat.le_refl _) _))
  have BR1 : Hid (Box W1 (w.heap.size + 2) #[.slice none 0 0, .slice none 0 0] 27) := by rw [← hW]; exact hide (Box.madeAt (by simp) _ _)
  have HZ1 : Hid (W1.heap.size = w.heap.size + 3) := by rw [← hW]; show _ = _; simp
  have HW := hide hW
  obtain ⟨o0, c0, rfl, _⟩ := hA.a0
  obtain ⟨o1, c1, rfl, _⟩ := hA.a1
  obtain ⟨o2, c2, rfl, _⟩ := hB.a0
  obtain ⟨o3, c3, rfl, _⟩ := hB.a1
  clear hA hB hla hlb hl hW
  have q0 := Lib.cell_of_heap BA1.out 0
  have q1 := Lib.cell_of_heap BA1.out 1
  simp at q0 q1
  rw [← HW.out] at q0 q1
  go_enter Try.func22, Try.ntmps22
  go_wp2_with fail
  rw [HW.out]
  refine (unhide (CC _ (HAW.out.stays B1.out))).mono ?_
  rintro e zc ⟨r0, r1, rfl, ho, hb⟩
  obtain ⟨p0, k0, rfl⟩ := form_own ho.o0
  obtain ⟨p1, k1, rfl⟩ := form_own ho.o1
  have hba : Below zc.heap.size zc (zc.alloc (.cells #[.slice p0 a.names.length k0, .slice p1 a.vals.length k1] 27)) := (Below.refl _ _).alloc (Nat.le_refl _) _
  have Z1 : Hid (ToZ w (.slice o0 a.names.length c0) (.slice o1 a.vals.length c1) (.slice o2 b.names.length c2) (.slice o3 b.vals.length c3) zc.heap.size (.slice p0 a.names.length k0) (.slice p1 a.vals.length k1) (togTo a b 0) (zc.alloc (.cells #[.slice p0 a.names.length k0, .slice p1 a.vals.length k1] 27))) := by
    have e0 : togTo a b 0 = a := by unfold togTo selE; simp
    rw [e0]
    exact ⟨(BA1.out.stays hb).stays hba, (BB1.out.stays hb).stays hba, ⟨_, _, (BR1.out.stays hb).stays hba⟩, Box.made _ _ _, (ho.lo (by have := HZ1.out; omega)).stays hba, (B1.out.trans (hb.mono B1.out.size)).trans (hba.mono (Nat.le_trans B1.out.size hb.size)), by have := HZ1.out; have := hb.size; omega⟩
  clear hb ho hba q0 q1
  obtain ⟨Z, hZ⟩ : ∃ Z, zc.alloc (.cells #[.slice p0 a.names.length k0, .slice p1 a.vals.length k1] 27) = Z := ⟨_, rfl⟩
  have HZ := hide hZ
  rw [hZ] at Z1
  clear hZ
  obtain ⟨G, eG⟩ : ∃ G, zc.heap.size = G := ⟨_, rfl⟩
  have EG := hide eG
  rw [eG] at Z1
  clear eG
  obtain ⟨n, en⟩ : ∃ n, b.names.length = n := ⟨_, rfl⟩
  obtain ⟨m, em⟩ : ∃ m, b.vals.length = m := ⟨_, rfl⟩
  have EN := hide en
  have EM := hide em
  have HBW2 := hide HBW.out
  rw [en] at L0 Z1 HBW2 ⊢
  rw [em] at L1 Z1 HBW2 ⊢
  clear en em
  go_wp2
  rw [HZ.out, EG.out]
  go_loopw [6] (fun iv wr => ToR w (.slice o0 a.names.length c0) (.slice o1 a.vals.length c1) (.slice o2 n c2) (.slice o3 m c3) G a b iv wr) (fun iv _ => n - (intOf iv).toNat)
  case atStart => exact ⟨0, _, _, by omega, rfl, Z1.out⟩
  case round =>
    clear Z1
    obtain ⟨i, r0, r1, hi, rfl, Z⟩ := hrel
    rw [EN.out, EM.out] at hi
    obtain ⟨p0, k0, rfl⟩ := form_own Z.out.own.o0
    obtain ⟨p1, k1, rfl⟩ := form_own Z.out.own.o1
    have HLI := HLT.out i (by rw [EN.out, EM.out]; exact hi)
    have HFIN : Hid (n ≤ i ∨ m ≤ i → togTo a b i = togE a b) := fun hd => by
      unfold togE
      rw [EN.out, EM.out]
      congr 1
      omega
    obtain ⟨y, ey⟩ : ∃ y, togTo a b i = y := ⟨_, rfl⟩
    have EY := hide ey
    rw [ey] at Z HLI HFIN
    have hN9 := HLI.1
    have hV9 := HLI.2
    clear ey HLI
    have tb0 := Lib.cell_of_heap Z.out.bB 0
    have tb1 := Lib.cell_of_heap Z.out.bB 1
    have ta0 := Lib.cell_of_heap Z.out.bA 0
    have to0 := Lib.cell_of_heap Z.out.bO 0
    have to1 := Lib.cell_of_heap Z.out.bO 1
    obtain ⟨ra, rb, hrr⟩ := Z.out.bR
    have tr0 := Lib.cell_of_heap hrr 0
    have tr1 := Lib.cell_of_heap hrr 1
    have fr0 := Lib.frozen_of_heap hrr 0
    have fr1 := Lib.frozen_of_heap hrr 1
    simp at tb0 tb1 ta0 to0 to1 tr0 tr1
    clear hrr
    by_cases hlt : i < n
    · by_cases hlm : i < m
      · have hlt' : (i : Int) < (n : Int) := by omega
        have hlm' : (i : Int) < (m : Int) := by omega
        have hi0 : (0 : Int) ≤ (i : Int) := by omega
        have hin : i < b.names.length := by rw [EN.out]; exact hlt
        have him : i < b.vals.length := by rw [EM.out]; exact hlm
        obtain ⟨ao', c', e1, hc1⟩ := (HBW2.out.stays Z.out.bel).a0
        injection e1 with e2 e3 e4
        subst e2
        obtain ⟨an, rfl, han, hx⟩ := hc1 i hin
        obtain ⟨ao', c', e5, hc2⟩ := (HBW2.out.stays Z.out.bel).a1
        injection e5 with e6 e7 e8
        subst e6
        obtain ⟨av, rfl, hav, hk⟩ := hc2 i him
        have HYES := hide fun h => selE_yes (a := a) hin him h
        have HNO := hide fun h => selE_no (a := a) hin him h
        obtain ⟨s, es⟩ : ∃ s, b.names[i] = s := ⟨_, rfl⟩
        obtain ⟨k, ek⟩ : ∃ k, b.vals[i] = k := ⟨_, rfl⟩
        have EK := hide ek
        rw [es] at hx HYES HNO
        rw [ek] at hk HYES
        have C3 := fun j => hide (Calls.quiet_of_same (w := wr) (n := j) (l08In_any (.slice o0 a.names.length c0) a.names s (wr.drewN j) (((HAW.out.stays Z.out.bel).stays (below_drewN (Below.refl _ _) _)).a0) hal))
        have HSZ := hide Z.out.bel.size
        clear hc1 hc2 e3 e4 e7 e8 es ek HFIN tr0 tr1 fr0 fr1 CC
        obtain ⟨q, eq⟩ : ∃ q, memB a.names s = q := ⟨_, rfl⟩
        rw [eq] at C3
        cases q with
        | true =>
          have HSEL := hide (HNO.out eq)
          clear eq HYES HNO
          go_wp2_with fail
          go_quiet ((go_at_call 54; with_reducible exact unhide (C3 _)))
          all_goals go_wp2
          all_goals go_roundw
          case rel =>
            refine ⟨i + 1, .slice p0 y.names.length k0, .slice p1 y.vals.length k1, by rw [EN.out, EM.out]; omega, by go_num, ?_⟩
            have e1 : togTo a b (i + 1) = y := by
              rw [← EY.out]
              unfold togTo
              rw [HSEL.out]
            rw [e1]
            exact hide (Z.out.stays (below_drewN (Below.refl _ _) _))
          case measure => simp [intOf]; omega
        | false =>
          have HTN : Hid (togTo a b (i + 1) = ⟨y.names ++ [s], y.vals ++ [k]⟩) := by
            have h9 := HYES.out eq
            rw [← EY.out]
            show togTo a b (i + 1) = _
            unfold togTo
            rw [h9]
            simp
          clear eq HYES HNO
          go_wp2_with fail
          go_quiet ((go_at_call 54; with_reducible exact unhide (C3 _)))
          all_goals go_wp2_with fail
          have ZV := hide (Z.out.stays (below_drewN (Below.refl _ _) nq))
          have hxV : (wr.drewN nq).cell? (an.add i) = some (.string s) := hx
          have hkV : (wr.drewN nq).cell? (av.add i) = some (.int .i64 k) := hk
          have havV : av.block < (wr.drewN nq).heap.size := hav
          have hanV : an.block < (wr.drewN nq).heap.size := han
          obtain ⟨V, eV⟩ : ∃ V, wr.drewN nq = V := ⟨_, rfl⟩
          rw [eV] at ZV hxV hkV havV hanV ⊢
          clear eV hx hk hav han Z tb0 tb1 ta0 to0 to1 C3
          have tb0 := Lib.cell_of_heap ZV.out.bB 0
          have to0 := Lib.cell_of_heap ZV.out.bO 0
          have td0 := fun o => Lib.cell_of_heap (ZV.out.bO.stays ((Below.refl _ _).alloc (Nat.le_refl _) o)) 0
          simp at tb0 to0 td0
          have HG := hide fun W h => ZV.out.stays (z' := W) h
          go_cut [6] from 9 to 51 (fun iv z => iv = .int .i64 i ∧ ∃ r, Hid (ToZ w (.slice o0 a.names.length c0) (.slice o1 a.vals.length c1) (.slice (some an) n c2) (.slice (some av) m c3) G r (.slice p1 y.vals.length k1) ⟨y.names ++ [s], y.vals⟩ z))
          case first =>
            go_region_law ((refine step_more rfl (.tmp 33) (.tmp 39) 22 rfl (w.heap.size + 3) 9 (.string ⟨#[]⟩) 16 Try.underlying22 Try.infoStr rfl (.slice p0 y.names.length k0) (y.names.map S) rfl ?_ V.heap.size (.string s) rfl ?_ rfl ?_ ?_ ?_ ?_; (rw [List.length_map]; exact (HG.out _ (by first | go_grown | exact (Below.refl _ _).drew | exact ((Below.refl _ _).alloc (Nat.le_refl _) _).drew | exact (((Below.refl _ _).alloc (Nat.le_refl _) _).drew).drew | exact ((Below.refl _ _).drew.alloc (Nat.le_refl _) _) | exact ((Below.refl _ _).drew.alloc (Nat.le_refl _) _).drew)).own.o0); (exact Lib.cell_of_heap (Box.made V _ _) 0); (rw [List.length_map]; unfold maxLen; omega); (rw [List.length_map]; omega); (exact Nat.le_trans (Nat.le_trans ZV.out.gl (Nat.le_of_lt ZV.out.bO.lt)) (Below.size (B := V.heap.size) (by first | go_grown | exact (Below.refl _ _).drew | exact ((Below.refl _ _).alloc (Nat.le_refl _) _).drew | exact (((Below.refl _ _).alloc (Nat.le_refl _) _).drew).drew | exact ((Below.refl _ _).drew.alloc (Nat.le_refl _) _) | exact ((Below.refl _ _).drew.alloc (Nat.le_refl _) _).drew))); intro v' w' hm; have HBX := hide (box_more hm (by rw [List.length_map]; exact (HG.out _ (by first | go_grown | exact (Below.refl _ _).drew | exact ((Below.refl _ _).alloc (Nat.le_refl _) _).drew | exact (((Below.refl _ _).alloc (Nat.le_refl _) _).drew).drew | exact ((Below.refl _ _).drew.alloc (Nat.le_refl _) _) | exact ((Below.refl _ _).drew.alloc (Nat.le_refl _) _).drew)).own.o0) (HG.out _ (by first | go_grown | exact (Below.refl _ _).drew | exact ((Below.refl _ _).alloc (Nat.le_refl _) _).drew | exact (((Below.refl _ _).alloc (Nat.le_refl _) _).drew).drew | exact ((Below.refl _ _).drew.alloc (Nat.le_refl _) _) | exact ((Below.refl _ _).drew.alloc (Nat.le_refl _) _).drew)).bO (by decide)); have sh := form_own hm.own; obtain ⟨po, co, e9⟩ := sh; subst e9; have Z9 := hide (ToZ.name (HG.out _ (by first | go_grown | exact (Below.refl _ _).drew | exact ((Below.refl _ _).alloc (Nat.le_refl _) _).drew | exact (((Below.refl _ _).alloc (Nat.le_refl _) _).drew).drew | exact ((Below.refl _ _).drew.alloc (Nat.le_refl _) _) | exact ((Below.refl _ _).drew.alloc (Nat.le_refl _) _).drew)) hm); rw [List.length_map] at Z9; have kc := (Lib.cell_of_heap HBX.out 0).trans rfl; have kf := Lib.frozen_of_heap HBX.out 0; clear hm))
            all_goals go_wp2_with fail
            all_goals go_meet
            all_goals exact ⟨rfl, _, Z9⟩
          case rest =>
            obtain ⟨rfl, r, ZR⟩ := hcut
            obtain ⟨pr, kr, rfl⟩ := form_own ZR.out.own.o0
            obtain ⟨ao', c', e5, hc2⟩ := (HBW2.out.stays ZR.out.bel).a1
            injection e5 with e6 e7 e8
            subst e6
            obtain ⟨av', e9, _, hk⟩ := hc2 i him
            injection e9 with e10
            subst e10
            rw [EK.out] at hk
            clear hc2 e7 e8 ZV HG tb0 to0 td0 hxV hkV havV hanV
            have tb1 := Lib.cell_of_heap ZR.out.bB 1
            have to1 := Lib.cell_of_heap ZR.out.bO 1
            have td1 := fun o => Lib.cell_of_heap (ZR.out.bO.stays ((Below.refl _ _).alloc (Nat.le_refl _) o)) 1
            simp at tb1 to1 td1
            have HG := hide fun W h => ZR.out.stays (z' := W) h
            go_wp2_with fail
            go_region_law ((refine step_more rfl (.tmp 43) (.tmp 49) 23 rfl (w.heap.size + 3) 3 (.int .i64 0) 8 Try.underlying23 Try.infoInt rfl (.slice p1 y.vals.length k1) (y.vals.map I64) rfl ?_ wc.heap.size (.int .i64 k) rfl ?_ rfl ?_ ?_ ?_ ?_; (rw [List.length_map]; exact (HG.out _ (by first | go_grown | exact (Below.refl _ _).drew | exact ((Below.refl _ _).alloc (Nat.le_refl _) _).drew | exact (((Below.refl _ _).alloc (Nat.le_refl _) _).drew).drew | exact ((Below.refl _ _).drew.alloc (Nat.le_refl _) _) | exact ((Below.refl _ _).drew.alloc (Nat.le_refl _) _).drew)).own.o1); (exact Lib.cell_of_heap (Box.made wc _ _) 0); (rw [List.length_map]; unfold maxLen; omega); (rw [List.length_map]; omega); (exact Nat.le_trans (Nat.le_trans ZR.out.gl (Nat.le_of_lt ZR.out.bO.lt)) (Below.size (B := wc.heap.size) (by first | go_grown | exact (Below.refl _ _).drew | exact ((Below.refl _ _).alloc (Nat.le_refl _) _).drew | exact (((Below.refl _ _).alloc (Nat.le_refl _) _).drew).drew | exact ((Below.refl _ _).drew.alloc (Nat.le_refl _) _) | exact ((Below.refl _ _).drew.alloc (Nat.le_refl _) _).drew))); intro v' w' hm; have HBX := hide (box_more hm (by rw [List.length_map]; exact (HG.out _ (by first | go_grown | exact (Below.refl _ _).drew | exact ((Below.refl _ _).alloc (Nat.le_refl _) _).drew | exact (((Below.refl _ _).alloc (Nat.le_refl _) _).drew).drew | exact ((Below.refl _ _).drew.alloc (Nat.le_refl _) _) | exact ((Below.refl _ _).drew.alloc (Nat.le_refl _) _).drew)).own.o1) (HG.out _ (by first | go_grown | exact (Below.refl _ _).drew | exact ((Below.refl _ _).alloc (Nat.le_refl _) _).drew | exact (((Below.refl _ _).alloc (Nat.le_refl _) _).drew).drew | exact ((Below.refl _ _).drew.alloc (Nat.le_refl _) _) | exact ((Below.refl _ _).drew.alloc (Nat.le_refl _) _).drew)).bO (by decide)); have sh := form_own hm.own; obtain ⟨po, co, e9⟩ := sh; subst e9; have Z9 := hide (ToZ.val (HG.out _ (by first | go_grown | exact (Below.refl _ _).drew | exact ((Below.refl _ _).alloc (Nat.le_refl _) _).drew | exact (((Below.refl _ _).alloc (Nat.le_refl _) _).drew).drew | exact ((Below.refl _ _).drew.alloc (Nat.le_refl _) _) | exact ((Below.refl _ _).drew.alloc (Nat.le_refl _) _).drew)) hm); rw [List.length_map] at Z9; have kc := (Lib.cell_of_heap HBX.out 1).trans rfl; have kf := Lib.frozen_of_heap HBX.out 1; clear hm))
            all_goals go_wp2
            all_goals go_roundw
            all_goals first | (exact ⟨i + 1, _, _, by rw [EN.out, EM.out]; omega, by go_num, by rw [HTN.out]; exact Z9⟩) | (simp [intOf]; omega)
      · have hlt' : (i : Int) < (n : Int) := by omega
        have hlm' : ¬ (i : Int) < (m : Int) := by omega
        have HPE := hide (HFIN.out (.inr (by omega)))
        go_wp2
        refine box_ret (g := w.heap.size + 2) (t := 27) (cs := #[.slice p0 y.names.length k0, .slice p1 y.vals.length k1]) rfl rfl ?_ _ Try.underlying27 rfl (by kernel_rfl) rfl ?_
        · exact Z.out.fin.1
        · exact ⟨_, _, rfl, by rw [← HPE.out]; exact Z.out.fin.2.1, Z.out.fin.2.2⟩
    · have hlt' : ¬ (i : Int) < (n : Int) := by omega
      have HPE := hide (HFIN.out (.inl (by omega)))
      go_wp2
      refine box_ret (g := w.heap.size + 2) (t := 27) (cs := #[.slice p0 y.names.length k0, .slice p1 y.vals.length k1]) rfl rfl ?_ _ Try.underlying27 rfl (by kernel_rfl) rfl ?_
      · exact Z.out.fin.1
      · exact ⟨_, _, rfl, by rw [← HPE.out]; exact Z.out.fin.2.1, Z.out.fin.2.2⟩
end Go.Proofs.Ytmckcbgdkjbpfaa
