/-
  Walks: whether a gate is right, by the specification.
-/
import Derived.Test.YtnedpcgdepiakaaGatK
namespace Go.Proofs.Ytnedpcgdepiakaa
open Go.RowKit

def GwR (w : World) (v1 v2 : Value) (g : Gt) (rv iv : Value) (wr : World) : Prop := ∃ i : Nat, i ≤ g.waits.length ∧ iv = .int .i64 i ∧ Hid (WaG g i) ∧ Hid (GkZ w g.owner v1 v2 rv (preG g ++ g.waits.take i) wr)
def GqR (w : World) (v1 v2 : Value) (g : Gt) (rv iv : Value) (wr : World) : Prop := ∃ i : Nat, i ≤ g.queues.length ∧ iv = .int .i64 i ∧ Hid (QuG g i) ∧ Hid (GkZ w g.owner v1 v2 rv (preG g ++ g.waits ++ g.queues.take i) wr)
theorem specInZ (n lo hi : Int) (w : World) : Calls Try.prog 31 #[.int .i64 n, .int .i64 lo, .int .i64 hi] w fun e w' => e = .returned (.bool (inZ lo hi n)) ∧ w = w' := by
  refine (specIn n lo hi w).mono ?_
  rintro e w' ⟨rfl, rfl⟩
  refine ⟨?_, rfl⟩
  congr 2
  by_cases h1 : lo ≤ n <;> by_cases h2 : n ≤ hi <;> simp [inZ, h1, h2]

set_option maxRecDepth 100000 in
set_option maxHeartbeats 8000000 in
theorem specGateOk_any (v1 v2 : Value) (g : Gt) (w : World) (h : GtAt w v1 v2 g) (hl : GtLen g) :
    Calls Try.prog 15 #[.agg #[.int .i64 g.owner, v1, v2]] w fun e w' => e = .returned (.bool (gateOkB g)) ∧ Below w.heap.size w w' := by
  have HAW := hide h
  have L1 := hl.l1
  have L2 := hl.l2
  have hb0 : Below w.heap.size w (w.alloc (.cells #[.int .i64 g.owner, v1, v2] 24)) := (Below.refl _ _).alloc (Nat.le_refl _) _
  have BX0 := hide (Box.made w #[.int .i64 g.owner, v1, v2] 24)
  have HB0 := hide hb0
  obtain ⟨R, eR⟩ : ∃ R, gateOkB g = R := ⟨_, rfl⟩
  have ER := hide eR
  rw [eR]
  clear eR hb0
  obtain ⟨o1, c1, rfl, _⟩ := h.a1
  obtain ⟨o2, c2, rfl, _⟩ := h.a2
  clear h hl
  obtain ⟨ow, eow⟩ : ∃ o, g.owner = o := ⟨_, rfl⟩
  have EOW := hide eow
  obtain ⟨n, en⟩ : ∃ n, g.waits.length = n := ⟨_, rfl⟩
  obtain ⟨m, em⟩ : ∃ m, g.queues.length = m := ⟨_, rfl⟩
  have EN := hide en
  have EM := hide em
  rw [eow] at BX0 HB0 ⊢
  rw [en] at L1 HAW BX0 HB0 ⊢
  rw [em] at L2 HAW BX0 HB0 ⊢
  clear en em eow
  have CI := fun z => hide (specInZ ow (-1) 3 z)
  obtain ⟨W, hW⟩ : ∃ W, w.alloc (.cells #[.int .i64 ow, .slice o1 n c1, .slice o2 m c2] 24) = W := ⟨_, rfl⟩
  have HW := hide hW
  rw [hW] at BX0 HB0
  clear hW
  have q0 := Lib.cell_of_heap BX0.out 0
  have q1 := Lib.cell_of_heap BX0.out 1
  have q2 := Lib.cell_of_heap BX0.out 2
  simp at q0 q1 q2
  rw [← HW.out] at q0 q1 q2
  obtain ⟨zb, ezb⟩ : ∃ b, inZ (-1) 3 ow = b := ⟨_, rfl⟩
  simp only [ezb] at CI
  cases zb with
  | false =>
    have eR2 : R = false := by rw [← ER.out]; exact gate_no fun q => by rw [EOW.out, ezb] at q; exact absurd q.1 (by decide)
    subst eR2
    go_enter Try.func15, Try.ntmps15
    go_wp2_with (go_at_call 31; refine (unhide (CI _)).mono ?_; rintro e z ⟨rfl, rfl⟩)
    go_ret
    exact ⟨rfl, by rw [HW.out]; exact HB0.out⟩
  | true =>
    by_cases hm2 : m ≤ 2
    case neg =>
      have eR2 : R = false := by rw [← ER.out]; exact gate_no fun q => by rw [EM.out] at q; exact hm2 q.2.1
      subst eR2
      have hq : (2 : Int) < (m : Int) := by omega
      go_enter Try.func15, Try.ntmps15
      go_wp2_with (go_at_call 31; refine (unhide (CI _)).mono ?_; rintro e z ⟨rfl, rfl⟩)
      go_ret
      exact ⟨rfl, by rw [HW.out]; exact HB0.out⟩
    have hm2' : ¬ (2 : Int) < (m : Int) := by omega
    by_cases hown : ow < 0 ∧ 0 < n
    case pos =>
      have eR2 : R = false := by
        rw [← ER.out]
        refine gate_no fun q => ?_
        rcases q.2.2.1 with h | h
        · rw [EOW.out] at h; omega
        · have h9 := EN.out
          rw [h] at h9
          simp at h9
          omega
      subst eR2
      have ho := hown.1
      have hn' : (0 : Int) < (n : Int) := by omega
      go_enter Try.func15, Try.ntmps15
      go_wp2_with (go_at_call 31; refine (unhide (CI _)).mono ?_; rintro e z ⟨rfl, rfl⟩)
      go_ret
      exact ⟨rfl, by rw [HW.out]; exact HB0.out⟩
    have H3 : Hid (0 ≤ g.owner ∨ g.waits = []) := by
      show _ ∨ _
      by_cases h : 0 ≤ ow
      · left; rw [EOW.out]; exact h
      · right; apply List.eq_nil_of_length_eq_zero; rw [EN.out]; omega
    have HB1 : Hid (Below w.heap.size w (W.alloc (.cells #[] 3))) := HB0.out.alloc HB0.out.size _
    have Z0 : Hid (GkZ w ow (.slice o1 n c1) (.slice o2 m c2) (.slice (some ⟨W.heap.size, 0, none⟩) 0 0) [] (W.alloc (.cells #[] 3))) := by
      have hs : W.heap.size = w.heap.size + 1 := by rw [← HW.out]; simp
      refine hide ⟨BX0.out.stays ((Below.refl _ _).alloc (Nat.le_refl _) _), ?_, HB1.out, by simp; omega⟩
      exact owns_nil (Box.made W #[] 3) (by omega)
    have hs1 : W.heap.size = w.heap.size + 1 := by rw [← HW.out]; simp
    have HZB : Hid (inZ (-1) 3 g.owner = true) := by rw [EOW.out]; exact hide ezb
    have PRE : Hid ((preG g).length ≤ 1) := by show _ ≤ _; unfold preG; split <;> simp
    have SML : Hid (WaG g g.waits.length → n ≤ 4) := fun h => by
      have hn := h.n
      rw [List.take_length] at hn
      have h1 := (List.nodup_append.1 hn).2.1
      have := nodup_le _ [(0 : Int), 1, 2, 3] h1 fun y hy => by
        obtain ⟨j, hj, rfl⟩ := List.getElem_of_mem hy
        have := inZ_yes.1 (h.z j hj hj)
        simp
        omega
      rw [EN.out] at this
      simpa using this
    have hnn : ow < 0 → n = 0 := fun h => by omega
    clear hown ezb
    by_cases ho : 0 ≤ ow
    · have EPR : Hid (preG g = [ow]) := by show _ = _; unfold preG; rw [EOW.out, if_pos ho]
      have HV := hide (Z0.out.stays ((Below.refl _ _).alloc (Nat.le_refl _) (.cells #[.int .i64 ow] 3)))
      have HUV : Hid (((W.alloc (.cells #[] 3)).alloc (.cells #[.int .i64 ow] 3)).cell? ⟨W.heap.size + 1, 0, none⟩ = some (.int .i64 ow)) := hide (Lib.cell_of_heap (Box.madeAt (by simp) #[.int .i64 ow] 3) 0)
      rw [← HW.out] at HV HUV
      rw [show (w.alloc (.cells #[.int .i64 ow, .slice o1 n c1, .slice o2 m c2] 24)).heap.size = w.heap.size + 1 by simp] at HV HUV
      have t0 := Lib.cell_of_heap HV.out.bx 0
      simp at t0
      go_enter Try.func15, Try.ntmps15
      go_wp2_with (first | (go_at_call 31; refine (unhide (CI _)).mono ?_; rintro e z ⟨rfl, rfl⟩) | (at_builtin; refine wpList_more rfl (.tmp 31) (.tmp 34) 22 rfl (w.heap.size + 1) 3 (.int .i64 0) 8 Try.underlying22 Try.infoInt rfl (.slice (some ⟨w.heap.size + 1, 0, none⟩) 0 0) [] rfl HV.out.own (w.heap.size + 1 + 1) (.int .i64 ow) rfl HUV.out rfl ?_ ?_ HV.out.le ?_; (simp [maxLen]); (simp); intro v' w' hm; have ZP : Hid (GkZ w ow (.slice o1 n c1) (.slice o2 m c2) v' (preG g) w') := (by have h9 := HV.out.more hm; rw [EPR.out]; exact h9); clear hm))
      clear q0 q1 q2 t0 HV HUV Z0
      go_loopw [3, 4] (fun rv iv wr => GwR w (.slice o1 n c1) (.slice o2 m c2) g rv iv wr) (fun _ iv _ => n - (intOf iv).toNat)
      case atStart => exact ⟨0, Nat.zero_le _, rfl, WaG.zero g, by rw [List.take_zero, List.append_nil, EOW.out]; exact ZP⟩
      case round =>
        clear ZP
        obtain ⟨i, hi, rfl, HK, Z⟩ := hrel
        rw [EN.out] at hi
        rw [EOW.out] at Z
        obtain ⟨rp, rc, er⟩ := form_own Z.out.own
        subst er
        obtain ⟨ln, eln⟩ : ∃ m, ((preG g ++ g.waits.take i).map I64).length = m := ⟨_, rfl⟩
        rw [eln] at Z ⊢
        clear eln
        have t1 := Lib.cell_of_heap Z.out.bx 1
        have t2 := Lib.cell_of_heap Z.out.bx 2
        simp at t1 t2
        by_cases hlt : i < n
        · have hlt' : (i : Int) < (n : Int) := by omega
          have hi0 : (0 : Int) ≤ (i : Int) := by omega
          have hix : i < g.waits.length := by rw [EN.out]; exact hlt
          obtain ⟨ao', c', e1, hc1⟩ := (HAW.out.stays Z.out.bel).a1
          injection e1 with e2 e3 e4
          subst e2
          obtain ⟨a, rfl, ha, hx⟩ := hc1 i hix
          have HB1 := hide fun h => bad_wait hix h
          have HB2 := hide fun h => bad_dup hix h
          have HST := hide fun h1 h2 => HK.out.step hix h1 h2
          have CL := fun z (hz : IntsAt z (.slice rp ln rc) (preG g ++ g.waits.take i)) => hide ((l12In_any _ (preG g ++ g.waits.take i) g.waits[i] z hz (by rw [List.length_append, List.length_take]; have := PRE.out; omega)).mono fun _ _ h => And.intro h.1 h.2.symm)
          have HTK : Hid (preG g ++ g.waits.take (i + 1) = preG g ++ g.waits.take i ++ [g.waits[i]]) := by show _ = _; rw [List.take_succ_eq_append_getElem hix, List.append_assoc]
          have HLN : Hid ((preG g ++ g.waits.take i).length ≤ 1048577) := by show _ ≤ _; rw [List.length_append, List.length_take]; have := PRE.out; omega
          obtain ⟨l, el⟩ : ∃ l, preG g ++ g.waits.take i = l := ⟨_, rfl⟩
          obtain ⟨x, ex⟩ : ∃ x, g.waits[i] = x := ⟨_, rfl⟩
          rw [el] at Z HB2 HST CL HTK HLN
          rw [ex] at hx HB1 HB2 HST CL HTK
          clear el ex hc1 e3 e4
          have hln := HLN.out
          have CI2 := fun z => hide (specInZ x 0 3 z)
          obtain ⟨k1, ek1⟩ : ∃ k, inZ 0 3 x = k := ⟨_, rfl⟩
          simp only [ek1] at CI2
          cases k1 with
          | false =>
            have eR2 : R = false := by rw [← ER.out]; exact HB1.out ek1
            subst eR2
            go_wp2_with (go_at_call 31; refine (unhide (CI2 _)).mono ?_; rintro e z ⟨rfl, rfl⟩)
            go_ret
            exact ⟨rfl, Z.out.bel⟩
          | true =>
            obtain ⟨k2, ek2⟩ : ∃ k, decide (x ∈ l) = k := ⟨_, rfl⟩
            have CL2 := fun z hz => CL z hz
            simp only [ek2] at CL2
            cases k2 with
            | true =>
              have eR2 : R = false := by rw [← ER.out]; exact HB2.out (of_decide_eq_true ek2)
              subst eR2
              go_wp2_with (first | (go_at_call 31; refine (unhide (CI2 _)).mono ?_; rintro e z ⟨rfl, rfl⟩) | (go_at_call 32; refine (unhide (CL2 _ Z.out.ints)).mono ?_; rintro e z ⟨rfl, rfl⟩))
              go_ret
              exact ⟨rfl, Z.out.bel⟩
            | false =>
              have HK2 := hide (HST.out ek1 (of_decide_eq_false ek2))
              have HV := hide (Z.out.stays ((Below.refl _ _).alloc (Nat.le_refl _) (.cells #[.int .i64 x] 3)))
              have HUV : Hid ((wr.alloc (.cells #[.int .i64 x] 3)).cell? ⟨wr.heap.size, 0, none⟩ = some (.int .i64 x)) := hide (Lib.cell_of_heap (Box.made wr #[.int .i64 x] 3) 0)
              clear ek1 ek2
              go_wp2_with (first | (go_at_call 31; refine (unhide (CI2 _)).mono ?_; rintro e z ⟨rfl, rfl⟩) | (go_at_call 32; refine (unhide (CL2 _ Z.out.ints)).mono ?_; rintro e z ⟨rfl, rfl⟩) | (at_builtin; refine wpList_more rfl (.tmp 59) (.tmp 65) 22 rfl (w.heap.size + 1) 3 (.int .i64 0) 8 Try.underlying22 Try.infoInt rfl (.slice rp ln rc) (l.map I64) rfl HV.out.own wr.heap.size (.int .i64 x) rfl HUV.out rfl ?_ ?_ HV.out.le ?_; (rw [List.length_map]; unfold maxLen; omega); (rw [List.length_map]; omega); intro v' w' hm; have Z3 := hide (HV.out.more hm); clear hm))
              go_roundw
              case rel => exact ⟨i + 1, by rw [EN.out]; omega, by go_num, HK2.out, by rw [HTK.out, EOW.out]; exact Z3⟩
              case measure => simp [intOf]; omega
        · have hlt' : ¬ (i : Int) < (n : Int) := by omega
          obtain rfl : i = n := by omega
          have HWA : Hid (WaG g g.waits.length) := by have h9 := HK.out; rw [← EN.out] at h9; exact hide h9
          have ZQ : Hid (GkZ w ow (.slice o1 i c1) (.slice o2 m c2) (.slice rp ln rc) (preG g ++ g.waits) wr) := by
            have h9 := Z.out
            have e9 : g.waits.take i = g.waits := by rw [← EN.out, List.take_length]
            rw [e9] at h9
            exact hide h9
          clear Z HK
          go_wp2
          go_loopw [3, 5] (fun rv iv wr => GqR w (.slice o1 i c1) (.slice o2 m c2) g rv iv wr) (fun _ iv _ => m - (intOf iv).toNat)
          case atStart => exact ⟨0, Nat.zero_le _, rfl, QuG.zero HWA.out, by rw [List.take_zero, List.append_nil, EOW.out]; exact ZQ⟩
          case round =>
            clear ZQ t1 t2
            obtain ⟨j, hj, rfl, HK, Z⟩ := hrel
            rw [EM.out] at hj
            rw [EOW.out] at Z
            obtain ⟨rq, rd, er⟩ := form_own Z.out.own
            subst er
            obtain ⟨lm, elm⟩ : ∃ k, ((preG g ++ g.waits ++ g.queues.take j).map I64).length = k := ⟨_, rfl⟩
            rw [elm] at Z ⊢
            clear elm
            have t2 := Lib.cell_of_heap Z.out.bx 2
            simp at t2
            by_cases hlt : j < m
            · have hlt2 : (j : Int) < (m : Int) := by omega
              have hj0 : (0 : Int) ≤ (j : Int) := by omega
              have hjx : j < g.queues.length := by rw [EM.out]; exact hlt
              obtain ⟨ao', c', e1, hc1⟩ := (HAW.out.stays Z.out.bel).a2
              injection e1 with e2 e3 e4
              subst e2
              obtain ⟨a, rfl, ha, hx⟩ := hc1 j hjx
              have HB1 := hide fun h => bad_queue hjx h
              have HB2 := hide fun h0 h => bad_qdup hjx h0 h
              have HST := hide fun h1 h2 => HK.out.step hjx h1 h2
              have CL := fun z (hz : IntsAt z (.slice rq lm rd) (preG g ++ g.waits ++ g.queues.take j)) hle => hide ((l12In_any _ (preG g ++ g.waits ++ g.queues.take j) g.queues[j] z hz hle).mono fun _ _ h => And.intro h.1 h.2.symm)
              have HTK : Hid (preG g ++ g.waits ++ g.queues.take (j + 1) = preG g ++ g.waits ++ g.queues.take j ++ [g.queues[j]]) := by show _ = _; rw [List.take_succ_eq_append_getElem hjx]; simp
              have HLN : Hid ((preG g ++ g.waits ++ g.queues.take j).length ≤ 1048576) := by show _ ≤ _; rw [List.length_append, List.length_append, List.length_take, EN.out, EM.out]; have h9 := PRE.out; have h8 := SML.out HWA.out; omega
              obtain ⟨l, el⟩ : ∃ l, preG g ++ g.waits ++ g.queues.take j = l := ⟨_, rfl⟩
              obtain ⟨x, ex⟩ : ∃ x, g.queues[j] = x := ⟨_, rfl⟩
              rw [el] at Z HB2 HST CL HTK HLN
              rw [ex] at hx HB1 HB2 HST CL HTK
              clear el ex hc1 e3 e4
              have hln := HLN.out
              have CL3 := fun z hz => CL z hz hln
              clear CL
              have CI2 := fun z => hide (specInZ x (-1) 3 z)
              obtain ⟨k1, ek1⟩ : ∃ k, inZ (-1) 3 x = k := ⟨_, rfl⟩
              simp only [ek1] at CI2
              cases k1 with
              | false =>
                have eR2 : R = false := by rw [← ER.out]; exact HB1.out ek1
                subst eR2
                go_wp2_with (go_at_call 31; refine (unhide (CI2 _)).mono ?_; rintro e z ⟨rfl, rfl⟩)
                go_ret
                exact ⟨rfl, Z.out.bel⟩
              | true =>
                have HV := hide (Z.out.stays ((Below.refl _ _).alloc (Nat.le_refl _) (.cells #[.int .i64 x] 3)))
                have HUV : Hid ((wr.alloc (.cells #[.int .i64 x] 3)).cell? ⟨wr.heap.size, 0, none⟩ = some (.int .i64 x)) := hide (Lib.cell_of_heap (Box.made wr #[.int .i64 x] 3) 0)
                by_cases hx0 : 0 ≤ x
                · obtain ⟨k2, ek2⟩ : ∃ k, decide (x ∈ l) = k := ⟨_, rfl⟩
                  simp only [ek2] at CL3
                  cases k2 with
                  | true =>
                    have eR2 : R = false := by rw [← ER.out]; exact HB2.out hx0 (of_decide_eq_true ek2)
                    subst eR2
                    go_wp2_with (first | (go_at_call 31; refine (unhide (CI2 _)).mono ?_; rintro e z ⟨rfl, rfl⟩) | (go_at_call 32; refine (unhide (CL3 _ Z.out.ints)).mono ?_; rintro e z ⟨rfl, rfl⟩))
                    go_ret
                    exact ⟨rfl, Z.out.bel⟩
                  | false =>
                    have HK2 := hide (HST.out ek1 (fun _ => of_decide_eq_false ek2))
                    clear ek1 ek2
                    go_wp2_with (first | (go_at_call 31; refine (unhide (CI2 _)).mono ?_; rintro e z ⟨rfl, rfl⟩) | (go_at_call 32; refine (unhide (CL3 _ Z.out.ints)).mono ?_; rintro e z ⟨rfl, rfl⟩) | (at_builtin; refine wpList_more rfl (.tmp 98) (.tmp 104) 22 rfl (w.heap.size + 1) 3 (.int .i64 0) 8 Try.underlying22 Try.infoInt rfl (.slice rq lm rd) (l.map I64) rfl HV.out.own wr.heap.size (.int .i64 x) rfl HUV.out rfl ?_ ?_ HV.out.le ?_; (rw [List.length_map]; unfold maxLen; omega); (rw [List.length_map]; omega); intro v' w' hm; have Z3 := hide (HV.out.more hm); clear hm))
                    go_roundw
                    case rel => exact ⟨j + 1, by rw [EM.out]; omega, by go_num, HK2.out, by rw [HTK.out, EOW.out]; exact Z3⟩
                    case measure => simp [intOf]; omega
                · have HK2 := hide (HST.out ek1 (fun h => absurd h hx0))
                  clear ek1
                  go_wp2_with (first | (go_at_call 31; refine (unhide (CI2 _)).mono ?_; rintro e z ⟨rfl, rfl⟩) | (at_builtin; refine wpList_more rfl (.tmp 98) (.tmp 104) 22 rfl (w.heap.size + 1) 3 (.int .i64 0) 8 Try.underlying22 Try.infoInt rfl (.slice rq lm rd) (l.map I64) rfl HV.out.own wr.heap.size (.int .i64 x) rfl HUV.out rfl ?_ ?_ HV.out.le ?_; (rw [List.length_map]; unfold maxLen; omega); (rw [List.length_map]; omega); intro v' w' hm; have Z3 := hide (HV.out.more hm); clear hm))
                  go_roundw
                  case rel => exact ⟨j + 1, by rw [EM.out]; omega, by go_num, HK2.out, by rw [HTK.out, EOW.out]; exact Z3⟩
                  case measure => simp [intOf]; omega
            · have hlt2 : ¬ (j : Int) < (m : Int) := by omega
              obtain rfl : j = m := by omega
              have eR2 : R = true := by
                rw [← ER.out]
                exact gate_good HZB.out (by rw [EM.out]; omega) H3.out HWA.out (by have h9 := HK.out; rw [← EM.out] at h9; exact h9)
              subst eR2
              go_wp2
              go_ret
              exact ⟨rfl, Z.out.bel⟩
    · have hon : ow < 0 := by omega
      have hn0 : ¬ (0 : Int) < (n : Int) := by have := hnn hon; omega
      clear hnn
      have EPR : Hid (preG g = []) := by show _ = _; unfold preG; rw [EOW.out, if_neg ho]
      have ZP0 : Hid (GkZ w ow (.slice o1 n c1) (.slice o2 m c2) (.slice (some ⟨W.heap.size, 0, none⟩) 0 0) (preG g) (W.alloc (.cells #[] 3))) := by rw [EPR.out]; exact hide Z0.out
      rw [← HW.out] at ZP0
      rw [show (w.alloc (.cells #[.int .i64 ow, .slice o1 n c1, .slice o2 m c2] 24)).heap.size = w.heap.size + 1 by simp] at ZP0
      have t0 := Lib.cell_of_heap ZP0.out.bx 0
      simp at t0
      go_enter Try.func15, Try.ntmps15
      go_wp2_with (go_at_call 31; refine (unhide (CI _)).mono ?_; rintro e z ⟨rfl, rfl⟩)
      clear q0 q1 q2 t0 Z0
      have ZP := hide ZP0.out
      clear ZP0
      go_loopw [3, 4] (fun rv iv wr => GwR w (.slice o1 n c1) (.slice o2 m c2) g rv iv wr) (fun _ iv _ => n - (intOf iv).toNat)
      case atStart => exact ⟨0, Nat.zero_le _, rfl, WaG.zero g, by rw [List.take_zero, List.append_nil, EOW.out]; exact ZP⟩
      case round =>
        clear ZP
        obtain ⟨i, hi, rfl, HK, Z⟩ := hrel
        rw [EN.out] at hi
        rw [EOW.out] at Z
        obtain ⟨rp, rc, er⟩ := form_own Z.out.own
        subst er
        obtain ⟨ln, eln⟩ : ∃ m, ((preG g ++ g.waits.take i).map I64).length = m := ⟨_, rfl⟩
        rw [eln] at Z ⊢
        clear eln
        have t1 := Lib.cell_of_heap Z.out.bx 1
        have t2 := Lib.cell_of_heap Z.out.bx 2
        simp at t1 t2
        by_cases hlt : i < n
        · exfalso; omega
        · have hlt' : ¬ (i : Int) < (n : Int) := by omega
          obtain rfl : i = n := by omega
          have HWA : Hid (WaG g g.waits.length) := by have h9 := HK.out; rw [← EN.out] at h9; exact hide h9
          have ZQ : Hid (GkZ w ow (.slice o1 i c1) (.slice o2 m c2) (.slice rp ln rc) (preG g ++ g.waits) wr) := by
            have h9 := Z.out
            have e9 : g.waits.take i = g.waits := by rw [← EN.out, List.take_length]
            rw [e9] at h9
            exact hide h9
          clear Z HK
          go_wp2
          go_loopw [3, 5] (fun rv iv wr => GqR w (.slice o1 i c1) (.slice o2 m c2) g rv iv wr) (fun _ iv _ => m - (intOf iv).toNat)
          case atStart => exact ⟨0, Nat.zero_le _, rfl, QuG.zero HWA.out, by rw [List.take_zero, List.append_nil, EOW.out]; exact ZQ⟩
          case round =>
            clear ZQ t1 t2
            obtain ⟨j, hj, rfl, HK, Z⟩ := hrel
            rw [EM.out] at hj
            rw [EOW.out] at Z
            obtain ⟨rq, rd, er⟩ := form_own Z.out.own
            subst er
            obtain ⟨lm, elm⟩ : ∃ k, ((preG g ++ g.waits ++ g.queues.take j).map I64).length = k := ⟨_, rfl⟩
            rw [elm] at Z ⊢
            clear elm
            have t2 := Lib.cell_of_heap Z.out.bx 2
            simp at t2
            by_cases hlt : j < m
            · have hlt2 : (j : Int) < (m : Int) := by omega
              have hj0 : (0 : Int) ≤ (j : Int) := by omega
              have hjx : j < g.queues.length := by rw [EM.out]; exact hlt
              obtain ⟨ao', c', e1, hc1⟩ := (HAW.out.stays Z.out.bel).a2
              injection e1 with e2 e3 e4
              subst e2
              obtain ⟨a, rfl, ha, hx⟩ := hc1 j hjx
              have HB1 := hide fun h => bad_queue hjx h
              have HB2 := hide fun h0 h => bad_qdup hjx h0 h
              have HST := hide fun h1 h2 => HK.out.step hjx h1 h2
              have CL := fun z (hz : IntsAt z (.slice rq lm rd) (preG g ++ g.waits ++ g.queues.take j)) hle => hide ((l12In_any _ (preG g ++ g.waits ++ g.queues.take j) g.queues[j] z hz hle).mono fun _ _ h => And.intro h.1 h.2.symm)
              have HTK : Hid (preG g ++ g.waits ++ g.queues.take (j + 1) = preG g ++ g.waits ++ g.queues.take j ++ [g.queues[j]]) := by show _ = _; rw [List.take_succ_eq_append_getElem hjx]; simp
              have HLN : Hid ((preG g ++ g.waits ++ g.queues.take j).length ≤ 1048576) := by show _ ≤ _; rw [List.length_append, List.length_append, List.length_take, EN.out, EM.out]; have h9 := PRE.out; have h8 := SML.out HWA.out; omega
              obtain ⟨l, el⟩ : ∃ l, preG g ++ g.waits ++ g.queues.take j = l := ⟨_, rfl⟩
              obtain ⟨x, ex⟩ : ∃ x, g.queues[j] = x := ⟨_, rfl⟩
              rw [el] at Z HB2 HST CL HTK HLN
              rw [ex] at hx HB1 HB2 HST CL HTK
              clear el ex hc1 e3 e4
              have hln := HLN.out
              have CL3 := fun z hz => CL z hz hln
              clear CL
              have CI2 := fun z => hide (specInZ x (-1) 3 z)
              obtain ⟨k1, ek1⟩ : ∃ k, inZ (-1) 3 x = k := ⟨_, rfl⟩
              simp only [ek1] at CI2
              cases k1 with
              | false =>
                have eR2 : R = false := by rw [← ER.out]; exact HB1.out ek1
                subst eR2
                go_wp2_with (go_at_call 31; refine (unhide (CI2 _)).mono ?_; rintro e z ⟨rfl, rfl⟩)
                go_ret
                exact ⟨rfl, Z.out.bel⟩
              | true =>
                have HV := hide (Z.out.stays ((Below.refl _ _).alloc (Nat.le_refl _) (.cells #[.int .i64 x] 3)))
                have HUV : Hid ((wr.alloc (.cells #[.int .i64 x] 3)).cell? ⟨wr.heap.size, 0, none⟩ = some (.int .i64 x)) := hide (Lib.cell_of_heap (Box.made wr #[.int .i64 x] 3) 0)
                by_cases hx0 : 0 ≤ x
                · obtain ⟨k2, ek2⟩ : ∃ k, decide (x ∈ l) = k := ⟨_, rfl⟩
                  simp only [ek2] at CL3
                  cases k2 with
                  | true =>
                    have eR2 : R = false := by rw [← ER.out]; exact HB2.out hx0 (of_decide_eq_true ek2)
                    subst eR2
                    go_wp2_with (first | (go_at_call 31; refine (unhide (CI2 _)).mono ?_; rintro e z ⟨rfl, rfl⟩) | (go_at_call 32; refine (unhide (CL3 _ Z.out.ints)).mono ?_; rintro e z ⟨rfl, rfl⟩))
                    go_ret
                    exact ⟨rfl, Z.out.bel⟩
                  | false =>
                    have HK2 := hide (HST.out ek1 (fun _ => of_decide_eq_false ek2))
                    clear ek1 ek2
                    go_wp2_with (first | (go_at_call 31; refine (unhide (CI2 _)).mono ?_; rintro e z ⟨rfl, rfl⟩) | (go_at_call 32; refine (unhide (CL3 _ Z.out.ints)).mono ?_; rintro e z ⟨rfl, rfl⟩) | (at_builtin; refine wpList_more rfl (.tmp 98) (.tmp 104) 22 rfl (w.heap.size + 1) 3 (.int .i64 0) 8 Try.underlying22 Try.infoInt rfl (.slice rq lm rd) (l.map I64) rfl HV.out.own wr.heap.size (.int .i64 x) rfl HUV.out rfl ?_ ?_ HV.out.le ?_; (rw [List.length_map]; unfold maxLen; omega); (rw [List.length_map]; omega); intro v' w' hm; have Z3 := hide (HV.out.more hm); clear hm))
                    go_roundw
                    case rel => exact ⟨j + 1, by rw [EM.out]; omega, by go_num, HK2.out, by rw [HTK.out, EOW.out]; exact Z3⟩
                    case measure => simp [intOf]; omega
                · have HK2 := hide (HST.out ek1 (fun h => absurd h hx0))
                  clear ek1
                  go_wp2_with (first | (go_at_call 31; refine (unhide (CI2 _)).mono ?_; rintro e z ⟨rfl, rfl⟩) | (at_builtin; refine wpList_more rfl (.tmp 98) (.tmp 104) 22 rfl (w.heap.size + 1) 3 (.int .i64 0) 8 Try.underlying22 Try.infoInt rfl (.slice rq lm rd) (l.map I64) rfl HV.out.own wr.heap.size (.int .i64 x) rfl HUV.out rfl ?_ ?_ HV.out.le ?_; (rw [List.length_map]; unfold maxLen; omega); (rw [List.length_map]; omega); intro v' w' hm; have Z3 := hide (HV.out.more hm); clear hm))
                  go_roundw
                  case rel => exact ⟨j + 1, by rw [EM.out]; omega, by go_num, HK2.out, by rw [HTK.out, EOW.out]; exact Z3⟩
                  case measure => simp [intOf]; omega
            · have hlt2 : ¬ (j : Int) < (m : Int) := by omega
              obtain rfl : j = m := by omega
              have eR2 : R = true := by
                rw [← ER.out]
                exact gate_good HZB.out (by rw [EM.out]; omega) H3.out HWA.out (by have h9 := HK.out; rw [← EM.out] at h9; exact h9)
              subst eR2
              go_wp2
              go_ret
              exact ⟨rfl, Z.out.bel⟩
end Go.Proofs.Ytnedpcgdepiakaa
