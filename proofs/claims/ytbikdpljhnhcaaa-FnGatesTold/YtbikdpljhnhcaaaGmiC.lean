/-
  Walk: whether a gate is right, by the program.
-/
import Derived.Test.YtbikdpljhnhcaaaGmiP
import Derived.Test.YtbikdpljhnhcaaaGmiB
import Derived.Test.YtbikdpljhnhcaaaCatI
import Derived.Test.YtbikdpljhnhcaaaImpB
namespace Go.Proofs.Ytbikdpljhnhcaaa
open Go.RowKit

set_option maxRecDepth 100000 in
theorem isProcess_any (n : Int) (w : World) : Calls Try.prog 30 #[.int .i64 n] w fun e w' => e = .returned (.bool (inZ 0 3 n)) ∧ w' = w := by
  by_cases h0 : 0 ≤ n
  · by_cases h3 : n < 4
    · have HE : Hid (inZ 0 3 n = true) := hide (inZ_yes.2 ⟨h0, by omega⟩)
      go_enter Try.func30, Try.ntmps30
      go_wp2
      go_ret
      rw [HE.out]
      exact ⟨rfl, rfl⟩
    · have HE : Hid (inZ 0 3 n = false) := hide (by rw [Bool.eq_false_iff]; intro h; have := inZ_yes.1 h; omega)
      go_enter Try.func30, Try.ntmps30
      go_wp2
      go_ret
      rw [HE.out]
      exact ⟨rfl, rfl⟩
  · have HE : Hid (inZ 0 3 n = false) := hide (by rw [Bool.eq_false_iff]; intro h; have := inZ_yes.1 h; omega)
    go_enter Try.func30, Try.ntmps30
    go_wp2
    go_ret
    rw [HE.out]
    exact ⟨rfl, rfl⟩

/-- How often a process was met. -/
def timeV (l : List Int) (k : Int) : Value := .int .i64 (if k ∈ l then 1 else 0)
def timesV (l : List Int) : Array Value := #[timeV l 0, timeV l 1, timeV l 2, timeV l 3]
theorem timesV_skip {l : List Int} {a : Int} (h : inZ 0 3 a = false) : timesV (l ++ [a]) = timesV l := by
  have hn : ∀ k : Int, 0 ≤ k → k ≤ 3 → timeV (l ++ [a]) k = timeV l k := fun k h0 h3 => by
    unfold timeV
    have : k ≠ a := fun e => by
      rw [← e, inZ_yes.2 ⟨h0, h3⟩] at h
      exact Bool.noConfusion h
    simp [this]
  unfold timesV
  rw [hn 0 (by omega) (by omega), hn 1 (by omega) (by omega), hn 2 (by omega) (by omega), hn 3 (by omega) (by omega)]
theorem timeV_more (l : List Int) (a k : Int) : timeV (l ++ [a]) k = if k = a then .int .i64 1 else timeV l k := by
  unfold timeV
  by_cases h : k = a <;> simp [h]
/-- While those that are there are told. -/
structure GoZ (w : World) (L : List Int) (rv : Value) (i : Nat) (z : World) : Prop where
  tm : Box z (w.heap.size + 1) (timesV (L.take i)) 52
  ow : OwnI (w.heap.size + 4) rv L z
  bel : Below w.heap.size w z
  sc : scanB (L.take i) = true
def GoR (w : World) (L : List Int) (rv : Value) (iv : Value) (z : World) : Prop := ∃ i : Nat, i ≤ L.length ∧ iv = .int .i64 (i : Int) ∧ Hid (GoZ w L rv i z)
theorem take_one {L : List Int} {i : Nat} (h : i < L.length) : L.take (i + 1) = L.take i ++ [L[i]] := List.take_succ_eq_append_getElem h
theorem take_drop_one {L : List Int} {i : Nat} (h : i < L.length) : L = L.take i ++ L[i] :: L.drop (i + 1) := by
  rw [← List.drop_eq_getElem_cons h, List.take_append_drop]
theorem GoZ.store {w : World} {L : List Int} {rv : Value} {i : Nat} {z : World} (h : GoZ w L rv i z) (hi : i < L.length) (k : Nat) (e : L[i] = (k : Int)) (hk : k < 4) (hn : L[i] ∉ L.take i) : GoZ w L rv (i + 1) (z.setCell ⟨w.heap.size + 1, k, none⟩ (.int .i64 1)) := by
  refine ⟨?_, ?_, h.bel.setCell (p := ⟨w.heap.size + 1, k, none⟩) (by show w.heap.size ≤ w.heap.size + 1; omega) _, ?_⟩
  · have h1 := h.tm.set k (.int .i64 1)
    have h2 : (timesV (L.take i)).setIfInBounds k (.int .i64 1) = timesV (L.take (i + 1)) := by
      rw [take_one hi, e]
      have : k = 0 ∨ k = 1 ∨ k = 2 ∨ k = 3 := by omega
      unfold timesV
      simp only [timeV_more]
      rcases this with rfl | rfl | rfl | rfl <;> rfl
    rw [h2] at h1
    exact h1
  · exact owns_eq h.ow fun g hg => Below.heap_setCell _ ⟨w.heap.size + 1, k, none⟩ _ g (by have := (h.ow.lt g hg).1; show g ≠ w.heap.size + 1; omega)
  · rw [take_one hi]
    exact scan_more (by omega) h.sc (inZ_yes.2 (by omega)) hn

set_option maxRecDepth 100000 in
set_option maxHeartbeats 8000000 in
theorem implGateOk_any (v1 v2 : Value) (x : Gt) (w : World) (h : GtAt w v1 v2 x) (hl : GtLen x) :
    Calls Try.prog 11 #[.agg #[.int .i64 x.owner, v1, v2]] w fun e w' => e = .returned (.bool (gateOkB x)) ∧ Below w.heap.size w w' := by
  have L1 := hl.l1
  have L2 := hl.l2
  have HPK := hide (prog_ok x)
  have HAW := hide h
  have CC := fun z h => hide (contains_any v1 x.waits (-1) z h L1)
  have CT := fun v z h h1 h2 h3 => hide (concatI_any v [[x.owner], x.waits, x.queues] z h h1 h2 h3)
  have CP := fun n z => hide (isProcess_any n z)
  obtain ⟨o1, c1, rfl, _⟩ := h.a1
  obtain ⟨o2, c2, rfl, _⟩ := h.a2
  clear h hl
  obtain ⟨b, eb⟩ : ∃ b, decide (-1 ∈ x.waits) = b := ⟨_, rfl⟩
  have EB := hide eb
  rw [eb] at CC
  clear eb
  obtain ⟨n2, e2⟩ : ∃ n2, x.queues.length = n2 := ⟨_, rfl⟩
  have E2 := hide e2
  obtain ⟨n1, e1⟩ : ∃ n1, x.waits.length = n1 := ⟨_, rfl⟩
  have E1 := hide e1
  obtain ⟨W1, hW⟩ : ∃ W1, w.alloc (.cells #[.int .i64 x.owner, .slice o1 n1 c1, .slice o2 n2 c2] 26) = W1 := ⟨_, rfl⟩
  rw [e1, e2] at HAW
  rw [e1] at CC L1
  rw [e2] at L2
  rw [e1, e2]
  clear e1 e2
  have B1 : Hid (Below w.heap.size w W1) := by rw [← hW]; exact hide ((Below.refl _ _).alloc (Nat.le_refl _) _)
  have HW := hide hW
  clear hW
  by_cases hq : 2 < n2
  · have hq' : (n2 : Int) > 2 := by omega
    have HE : Hid (gateOkB x = false) := hide (by rw [← HPK.out]; simp [progOk, preB, E2.out]; intro h; omega)
    go_enter Try.func11, Try.ntmps11
    go_wp2
    go_ret
    rw [HE.out]
    exact ⟨rfl, by go_grown⟩
  · have hq' : ¬ (n2 : Int) > 2 := by omega
    go_enter Try.func11, Try.ntmps11
    go_wp2_with fail
    rw [HW.out]
    refine (unhide (CC _ (HAW.out.stays B1.out).a1)).mono ?_
    rintro e z1 ⟨rfl, ez⟩
    rw [ez]
    clear ez z1
    rw [← HW.out]
    cases b with
    | true =>
      have HE : Hid (gateOkB x = false) := hide (by rw [← HPK.out]; simp [progOk, preB, EB.out])
      go_wp2
      go_ret
      rw [HE.out]
      exact ⟨rfl, by go_grown⟩
    | false =>
      by_cases hx : x.owner = -1 ∧ 0 < n1
      · have hx1 := hx.1
        have hx2 : (n1 : Int) > 0 := by omega
        have HE : Hid (gateOkB x = false) := hide (by rw [← HPK.out]; simp [progOk, preB, E1.out, hx1, hx.2])
        go_wp2
        go_ret
        rw [HE.out]
        exact ⟨rfl, by go_grown⟩
      · have HPRE : Hid (preB x = true) := hide (by
          unfold preB
          rw [E2.out, EB.out, decide_eq_true (by omega : n2 ≤ 2), E1.out, decide_eq_false hx]
          rfl)
        obtain ⟨W6, hW6⟩ : ∃ W6, (((w.alloc (.cells #[.int .i64 x.owner, .slice o1 n1 c1, .slice o2 n2 c2] 26)).alloc (.cells #[.int .i64 0, .int .i64 0, .int .i64 0, .int .i64 0] 52)).alloc (.cells #[.int .i64 x.owner] 3)).alloc (.cells #[.slice (some ⟨w.heap.size + 1 + 1, 0, none⟩) 1 1, .slice o1 n1 c1, .slice o2 n2 c2] 24) = W6 := ⟨_, rfl⟩
        have HW6 := hide hW6
        have B6 : Hid (Below w.heap.size w W6) := by rw [← hW6]; show Below w.heap.size w _; go_grown
        clear hW6
        have hstep : (x.owner = -1 ∧ ¬ (n1 : Int) > 0) ∨ ¬ x.owner = -1 := by
          by_cases h : x.owner = -1
          · exact .inl ⟨h, fun k => hx ⟨h, by omega⟩⟩
          · exact .inr h
        clear hx
        have BT : Hid (Box W6 (w.heap.size + 1) (timesV []) 52) := by
          rw [← HW6.out]
          exact hide (((Box.madeAt (by simp) _ _).stays ((Below.refl _ _).alloc (Nat.le_refl _) _)).stays ((Below.refl _ _).alloc (Nat.le_refl _) _))
        have BO : Hid (Box W6 (w.heap.size + 1 + 1) #[.int .i64 x.owner] 3) := by
          rw [← HW6.out]
          exact hide ((Box.madeAt (by simp) _ _).stays ((Below.refl _ _).alloc (Nat.le_refl _) _))
        have BW : Hid (Box W6 (w.heap.size + 1 + 1 + 1) #[.slice (some ⟨w.heap.size + 1 + 1, 0, none⟩) 1 1, .slice o1 n1 c1, .slice o2 n2 c2] 24) := by
          rw [← HW6.out]
          exact hide (Box.madeAt (by simp) _ _)
        have HS6 : Hid (W6.heap.size = w.heap.size + 4) := by rw [← HW6.out]; show _ = _; simp
        have RW : Hid (RowsI W6 (.slice (some ⟨w.heap.size + 1 + 1 + 1, 0, none⟩) 3 3) [[x.owner], x.waits, x.queues]) := by
          refine hide ⟨_, _, rfl, fun j hj => ?_⟩
          have h9 := HAW.out.stays B6.out
          have hj3 : j = 0 ∨ j = 1 ∨ j = 2 := by simp at hj; omega
          rcases hj3 with rfl | rfl | rfl
          · refine ⟨_, _, rfl, BW.out.lt, Lib.cell_of_heap BW.out 0, ⟨_, _, rfl, fun k hk => ?_⟩⟩
            obtain rfl : k = 0 := by simpa using hk
            exact ⟨_, rfl, BO.out.lt, Lib.cell_of_heap BO.out 0⟩
          · exact ⟨_, _, rfl, BW.out.lt, Lib.cell_of_heap BW.out 1, h9.a1⟩
          · exact ⟨_, _, rfl, BW.out.lt, Lib.cell_of_heap BW.out 2, h9.a2⟩
        have HFL : Hid (([[x.owner], x.waits, x.queues] : List (List Int)).flatten = allG x) := hide (by simp [allG])
        have HLN : Hid ((allG x).length = n1 + n2 + 1) := hide (by simp [allG, E1.out, E2.out])
        have CT6 := CT _ _ RW.out (by simp) (by rw [HFL.out, HLN.out]; omega) (by rw [HFL.out, HLN.out]; omega)
        rw [HFL.out] at CT6
        clear CT BO BW RW HFL CC HAW
        obtain ⟨L, eL⟩ : ∃ L, allG x = L := ⟨_, rfl⟩
        have HGK : Hid (gateOkB x = scanB L) := hide (by rw [← HPK.out]; unfold progOk; rw [HPRE.out, eL]; rfl)
        rw [eL] at CT6 HLN
        clear HPRE HPK eL EB E1 E2
        obtain ⟨n, en⟩ : ∃ n, L.length = n := ⟨_, rfl⟩
        have EN := hide en
        have hn1 : n ≤ 2097153 := by have := HLN.out; omega
        clear en HLN
        rcases hstep with ⟨hs1, hs2⟩ | hs1
        · rw [hs1] at HW6
          go_wp2_with fail
          rw [HW6.out]
          refine (unhide CT6).mono ?_
          clear CT6
          rintro e z ⟨rv, rfl, ho, hb⟩
          have HO := hide (owns_lo (a := w.heap.size + 4) ho (by have := HS6.out; omega))
          obtain ⟨rp, rc, rfl⟩ := form_own ho
          have Z0 : Hid (GoZ w L (.slice rp L.length rc) 0 z) := hide ⟨BT.out.stays hb, HO.out, B6.out.trans (hb.mono B6.out.size), rfl⟩
          rw [EN.out] at Z0 ⊢
          clear ho hb HO
          go_wp2
          go_loopw [34] (fun iv z => GoR w L (.slice rp n rc) iv z) (fun iv _ => n - (intOf iv).toNat)
          case atStart => exact ⟨0, by omega, rfl, Z0⟩
          case round =>
            clear Z0
            obtain ⟨i, hi, rfl, Z⟩ := hrel
            by_cases hlt : i < n
            · have hlt' : (i : Int) < (n : Int) := by omega
              have hi0 : (0 : Int) ≤ (i : Int) := by omega
              have hix : i < L.length := by rw [EN.out]; exact hlt
              have HIX := hide hix
              obtain ⟨q, rfl⟩ : ∃ q, rp = some ⟨q, 0, none⟩ := by
                rcases Z.out.ow.2 with ⟨e, h0⟩ | ⟨g, cap, cur, e, _⟩
                · omega
                · injection e with e1 _ _
                  exact ⟨g, e1⟩
              have hcx : wr.cell? ⟨q, i, none⟩ = some (.int .i64 L[i]) := by
                have ow : wr.ownsRow (w.heap.size + 4) 3 1 (.slice (some ⟨q, 0, none⟩) n rc) n (L.map I64) := by
                  have h8 := Z.out.ow
                  unfold OwnI at h8
                  rw [EN.out] at h8
                  exact h8
                have h9 := ow.cellAt i (by omega)
                rw [List.getElem?_map, List.getElem?_eq_getElem hix] at h9
                exact h9
              obtain ⟨a, ea⟩ : ∃ a, L[i] = a := ⟨_, rfl⟩
              have EA := hide ea
              have HT0 : Hid (L.take (i + 1) = L.take i ++ [a]) := hide (by rw [← ea]; exact take_one hix)
              have HD : Hid (L = L.take i ++ a :: L.drop (i + 1)) := hide (by rw [← ea]; exact take_drop_one hix)
              rw [ea] at hcx
              clear hix ea
              have CPA := CP a wr
              have hwi : wrap64 ((i : Int) + 1) = (i : Int) + 1 := by unfold wrap64; omega
              by_cases hneg : a = -1
              · have Z2 : Hid (GoZ w L (.slice (some ⟨q, 0, none⟩) n rc) (i + 1) wr) := by
                  refine hide ⟨?_, Z.out.ow, Z.out.bel, ?_⟩
                  · rw [HT0.out, timesV_skip (by rw [hneg]; rfl)]
                    exact Z.out.tm
                  · rw [HT0.out]
                    exact scan_skip hneg Z.out.sc
                rw [hneg] at hcx
                clear CPA
                go_wp2
                go_roundw
                case rel => exact ⟨i + 1, by rw [EN.out]; omega, by go_num, Z2⟩
                case measure => simp [intOf]; omega
              · by_cases hin : inZ 0 3 a = true
                · have hab := inZ_yes.1 hin
                  rw [hin] at CPA
                  obtain ⟨k, ek⟩ : ∃ k : Nat, a = (k : Int) := ⟨a.toNat, by omega⟩
                  have hk4 : k < 4 := by omega
                  have tk : wr.cell? ⟨w.heap.size + 1, k, none⟩ = some (timeV (L.take i) (k : Int)) := by
                    have h9 := Lib.cell_of_heap Z.out.tm k
                    have : k = 0 ∨ k = 1 ∨ k = 2 ∨ k = 3 := by omega
                    rcases this with rfl | rfl | rfl | rfl <;> exact h9
                  have fk := Lib.frozen_of_heap Z.out.tm k
                  by_cases hm : a ∈ L.take i
                  · have HE : Hid (gateOkB x = false) := hide (by rw [HGK.out, HD.out]; exact scan_bad_twice hneg hm)
                    have tv : timeV (L.take i) (k : Int) = .int .i64 1 := by unfold timeV; rw [if_pos (by rw [← ek]; exact hm)]
                    rw [tv] at tk
                    clear tv hm HD
                    subst ek
                    have hk0 : (0 : Int) ≤ (k : Int) := by omega
                    have hk5 : (k : Int) < 4 := by omega
                    go_wp2_with (go_at_call 30; refine (unhide CPA).mono ?_; rintro e z1 ⟨rfl, ez⟩; rw [ez]; clear ez z1)
                    go_ret
                    rw [HE.out]
                    exact ⟨rfl, Z.out.bel⟩
                  · have Z2 := hide (Z.out.store HIX.out k (EA.out.trans ek) hk4 (fun h => hm (Eq.subst (motive := fun y => y ∈ L.take i) EA.out h)))
                    have tv : timeV (L.take i) (k : Int) = .int .i64 0 := by unfold timeV; rw [if_neg (by rw [← ek]; exact hm)]
                    rw [tv] at tk
                    clear tv hm HD
                    subst ek
                    have hk0 : (0 : Int) ≤ (k : Int) := by omega
                    have hk5 : (k : Int) < 4 := by omega
                    go_wp2_with (go_at_call 30; refine (unhide CPA).mono ?_; rintro e z1 ⟨rfl, ez⟩; rw [ez]; clear ez z1)
                    go_roundw
                    case rel => exact ⟨i + 1, by rw [EN.out]; omega, by go_num, Z2⟩
                    case measure => simp [intOf]; omega
                · have hin' : inZ 0 3 a = false := Bool.eq_false_iff.2 hin
                  rw [hin'] at CPA
                  have HE : Hid (gateOkB x = false) := hide (by rw [HGK.out, HD.out]; exact scan_bad_range hneg hin')
                  clear hin hin' HD
                  go_wp2_with (go_at_call 30; refine (unhide CPA).mono ?_; rintro e z1 ⟨rfl, ez⟩; rw [ez]; clear ez z1)
                  go_ret
                  rw [HE.out]
                  exact ⟨rfl, Z.out.bel⟩
            · have hlt' : ¬ (i : Int) < (n : Int) := by omega
              have HE : Hid (gateOkB x = true) := hide (by
                have h9 := Z.out.sc
                rw [List.take_of_length_le (by rw [EN.out]; omega)] at h9
                rw [HGK.out, h9])
              go_wp2
              go_ret
              rw [HE.out]
              exact ⟨rfl, Z.out.bel⟩
        · go_wp2_with fail
          rw [HW6.out]
          refine (unhide CT6).mono ?_
          clear CT6
          rintro e z ⟨rv, rfl, ho, hb⟩
          have HO := hide (owns_lo (a := w.heap.size + 4) ho (by have := HS6.out; omega))
          obtain ⟨rp, rc, rfl⟩ := form_own ho
          have Z0 : Hid (GoZ w L (.slice rp L.length rc) 0 z) := hide ⟨BT.out.stays hb, HO.out, B6.out.trans (hb.mono B6.out.size), rfl⟩
          rw [EN.out] at Z0 ⊢
          clear ho hb HO
          go_wp2
          go_loopw [34] (fun iv z => GoR w L (.slice rp n rc) iv z) (fun iv _ => n - (intOf iv).toNat)
          case atStart => exact ⟨0, by omega, rfl, Z0⟩
          case round =>
            clear Z0
            obtain ⟨i, hi, rfl, Z⟩ := hrel
            by_cases hlt : i < n
            · have hlt' : (i : Int) < (n : Int) := by omega
              have hi0 : (0 : Int) ≤ (i : Int) := by omega
              have hix : i < L.length := by rw [EN.out]; exact hlt
              have HIX := hide hix
              obtain ⟨q, rfl⟩ : ∃ q, rp = some ⟨q, 0, none⟩ := by
                rcases Z.out.ow.2 with ⟨e, h0⟩ | ⟨g, cap, cur, e, _⟩
                · omega
                · injection e with e1 _ _
                  exact ⟨g, e1⟩
              have hcx : wr.cell? ⟨q, i, none⟩ = some (.int .i64 L[i]) := by
                have ow : wr.ownsRow (w.heap.size + 4) 3 1 (.slice (some ⟨q, 0, none⟩) n rc) n (L.map I64) := by
                  have h8 := Z.out.ow
                  unfold OwnI at h8
                  rw [EN.out] at h8
                  exact h8
                have h9 := ow.cellAt i (by omega)
                rw [List.getElem?_map, List.getElem?_eq_getElem hix] at h9
                exact h9
              obtain ⟨a, ea⟩ : ∃ a, L[i] = a := ⟨_, rfl⟩
              have EA := hide ea
              have HT0 : Hid (L.take (i + 1) = L.take i ++ [a]) := hide (by rw [← ea]; exact take_one hix)
              have HD : Hid (L = L.take i ++ a :: L.drop (i + 1)) := hide (by rw [← ea]; exact take_drop_one hix)
              rw [ea] at hcx
              clear hix ea
              have CPA := CP a wr
              have hwi : wrap64 ((i : Int) + 1) = (i : Int) + 1 := by unfold wrap64; omega
              by_cases hneg : a = -1
              · have Z2 : Hid (GoZ w L (.slice (some ⟨q, 0, none⟩) n rc) (i + 1) wr) := by
                  refine hide ⟨?_, Z.out.ow, Z.out.bel, ?_⟩
                  · rw [HT0.out, timesV_skip (by rw [hneg]; rfl)]
                    exact Z.out.tm
                  · rw [HT0.out]
                    exact scan_skip hneg Z.out.sc
                rw [hneg] at hcx
                clear CPA
                go_wp2
                go_roundw
                case rel => exact ⟨i + 1, by rw [EN.out]; omega, by go_num, Z2⟩
                case measure => simp [intOf]; omega
              · by_cases hin : inZ 0 3 a = true
                · have hab := inZ_yes.1 hin
                  rw [hin] at CPA
                  obtain ⟨k, ek⟩ : ∃ k : Nat, a = (k : Int) := ⟨a.toNat, by omega⟩
                  have hk4 : k < 4 := by omega
                  have tk : wr.cell? ⟨w.heap.size + 1, k, none⟩ = some (timeV (L.take i) (k : Int)) := by
                    have h9 := Lib.cell_of_heap Z.out.tm k
                    have : k = 0 ∨ k = 1 ∨ k = 2 ∨ k = 3 := by omega
                    rcases this with rfl | rfl | rfl | rfl <;> exact h9
                  have fk := Lib.frozen_of_heap Z.out.tm k
                  by_cases hm : a ∈ L.take i
                  · have HE : Hid (gateOkB x = false) := hide (by rw [HGK.out, HD.out]; exact scan_bad_twice hneg hm)
                    have tv : timeV (L.take i) (k : Int) = .int .i64 1 := by unfold timeV; rw [if_pos (by rw [← ek]; exact hm)]
                    rw [tv] at tk
                    clear tv hm HD
                    subst ek
                    have hk0 : (0 : Int) ≤ (k : Int) := by omega
                    have hk5 : (k : Int) < 4 := by omega
                    go_wp2_with (go_at_call 30; refine (unhide CPA).mono ?_; rintro e z1 ⟨rfl, ez⟩; rw [ez]; clear ez z1)
                    go_ret
                    rw [HE.out]
                    exact ⟨rfl, Z.out.bel⟩
                  · have Z2 := hide (Z.out.store HIX.out k (EA.out.trans ek) hk4 (fun h => hm (Eq.subst (motive := fun y => y ∈ L.take i) EA.out h)))
                    have tv : timeV (L.take i) (k : Int) = .int .i64 0 := by unfold timeV; rw [if_neg (by rw [← ek]; exact hm)]
                    rw [tv] at tk
                    clear tv hm HD
                    subst ek
                    have hk0 : (0 : Int) ≤ (k : Int) := by omega
                    have hk5 : (k : Int) < 4 := by omega
                    go_wp2_with (go_at_call 30; refine (unhide CPA).mono ?_; rintro e z1 ⟨rfl, ez⟩; rw [ez]; clear ez z1)
                    go_roundw
                    case rel => exact ⟨i + 1, by rw [EN.out]; omega, by go_num, Z2⟩
                    case measure => simp [intOf]; omega
                · have hin' : inZ 0 3 a = false := Bool.eq_false_iff.2 hin
                  rw [hin'] at CPA
                  have HE : Hid (gateOkB x = false) := hide (by rw [HGK.out, HD.out]; exact scan_bad_range hneg hin')
                  clear hin hin' HD
                  go_wp2_with (go_at_call 30; refine (unhide CPA).mono ?_; rintro e z1 ⟨rfl, ez⟩; rw [ez]; clear ez z1)
                  go_ret
                  rw [HE.out]
                  exact ⟨rfl, Z.out.bel⟩
            · have hlt' : ¬ (i : Int) < (n : Int) := by omega
              have HE : Hid (gateOkB x = true) := hide (by
                have h9 := Z.out.sc
                rw [List.take_of_length_le (by rw [EN.out]; omega)] at h9
                rw [HGK.out, h9])
              go_wp2
              go_ret
              rw [HE.out]
              exact ⟨rfl, Z.out.bel⟩
end Go.Proofs.Ytbikdpljhnhcaaa
