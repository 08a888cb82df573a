/-
  VerdictOf, by both sides.
-/
import Derived.Test.YtkoelibclihekaaMdlA
import Derived.Test.YtkoelibclihekaaMatP
namespace Go.Proofs.Ytkoelibclihekaa
open Go.RowKit

def overB (xs : List Ac) : Bool := xs.all fun a => a.over
def notOver (a : Ac) : Bool := !a.over
def verdictE (x : Md) : Int := if x.stopped then 3 else if overB x.acts then 1 else if (ableE x).row.length = 0 then 2 else 0
theorem first_over {xs : List Ac} (h : overB xs = true) : firstAt notOver xs = -1 := first_none fun j hj => by
  unfold overB at h
  have := List.all_eq_true.1 h xs[j] (List.getElem_mem hj)
  unfold notOver
  simpa using this
theorem first_notOver {xs : List Ac} (h : overB xs = false) : 0 ≤ firstAt notOver xs := by
  unfold firstAt
  split
  · omega
  · rename_i e
    have h2 := List.findIdx?_eq_none_iff.1 e
    have h3 : overB xs = true := List.all_eq_true.2 fun a ha => by
      have := h2 a ha
      unfold notOver at this
      simpa using this
    rw [h] at h3
    cases h3
def OvR (w : World) (xs : List Ac) (bv iv : Value) (z : World) : Prop := ∃ (i : Nat) (b : Bool), i ≤ xs.length ∧ iv = .int .i64 (i : Int) ∧ bv = .bool b ∧ Hid (overB (xs.take i) = b) ∧ Hid (Below w.heap.size w z)
theorem over_take {xs : List Ac} {i : Nat} (h : i < xs.length) : overB (xs.take (i + 1)) = (overB (xs.take i) && xs[i].over) := by
  unfold overB
  rw [List.take_succ_eq_append_getElem h, List.all_append]
  simp
set_option maxRecDepth 100000 in
set_option maxHeartbeats 4000000 in
theorem specVerdictOf_any (v0 v1 v2 v3 v4 v5 v6 v7 : Value) (x : Md) (w : World) (h : MdAt w v0 v1 v2 v3 v4 v5 v6 v7 x) (hl : x.acts.length ≤ 1048576) :
    Calls Try.prog 14 #[.agg #[v0, v1, v2, v3, v4, v5, v6, v7, .bool x.stopped]] w fun e w' => e = .returned (.int .i64 (verdictE x)) ∧ Below w.heap.size w w' := by
  have CA := fun z (hb : Below w.heap.size w z) => hide (specAble_any v0 v1 v2 v3 v4 v5 v6 v7 x z (h.stays hb) hl)
  obtain ⟨h0, h1, h2, h3, h4, h5, h6, h7⟩ := h
  have H := hide h3
  obtain ⟨o0, c0, rfl, _⟩ := h0
  obtain ⟨o1, c1, rfl, _⟩ := h1
  obtain ⟨o2, c2, rfl, _⟩ := h2
  obtain ⟨o3, c3, rfl, _⟩ := h3
  obtain ⟨o4, c4, rfl, _⟩ := h4
  obtain ⟨o5, c5, rfl, _⟩ := h5
  obtain ⟨o6, c6, rfl, _⟩ := h6
  obtain ⟨o7, c7, rfl, _⟩ := h7
  obtain ⟨n0, en0⟩ : ∃ n, x.prog.nodes.length = n := ⟨_, rfl⟩
  obtain ⟨n1, en1⟩ : ∃ n, x.prog.mons.length = n := ⟨_, rfl⟩
  obtain ⟨n2, en2⟩ : ∃ n, x.prog.pros.length = n := ⟨_, rfl⟩
  obtain ⟨n3, en3⟩ : ∃ n, x.acts.length = n := ⟨_, rfl⟩
  obtain ⟨n4, en4⟩ : ∃ n, x.gates.length = n := ⟨_, rfl⟩
  obtain ⟨n5, en5⟩ : ∃ n, x.vars.length = n := ⟨_, rfl⟩
  obtain ⟨n6, en6⟩ : ∃ n, x.input.length = n := ⟨_, rfl⟩
  obtain ⟨n7, en7⟩ : ∃ n, x.events.length = n := ⟨_, rfl⟩
  have EN := hide en3
  simp only [en0, en1, en2, en3, en4, en5, en6, en7] at H hl CA ⊢
  clear en0 en1 en2 en3 en4 en5 en6 en7
  obtain ⟨st, est⟩ : ∃ st, x.stopped = st := ⟨_, rfl⟩
  have EST := hide est
  rw [est] at CA ⊢
  clear est
  obtain ⟨R, eR⟩ : ∃ R, verdictE x = R := ⟨_, rfl⟩
  have ER := hide eR
  rw [eR]
  clear eR
  unfold verdictE at ER
  rw [EST.out] at ER
  obtain ⟨W1, hW⟩ : ∃ W1, w.alloc (.cells #[.slice o0 n0 c0, .slice o1 n1 c1, .slice o2 n2 c2, .slice o3 n3 c3, .slice o4 n4 c4, .slice o5 n5 c5, .slice o6 n6 c6, .slice o7 n7 c7, .bool st] 46) = W1 := ⟨_, rfl⟩
  have BX : Hid (Box W1 w.heap.size #[.slice o0 n0 c0, .slice o1 n1 c1, .slice o2 n2 c2, .slice o3 n3 c3, .slice o4 n4 c4, .slice o5 n5 c5, .slice o6 n6 c6, .slice o7 n7 c7, .bool st] 46) := hide (hW ▸ Box.made w _ _)
  have BW : Hid (Below w.heap.size w W1) := hide (hW ▸ (Below.refl _ _).alloc (Nat.le_refl _) _)
  obtain ⟨g, eg⟩ : ∃ g, w.heap.size = g := ⟨_, rfl⟩
  have HW := hide hW
  have EG := hide eg
  clear hW eg
  go_enter Try.func14, Try.ntmps14
  go_upto_region 1 with fail
  rw [HW.out]
  clear HW
  rw [EG.out] at BX ⊢
  have b0 := Lib.cell_of_heap BX.out 0
  have b1 := Lib.cell_of_heap BX.out 1
  have b2 := Lib.cell_of_heap BX.out 2
  have b3 := Lib.cell_of_heap BX.out 3
  have b4 := Lib.cell_of_heap BX.out 4
  have b5 := Lib.cell_of_heap BX.out 5
  have b6 := Lib.cell_of_heap BX.out 6
  have b7 := Lib.cell_of_heap BX.out 7
  have b8 := Lib.cell_of_heap BX.out 8
  simp at b0 b1 b2 b3 b4 b5 b6 b7 b8
  cases st
  case true =>
    have e3 : R = 3 := by rw [← ER.out]; rfl
    subst e3
    clear ER
    go_wp2
    go_ret
    exact ⟨rfl, BW.out⟩
  simp only [Bool.false_eq_true, if_false] at ER
  go_wp2
  go_loopw [3, 4] (fun bv iv z => OvR W1 x.acts bv iv z) (fun _ iv _ => n3 - (intOf iv).toNat)
  case atStart => exact ⟨0, true, by omega, rfl, rfl, rfl, Below.refl _ _⟩
  case round =>
    clear b0 b1 b2 b3 b4 b5 b6 b7 b8
    obtain ⟨i, b, hi, rfl, rfl, HO, HZ⟩ := hrel
    rw [EN.out] at hi
    have bz := hide (BX.out.stays HZ.out)
    have b0 := Lib.cell_of_heap bz.out 0
    have b1 := Lib.cell_of_heap bz.out 1
    have b2 := Lib.cell_of_heap bz.out 2
    have b3 := Lib.cell_of_heap bz.out 3
    have b4 := Lib.cell_of_heap bz.out 4
    have b5 := Lib.cell_of_heap bz.out 5
    have b6 := Lib.cell_of_heap bz.out 6
    have b7 := Lib.cell_of_heap bz.out 7
    have b8 := Lib.cell_of_heap bz.out 8
    simp at b0 b1 b2 b3 b4 b5 b6 b7 b8
    by_cases hlt : i < n3
    · have hlt' : (i : Int) < (n3 : Int) := by omega
      have hi0 : (0 : Int) ≤ (i : Int) := by omega
      have hix : i < x.acts.length := by rw [EN.out]; exact hlt
      have hwi : wrap64 ((i : Int) + 1) = (i : Int) + 1 := by unfold wrap64; omega
      obtain ⟨ao', cc, e5, hc⟩ := (H.out.stays BW.out).stays HZ.out
      injection e5 with e6 e7 e8
      subst e6
      obtain ⟨a, u0, u1, u2, u4, u5, u6, rfl, hab, d⟩ := hc i hix
      have HT := hide (over_take hix)
      obtain ⟨y, ey⟩ : ∃ y, x.acts[i] = y := ⟨_, rfl⟩
      rw [ey] at d HT
      have d11 := d.c11
      clear hc e7 e8 ey d
      rw [HO.out] at HT
      cases b
      · have HO2 : Hid (overB (x.acts.take (i + 1)) = false) := hide (by rw [HT.out]; rfl)
        go_wp2
        go_roundw
        case rel => exact ⟨i + 1, false, by rw [EN.out]; omega, by go_num, rfl, HO2, HZ⟩
        case measure => simp [intOf]; omega
      · obtain ⟨q, eq⟩ : ∃ q, y.over = q := ⟨_, rfl⟩
        rw [eq] at d11 HT
        clear eq
        have HO2 : Hid (overB (x.acts.take (i + 1)) = q) := hide (by rw [HT.out]; rfl)
        go_wp2
        go_roundw
        case rel => exact ⟨i + 1, q, by rw [EN.out]; omega, by go_num, rfl, HO2, HZ⟩
        case measure => simp [intOf]; omega
    · have hlt' : ¬ (i : Int) < (n3 : Int) := by omega
      have e9 : overB x.acts = b := by rw [← HO.out, List.take_of_length_le (by rw [EN.out]; omega)]
      rw [e9] at ER
      clear e9 HO
      have BZ := hide (BW.out.trans (HZ.out.mono BW.out.size))
      cases b
      case true =>
        have e3 : R = 1 := by rw [← ER.out]; rfl
        subst e3
        clear ER
        go_wp2
        go_ret
        exact ⟨rfl, BZ.out⟩
      simp only [Bool.false_eq_true, if_false] at ER
      go_wp2_with fail
      refine (unhide (CA _ BZ.out)).mono ?_
      rintro e w9 ⟨r, rfl, ho, hb9⟩
      have HB9 := hide (BZ.out.trans (hb9.mono BZ.out.size))
      obtain ⟨rp, rk, rfl⟩ := form_own ho.o0
      clear hb9
      obtain ⟨m, em⟩ : ∃ m, (ableE x).row.length = m := ⟨_, rfl⟩
      rw [em] at ER ⊢
      clear em ho
      cases m with
      | zero =>
        have e3 : R = 2 := by rw [← ER.out]; rfl
        subst e3
        clear ER
        go_wp2
        go_ret
        exact ⟨rfl, HB9.out⟩
      | succ m =>
        have e3 : R = 0 := by rw [← ER.out]; rfl
        subst e3
        clear ER
        have hne : ¬ ((m + 1 : Nat) : Int) = 0 := by omega
        go_wp2
        go_ret
        exact ⟨rfl, HB9.out⟩
set_option maxHeartbeats 1000000 in
theorem notOver_any (y : Ac) (u0 u1 u2 u4 u5 u6 : Value) (w : World) (h0 : SlV u0) (h1 : SlV u1) (h2 : SlV u2) (h4 : SlV u4) (h5 : SlV u5) (h6 : SlV u6) :
    Calls Try.prog 39 #[.agg #[u0, u1, u2, .int .i64 y.ofault, u4, u5, u6, .int .i64 y.ifault, .int .i64 y.monitor, .int .i64 y.entry, .bool y.ready, .bool y.over]] w fun e w' => e = .returned (.bool (notOver y)) ∧ Below w.heap.size w w' := by
  have HB : Hid (Below w.heap.size w (w.alloc (.cells #[u0, u1, u2, .int .i64 y.ofault, u4, u5, u6, .int .i64 y.ifault, .int .i64 y.monitor, .int .i64 y.entry, .bool y.ready, .bool y.over] 65))) := hide ((Below.refl _ _).alloc (Nat.le_refl _) _)
  obtain ⟨s0, m0, k0, rfl⟩ := h0
  obtain ⟨s1, m1, k1, rfl⟩ := h1
  obtain ⟨s2, m2, k2, rfl⟩ := h2
  obtain ⟨s4, m4, k4, rfl⟩ := h4
  obtain ⟨s5, m5, k5, rfl⟩ := h5
  obtain ⟨s6, m6, k6, rfl⟩ := h6
  go_enter Try.func39, Try.ntmps39
  go_wp2
  go_ret
  exact ⟨rfl, HB.out⟩

set_option maxRecDepth 100000 in
set_option maxHeartbeats 4000000 in
theorem indexAct_any (mv : Value) (ms : List Ac) (w : World) (hM : AcsAt w mv ms) (hl : ms.length ≤ 1048576) :
    Calls Try.prog 64 #[mv, .func (.func 39) #[] #[]] w fun e w' => e = .returned (.int .i64 (firstAt notOver ms)) ∧ Below w.heap.size w w' := by
  have HM := hide hM
  obtain ⟨mo, mc, rfl, _⟩ := hM
  obtain ⟨n, en⟩ : ∃ n, ms.length = n := ⟨_, rfl⟩
  have EN := hide en
  rw [en] at HM hl ⊢
  clear en
  go_enter Try.func64, Try.ntmps64
  go_wp2
  go_loopw [8] (fun iv wr => SchR w notOver ms iv wr) (fun iv _ => n - (intOf iv).toNat)
  case atStart => exact ⟨0, by omega, rfl, Below.refl _ _, NoneTo.zero _ _⟩
  case round =>
    obtain ⟨i, hi, rfl, HB2, HN⟩ := hrel
    rw [EN.out] at hi
    by_cases hlt : i < n
    · have hlt' : (i : Int) < (n : Int) := by omega
      have hi0 : (0 : Int) ≤ (i : Int) := by omega
      have hix : i < ms.length := by rw [EN.out]; exact hlt
      have hwi : wrap64 ((i : Int) + 1) = (i : Int) + 1 := by unfold wrap64; omega
      obtain ⟨ao', c', e1, hc1⟩ := HM.out.stays HB2.out
      injection e1 with e2 e3 e4
      subst e2
      obtain ⟨a, u0, u1, u2, u4, u5, u6, rfl, hpb, hx⟩ := hc1 i hix
      have sI : ∀ {v : Value} {l : List Int}, IntsAt wr v l → SlV v := fun h => by obtain ⟨_, _, e, _⟩ := h; exact ⟨_, _, _, e⟩
      have CM := hide (notOver_any ms[i] u0 u1 u2 u4 u5 u6 wr (sI hx.r0) hx.r1.sl (sI hx.r2) (sI hx.r4) hx.r5.sl (sI hx.r6))
      clear sI
      obtain ⟨d0, d1, d2, d3, d4, d5, d6, d7, d8, d9, d10, d11, ⟨s0, k0, rfl, _⟩, ⟨s1, k1, rfl, _⟩, ⟨s2, k2, rfl, _⟩, ⟨s4, k4, rfl, _⟩, ⟨s5, k5, rfl, _⟩, ⟨s6, k6, rfl, _⟩⟩ := hx
      have HH := hide (HN.out.hit hix)
      have HS := hide (HN.out.step (i := i))
      obtain ⟨y, ey⟩ : ∃ y, ms[i] = y := ⟨_, rfl⟩
      simp only [ey] at d0 d1 d2 d3 d4 d5 d6 d7 d8 d9 d10 d11 HH HS CM
      clear hc1 e3 e4 ey
      cases hq : notOver y with
      | true =>
        have HF := hide (HH.out hq)
        rw [hq] at CM
        clear hq HS HH
        go_wp2_with fail
        refine (unhide CM).mono ?_
        rintro e w1 ⟨rfl, hb1⟩
        have HB3 := hide (HB2.out.trans (hb1.mono HB2.out.size))
        clear hb1 d0 d1 d2 d3 d4 d5 d6 d7 d8 d9 d10 d11
        go_wp2
        go_ret
        exact ⟨by rw [HF.out]; rfl, HB3.out⟩
      | false =>
        have HS2 := hide (HS.out (fun _ => hq))
        rw [hq] at CM
        clear hq HS HH
        go_wp2_with fail
        refine (unhide CM).mono ?_
        rintro e w1 ⟨rfl, hb1⟩
        have HB3 := hide (HB2.out.trans (hb1.mono HB2.out.size))
        clear hb1 d0 d1 d2 d3 d4 d5 d6 d7 d8 d9 d10 d11
        go_wp2
        go_roundw
        case rel => exact ⟨i + 1, by rw [EN.out]; omega, by go_num, HB3.out, HS2.out⟩
        case measure => simp [intOf]; omega
    · have hlt' : ¬ (i : Int) < (n : Int) := by omega
      have HF := hide (HN.out.none (by rw [EN.out]; omega))
      go_wp2
      go_ret
      exact ⟨by rw [HF.out]; rfl, HB2.out⟩

set_option maxHeartbeats 1000000 in
theorem containsAct_any (mv : Value) (ms : List Ac) (w : World) (hM : AcsAt w mv ms) (hl : ms.length ≤ 1048576) :
    Calls Try.prog 38 #[mv, .func (.func 39) #[] #[]] w fun e w' => e = .returned (.bool (!overB ms)) ∧ Below w.heap.size w w' := by
  have CI := hide (indexAct_any mv ms w hM hl)
  obtain ⟨mo, mc, rfl, _⟩ := hM
  obtain ⟨f, ef⟩ : ∃ f, firstAt notOver ms = f := ⟨_, rfl⟩
  obtain ⟨b, eb⟩ : ∃ b, overB ms = b := ⟨_, rfl⟩
  obtain ⟨n, en⟩ : ∃ n, ms.length = n := ⟨_, rfl⟩
  rw [ef, en] at CI
  rw [eb, en]
  cases b
  · have h0 : 0 ≤ f := by rw [← ef]; exact first_notOver eb
    clear ef eb en hl
    go_enter Try.func38, Try.ntmps38
    go_wp2_with fail
    refine (unhide CI).mono ?_
    rintro e w1 ⟨rfl, hb1⟩
    have HB := hide hb1
    clear hb1
    go_wp2
    go_ret
    exact ⟨rfl, HB.out⟩
  · have h0 : f = -1 := by rw [← ef]; exact first_over eb
    subst h0
    clear ef eb en hl
    go_enter Try.func38, Try.ntmps38
    go_wp2_with fail
    refine (unhide CI).mono ?_
    rintro e w1 ⟨rfl, hb1⟩
    have HB := hide hb1
    clear hb1
    go_wp2
    go_ret
    exact ⟨rfl, HB.out⟩

set_option maxRecDepth 100000 in
set_option maxHeartbeats 4000000 in
theorem implVerdictOf_any (v0 v1 v2 v3 v4 v5 v6 v7 : Value) (x : Md) (w : World) (h : MdAt w v0 v1 v2 v3 v4 v5 v6 v7 x) (hl : x.acts.length ≤ 1048576) :
    Calls Try.prog 15 #[.agg #[v0, v1, v2, v3, v4, v5, v6, v7, .bool x.stopped]] w fun e w' => e = .returned (.int .i64 (verdictE x)) ∧ Below w.heap.size w w' := by
  have CA := fun z (hb : Below w.heap.size w z) => hide (implAble_any v0 v1 v2 v3 v4 v5 v6 v7 x z (h.stays hb) hl)
  obtain ⟨h0, h1, h2, h3, h4, h5, h6, h7⟩ := h
  have H := hide h3
  obtain ⟨o0, c0, rfl, _⟩ := h0
  obtain ⟨o1, c1, rfl, _⟩ := h1
  obtain ⟨o2, c2, rfl, _⟩ := h2
  obtain ⟨o3, c3, rfl, _⟩ := h3
  obtain ⟨o4, c4, rfl, _⟩ := h4
  obtain ⟨o5, c5, rfl, _⟩ := h5
  obtain ⟨o6, c6, rfl, _⟩ := h6
  obtain ⟨o7, c7, rfl, _⟩ := h7
  obtain ⟨n0, en0⟩ : ∃ n, x.prog.nodes.length = n := ⟨_, rfl⟩
  obtain ⟨n1, en1⟩ : ∃ n, x.prog.mons.length = n := ⟨_, rfl⟩
  obtain ⟨n2, en2⟩ : ∃ n, x.prog.pros.length = n := ⟨_, rfl⟩
  obtain ⟨n3, en3⟩ : ∃ n, x.acts.length = n := ⟨_, rfl⟩
  obtain ⟨n4, en4⟩ : ∃ n, x.gates.length = n := ⟨_, rfl⟩
  obtain ⟨n5, en5⟩ : ∃ n, x.vars.length = n := ⟨_, rfl⟩
  obtain ⟨n6, en6⟩ : ∃ n, x.input.length = n := ⟨_, rfl⟩
  obtain ⟨n7, en7⟩ : ∃ n, x.events.length = n := ⟨_, rfl⟩
  have EN := hide en3
  simp only [en0, en1, en2, en3, en4, en5, en6, en7] at H hl CA ⊢
  clear en0 en1 en2 en3 en4 en5 en6 en7
  obtain ⟨st, est⟩ : ∃ st, x.stopped = st := ⟨_, rfl⟩
  have EST := hide est
  rw [est] at CA ⊢
  clear est
  obtain ⟨R, eR⟩ : ∃ R, verdictE x = R := ⟨_, rfl⟩
  have ER := hide eR
  rw [eR]
  clear eR
  unfold verdictE at ER
  rw [EST.out] at ER
  obtain ⟨W1, hW⟩ : ∃ W1, w.alloc (.cells #[.slice o0 n0 c0, .slice o1 n1 c1, .slice o2 n2 c2, .slice o3 n3 c3, .slice o4 n4 c4, .slice o5 n5 c5, .slice o6 n6 c6, .slice o7 n7 c7, .bool st] 46) = W1 := ⟨_, rfl⟩
  have BX : Hid (Box W1 w.heap.size #[.slice o0 n0 c0, .slice o1 n1 c1, .slice o2 n2 c2, .slice o3 n3 c3, .slice o4 n4 c4, .slice o5 n5 c5, .slice o6 n6 c6, .slice o7 n7 c7, .bool st] 46) := hide (hW ▸ Box.made w _ _)
  have BW : Hid (Below w.heap.size w W1) := hide (hW ▸ (Below.refl _ _).alloc (Nat.le_refl _) _)
  obtain ⟨g, eg⟩ : ∃ g, w.heap.size = g := ⟨_, rfl⟩
  have HW := hide hW
  have EG := hide eg
  clear hW eg
  go_enter Try.func15, Try.ntmps15
  go_upto_region 1 with fail
  rw [HW.out]
  clear HW
  rw [EG.out] at BX ⊢
  have b0 := Lib.cell_of_heap BX.out 0
  have b1 := Lib.cell_of_heap BX.out 1
  have b2 := Lib.cell_of_heap BX.out 2
  have b3 := Lib.cell_of_heap BX.out 3
  have b4 := Lib.cell_of_heap BX.out 4
  have b5 := Lib.cell_of_heap BX.out 5
  have b6 := Lib.cell_of_heap BX.out 6
  have b7 := Lib.cell_of_heap BX.out 7
  have b8 := Lib.cell_of_heap BX.out 8
  simp at b0 b1 b2 b3 b4 b5 b6 b7 b8
  cases st
  case true =>
    have e3 : R = 3 := by rw [← ER.out]; rfl
    subst e3
    clear ER
    go_wp2
    go_ret
    exact ⟨rfl, BW.out⟩
  simp only [Bool.false_eq_true, if_false] at ER
  have CC := hide (containsAct_any (.slice o3 n3 c3) x.acts W1 (H.out.stays BW.out) (by rw [EN.out]; exact hl))
  go_wp2_with fail
  refine (unhide CC).mono ?_
  rintro e z ⟨rfl, hbz⟩
  have BZ := hide (BW.out.trans (hbz.mono BW.out.size))
  have bz := hide (BX.out.stays hbz)
  clear hbz CC b0 b1 b2 b3 b4 b5 b6 b7 b8
  have b0 := Lib.cell_of_heap bz.out 0
  have b1 := Lib.cell_of_heap bz.out 1
  have b2 := Lib.cell_of_heap bz.out 2
  have b3 := Lib.cell_of_heap bz.out 3
  have b4 := Lib.cell_of_heap bz.out 4
  have b5 := Lib.cell_of_heap bz.out 5
  have b6 := Lib.cell_of_heap bz.out 6
  have b7 := Lib.cell_of_heap bz.out 7
  have b8 := Lib.cell_of_heap bz.out 8
  simp at b0 b1 b2 b3 b4 b5 b6 b7 b8
  obtain ⟨b, eb⟩ : ∃ b, overB x.acts = b := ⟨_, rfl⟩
  rw [eb] at ER ⊢
  clear eb
  cases b
  case true =>
    have e3 : R = 1 := by rw [← ER.out]; rfl
    subst e3
    clear ER
    go_wp2
    go_ret
    exact ⟨rfl, BZ.out⟩
  simp only [Bool.false_eq_true, if_false] at ER
  go_wp2_with fail
  refine (unhide (CA _ BZ.out)).mono ?_
  rintro e w9 ⟨r, rfl, ho, hb9⟩
  have HB9 := hide (BZ.out.trans (hb9.mono BZ.out.size))
  obtain ⟨rp, rk, rfl⟩ := form_own ho.o0
  clear hb9
  obtain ⟨m, em⟩ : ∃ m, (ableE x).row.length = m := ⟨_, rfl⟩
  rw [em] at ER ⊢
  clear em ho
  cases m with
  | zero =>
    have e3 : R = 2 := by rw [← ER.out]; rfl
    subst e3
    clear ER
    go_wp2
    go_ret
    exact ⟨rfl, HB9.out⟩
  | succ m =>
    have e3 : R = 0 := by rw [← ER.out]; rfl
    subst e3
    clear ER
    have hne : ¬ ((m + 1 : Nat) : Int) = 0 := by omega
    go_wp2
    go_ret
    exact ⟨rfl, HB9.out⟩
end Go.Proofs.Ytkoelibclihekaa
