/-
  Walks: whether an Env is right, by the program.
-/
import Derived.Test.YtmckcbgdkjbpfaaEvOf
import Derived.Test.YtmckcbgdkjbpfaaEnvK
import Derived.Test.YtmckcbgdkjbpfaaCurT
namespace Go.Proofs.Ytmckcbgdkjbpfaa
open Go.RowKit

set_option maxRecDepth 100000 in
set_option maxHeartbeats 8000000 in
theorem implEnvOk_any (v0 v1 : Value) (x : Ev) (b : Nat) (w : World) (h : EvC b w [v0, v1] x) (hl : EvLen x) (hs : ∀ y ∈ x.names, y.size ≤ 1048576) :
    Calls Try.prog 20 #[.agg #[v0, v1]] w fun e w' => e = .returned (.bool (envOkB x)) ∧ Below w.heap.size w w' := by
  have HAW := hide h.at
  have L0 := hl.l0
  have L1 := hl.l1
  have HS := hide hs
  have Z0 : Hid (EkZ w v0 v1 (w.alloc (.cells #[v0, v1] 27))) := ⟨Box.made _ _ _, (Below.refl _ _).alloc (Nat.le_refl _) _⟩
  have hroom : Room v0 := by
    obtain ⟨u0, u1, e, k0, _⟩ := h
    injection e with e1 _
    subst e1
    exact k0.room
  obtain ⟨o0, c0, rfl, _⟩ := h.at.a0
  obtain ⟨o1, c1, rfl, _⟩ := h.at.a1
  have hrm : x.names.length ≤ c0 := hroom
  clear h hl hs hroom
  obtain ⟨R, eR⟩ : ∃ R, envOkB x = R := ⟨_, rfl⟩
  have ER := hide eR
  rw [eR]
  clear eR
  obtain ⟨n, en⟩ : ∃ n, x.names.length = n := ⟨_, rfl⟩
  obtain ⟨m, em⟩ : ∃ m, x.vals.length = m := ⟨_, rfl⟩
  have EN := hide en
  have EM := hide em
  rw [en] at L0 HAW Z0 hrm ⊢
  rw [em] at L1 HAW Z0 ⊢
  clear en em
  obtain ⟨W, hW⟩ : ∃ W, w.alloc (.cells #[.slice o0 n c0, .slice o1 m c1] 27) = W := ⟨_, rfl⟩
  have HW := hide hW
  rw [hW] at Z0
  clear hW
  have q0 := Lib.cell_of_heap Z0.out.bx 0
  have q1 := Lib.cell_of_heap Z0.out.bx 1
  simp at q0 q1
  rw [← HW.out] at q0 q1
  by_cases hnm : n = m
  case neg =>
    have eR2 : R = false := by rw [← ER.out, envOkB, EN.out, EM.out, decide_eq_false hnm]; rfl
    subst eR2
    have hq : ((n : Int) == (m : Int)) = false := by simp; omega
    go_enter Try.func20, Try.ntmps20
    go_wp2
    go_ret
    exact ⟨rfl, by rw [HW.out]; exact Z0.out.bel⟩
  subst hnm
  by_cases hn8 : n ≤ 8
  case neg =>
    have eR2 : R = false := by rw [← ER.out, envOkB, EN.out, decide_eq_false hn8, Bool.and_false]; rfl
    subst eR2
    have hq : (8 : Int) < (n : Int) := by omega
    go_enter Try.func20, Try.ntmps20
    go_wp2
    go_ret
    exact ⟨rfl, by rw [HW.out]; exact Z0.out.bel⟩
  have hq8 : ¬ (8 : Int) < (n : Int) := by omega
  have HR : Hid (R = (List.range n).all (okAt x)) := by
    show _ = _
    rw [← ER.out, envOkB, EN.out, EM.out, decide_eq_true rfl, decide_eq_true hn8, Bool.true_and, Bool.true_and]
    rfl
  go_enter Try.func20, Try.ntmps20
  go_wp2
  rw [HW.out]
  clear q0 q1
  go_loopw [21] (fun iv wr => EkR w (.slice o0 n c0) (.slice o1 n c1) x iv wr) (fun iv _ => n - (intOf iv).toNat)
  case atStart => exact ⟨0, by omega, rfl, Z0.out, fun j hj => absurd hj (Nat.not_lt_zero _)⟩
  case round =>
    clear Z0
    obtain ⟨i, hi, rfl, Z, HK⟩ := hrel
    rw [EN.out] at hi
    by_cases hlt : i < n
    · have hlt' : (i : Int) < (n : Int) := by omega
      have hi0 : (0 : Int) ≤ (i : Int) := by omega
      have hrm' : (i : Int) ≤ (c0 : Int) := by omega
      have hin : i < x.names.length := by rw [EN.out]; exact hlt
      have him : i < x.vals.length := by rw [EM.out]; exact hlt
      have HA := hide (HAW.out.stays Z.out.bel)
      obtain ⟨ao', c', e1, hc1⟩ := HA.out.a0
      injection e1 with e2 e3 e4
      subst e2
      obtain ⟨a, rfl, hab, hx⟩ := hc1 i hin
      obtain ⟨bo', d', e1, hc2⟩ := HA.out.a1
      injection e1 with e2 e5 e6
      subst e2
      obtain ⟨b, rfl, hbb, hy⟩ := hc2 i him
      have hsy := HS.out _ (List.getElem_mem hin)
      have HOK : Hid (okAt x i = (nameB x.names[i] && vok x.vals[i] && !memB (x.names.take i) x.names[i])) := by
        show _ = _
        rw [okAt, List.getD_eq_getElem?_getD, List.getElem?_eq_getElem hin, List.getD_eq_getElem?_getD, List.getElem?_eq_getElem him]
        rfl
      have CL := fun z (hz : EkZ w (.slice (some a) n c0) (.slice (some b) n c1) z) s => hide (containsS_any (.slice (some a) i c0) (x.names.take i) s z (by
        have h9 := (HAW.out.stays hz.bel).a0
        rw [← EN.out] at h9
        exact h9.take (by omega)) (by rw [List.length_take]; omega))
      obtain ⟨y, ey⟩ : ∃ y, x.names[i] = y := ⟨_, rfl⟩
      obtain ⟨u, eu⟩ : ∃ u, x.vals[i] = u := ⟨_, rfl⟩
      rw [ey] at hx hsy HOK
      rw [eu] at hy HOK
      have CN := fun z => hide (implNameOk_any y z hsy)
      have CV := fun z => hide (implValOk u z)
      have CM := fun z hz => CL z hz y
      have HY := hide hy
      have HBB : Hid ((b.add i).block < wr.heap.size) := by show _ < _; rw [block_add]; exact hbb
      clear CL hc1 hc2 e3 e4 e5 e6 ey eu hab hbb hy
      obtain ⟨k1, ek1⟩ : ∃ k, nameB y = k := ⟨_, rfl⟩
      obtain ⟨k2, ek2⟩ : ∃ k, vok u = k := ⟨_, rfl⟩
      obtain ⟨k3, ek3⟩ : ∃ k, memB (x.names.take i) y = k := ⟨_, rfl⟩
      rw [ek1] at CN HOK
      rw [ek2] at CV HOK
      rw [ek3] at HOK
      have CM2 := fun z hz => CM z hz
      simp only [ek3] at CM2
      clear CM ek1 ek2 ek3
      have HBAD : Hid (okAt x i = false → R = false) := fun hq => by
        rw [HR.out, Bool.eq_false_iff]
        intro hall
        rw [List.all_eq_true.1 hall i (List.mem_range.2 hlt)] at hq
        cases hq
      cases k1 with
      | false =>
        have eR2 : R = false := HBAD.out HOK.out
        subst eR2
        go_wp2_with (go_at_call 49; refine (unhide (CN _)).mono ?_; rintro e z ⟨rfl, hb⟩; have Z1 := hide (Z.out.stays hb); clear hb)
        go_ret
        exact ⟨rfl, Z1.out.bel⟩
      | true =>
        cases k3 with
        | true =>
          have eR2 : R = false := HBAD.out (by rw [HOK.out, Bool.not_true, Bool.and_false])
          subst eR2
          go_wp2_with (first | (go_at_call 49; refine (unhide (CN _)).mono ?_; rintro e z ⟨rfl, hb⟩; have Z1 := hide (Z.out.stays hb); clear hb; have t0 := Lib.cell_of_heap Z1.out.bx 0; simp at t0) | (go_at_call 50; refine (unhide (CM2 _ Z1.out)).mono ?_; rintro e z9 ⟨rfl, rfl⟩))
          go_ret
          exact ⟨rfl, Z1.out.bel⟩
        | false =>
          cases k2 with
          | false =>
            have eR2 : R = false := HBAD.out HOK.out
            subst eR2
            go_wp2_with (first | (go_at_call 49; refine (unhide (CN _)).mono ?_; rintro e z ⟨rfl, hb⟩; have Z1 := hide (Z.out.stays hb); have hyz := (hb.cell HBB.out).trans HY.out; clear hb; have t0 := Lib.cell_of_heap Z1.out.bx 0; have t1 := Lib.cell_of_heap Z1.out.bx 1; simp at t0 t1) | (go_at_call 50; refine (unhide (CM2 _ Z1.out)).mono ?_; rintro e z9 ⟨rfl, rfl⟩) | (go_at_call 51; refine (unhide (CV _)).mono ?_; rintro e z9 ⟨rfl, rfl⟩))
            go_ret
            exact ⟨rfl, Z1.out.bel⟩
          | true =>
            go_wp2_with (first | (go_at_call 49; refine (unhide (CN _)).mono ?_; rintro e z ⟨rfl, hb⟩; have Z1 := hide (Z.out.stays hb); have hyz := (hb.cell HBB.out).trans HY.out; clear hb; have t0 := Lib.cell_of_heap Z1.out.bx 0; have t1 := Lib.cell_of_heap Z1.out.bx 1; simp at t0 t1) | (go_at_call 50; refine (unhide (CM2 _ Z1.out)).mono ?_; rintro e z9 ⟨rfl, rfl⟩) | (go_at_call 51; refine (unhide (CV _)).mono ?_; rintro e z9 ⟨rfl, rfl⟩))
            go_roundw
            case rel => exact ⟨i + 1, by rw [EN.out]; omega, by go_num, Z1.out, fun j hj => by
              by_cases e : j = i
              · subst e; exact HOK.out
              · exact HK.out j (by omega)⟩
            case measure => simp [intOf]; omega
    · have hlt' : ¬ (i : Int) < (n : Int) := by omega
      have eR2 : R = true := by
        rw [HR.out]
        exact List.all_eq_true.2 fun j hj => HK.out j (by have := List.mem_range.1 hj; omega)
      subst eR2
      go_wp2
      go_ret
      exact ⟨rfl, Z.out.bel⟩
end Go.Proofs.Ytmckcbgdkjbpfaa

namespace Go.Proofs.Ytmckcbgdkjbpfaa
open Go.RowKit

/-- What the loop over drawn numbers keeps. -/
def PlacesRel (w : World) (base : Nat) (v i : Value) (wr : World) : Prop :=
  ∃ (k : Nat) (xs : List Nat), k ≤ 12 ∧ i = .int .i64 k ∧ xs.length = k ∧ (∀ x ∈ xs, x < 10000) ∧ wr.ownsRow (w.heap.size + 1) 3 1 v k (xs.map fun (x : Nat) => Value.int .i64 (x : Int)) ∧ Below w.heap.size w wr ∧ Cur wr base w.heap.size

set_option maxHeartbeats 400000 in
theorem places_any (w : World) (base : Nat) (v : Value) (n : Nat) (hn : n ≤ 1048576) (H : CodeAt w base v n) (hb : base ≤ w.heap.size) :
    Calls Try.prog 14 #[v] w fun e w' => ∃ (pv : Value) (xs : List Nat), e = .returned pv ∧ xs.length = 12 ∧ (∀ x ∈ xs, x < 10000) ∧ w'.ownsRow (w.heap.size + 1) 3 1 pv 12 (xs.map fun (x : Nat) => Value.int .i64 (x : Int)) ∧ Below w.heap.size w w' := by
  have HH := hide H
  have NW := hide (new_any w base v n hn H hb)
  clear H
  go_enter Try.func14, Try.ntmps14
  go_wp2_with (first | (go_at_call 39; refine (NW.out).mono ?_; rintro e w1 ⟨rfl, hb1, hc1⟩) | (go_at_call 40; refine (byte_any _ base _ hc1).mono ?_; rintro e w2 ⟨x2, hx2, rfl, hf2, hc2⟩))
  have HB2 : Hid (Below w.heap.size w w2) := hb1.trans (hf2.below (Nat.le_refl _) hb1.size)
  have HC2 := hide hc2
  have hsz2 : w.heap.size + 1 ≤ w2.heap.size := hc2.lt
  clear hb1 hf2 hc1 hc2 NW
  go_loopw [4, 5] (fun v i wr => PlacesRel w base v i wr) (fun _ i _ => 12 - (intOf i).toNat)
  case atStart => exact ⟨0, [], Nat.zero_le _, rfl, rfl, fun x hx => by simp at hx, ownsRow_empty _ _ _ hsz2, HB2.out.trans ((Below.refl _ _).alloc HB2.out.size _), HC2.out.below ((Below.refl _ _).alloc hsz2 _)⟩
  case round =>
    obtain ⟨k, xs, hk, rfl, hxl, hxs, hown, hbel, hc⟩ := hrel
    have hsz := hbel.size
    have hgl := hc.lt
    by_cases hlt : k < 12
    · have HO := hide hown
      have HB := hide hbel
      have HX := hide hxs
      clear hown hbel hxs
      go_wp2_with (first | (go_at_call 41; refine (below_any _ base _ 10000 (by omega) hc).mono ?_; rintro e w3 ⟨x, hx, rfl, hf3, hc3⟩; have hown3 := ownsRow_far HO.out hf3 (Nat.lt_succ_self _); have hsz3 := hf3.size) | (at_builtin; refine wpList_app1 rfl (.tmp 15) (.tmp 18) 23 rfl (w.heap.size + 1) 3 (.int .i64 0) 8 Try.underlying23 Try.infoI rfl _ k _ _ rfl hown3 rfl rfl (by unfold maxLen; omega) (by omega) (by omega) ?_))
      intro v' w4 hown4 hb4
      have R : PlacesRel w base v' (.int .i64 ((k : Int) + 1)) w4 := ⟨k + 1, xs ++ [x], hlt, rfl, by simp [hxl], fun y hy => by
        rcases List.mem_append.1 hy with hy | hy
        · exact HX.out y hy
        · simp at hy; omega, by simpa using hown4, (HB.out.trans (hf3.below (Nat.le_refl _) hsz)).trans (hb4.mono (Nat.le_succ _)), hc3.below hb4⟩
      clear hown3 hown4 hb4 hf3
      go_wp2
      go_roundw
      case rel => exact R
      case measure => simp [intOf]; omega
    · obtain rfl : k = 12 := by omega
      have HO := hide hown
      clear hown
      go_wp2
      go_ret
      exact ⟨_, xs, rfl, hxl, hxs, HO.out, hbel⟩
end Go.Proofs.Ytmckcbgdkjbpfaa

namespace Go.Proofs.Ytmckcbgdkjbpfaa
open Go.RowKit

theorem big_any (w : World) (a : Option Addr) (n c : Nat) : Calls Try.prog 12 #[.slice a n c] w fun e w' => e = .returned (.bool (decide (1048576 < n))) ∧ w = w' := by
  by_cases h : 1048576 < n
  · have b : decide (1048576 < n) = true := decide_eq_true h
    rw [b]
    have b2 : decide ((1048576 : Int) < (n : Int)) = true := by rw [decide_eq_true_eq]; omega
    clear h
    go_enter Try.func12, Try.ntmps12
    go_wp2
    go_ret
    exact ⟨rfl, rfl⟩
  · have b : decide (1048576 < n) = false := decide_eq_false h
    rw [b]
    have b2 : decide ((1048576 : Int) < (n : Int)) = false := by rw [decide_eq_false_iff_not]; omega
    clear h
    go_enter Try.func12, Try.ntmps12
    go_wp2
    go_ret
    exact ⟨rfl, rfl⟩

theorem row12 {w : World} {base : Nat} {pv : Value} {xs : List Nat} (hl : xs.length = 12) (h : w.ownsRow base 3 1 pv 12 (xs.map fun (x : Nat) => Value.int .i64 (x : Int))) :
    ∃ (gp cap : Nat), pv = .slice (some ⟨gp, 0, none⟩) 12 cap ∧ gp < w.heap.size ∧ ∀ j (hj : j < xs.length), w.cell? ⟨gp, j, none⟩ = some (.int .i64 (xs[j] : Int)) := by
  have h0 := h
  rcases h.2 with ⟨_, h2⟩ | ⟨b, cap, cur, rfl, h2, h3, h4, h5, h6, h7⟩
  · omega
  · refine ⟨b, cap, rfl, (Array.getElem?_eq_some_iff.1 h3).1, fun j hj => ?_⟩
    have := h0.cellAt j (by omega)
    rw [List.getElem?_map, List.getElem?_eq_getElem hj] at this
    exact this
end Go.Proofs.Ytmckcbgdkjbpfaa
