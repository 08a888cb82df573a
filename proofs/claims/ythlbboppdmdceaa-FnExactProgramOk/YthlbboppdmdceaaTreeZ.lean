/-
  Walks: what kids a node wants, by the specification: kind by kind.
-/
import Derived.Test.YthlbboppdmdceaaTreeP
namespace Go.Proofs.Ythlbboppdmdceaa
open Go.RowKit

def StmtsR (W1 : World) (l : List Int) (m : Nat) (iv : Value) (wr : World) : Prop :=
  ∃ i : Nat, i ≤ m ∧ iv = .int .i64 i ∧ Hid (Below W1.heap.size W1 wr) ∧ Hid (∀ j x, j < i → l[j]? = some x → stmtQ x = true)
theorem all_no {α : Type} {q : α → Bool} {l : List α} {i : Nat} {x : α} (h : l[i]? = some x) (hq : q x = false) : l.all q = false := by
  have := all_drop_no (n := 0) h (Nat.zero_le _) hq
  simpa using this
theorem all_yes {α : Type} {q : α → Bool} {l : List α} (h : ∀ (j : Nat) (x : α), l[j]? = some x → q x = true) : l.all q = true := by
  have := all_drop_yes (l := l) (q := q) (n := 0) (fun j x _ => h j x)
  simpa using this

set_option maxRecDepth 100000 in
set_option maxHeartbeats 4000000 in
theorem l05Kids_any (nv mv pv : Value) (ns : List Nd) (k : Nat) (w : World) (hN : NdsAt w nv ns) (hk : k < ns.length) (hl : ns.length ≤ 1048576) (hkl : ns[k].kids.length ≤ 1048576) :
    Calls Try.prog 18 #[.agg #[nv, mv, pv], .int .i64 (k : Int)] w fun e w' => e = .returned (.bool (kidsB ns[k].kind (kinds ns k))) ∧ Below w.heap.size w w' := by
  have hb1 : Below w.heap.size w (w.alloc (.cells #[nv, mv, pv] 33)) := (Below.refl _ _).alloc (Nat.le_refl _) _
  have HN := hide (hN.stays hb1)
  have HX := hide (Boxed.made w nv mv pv 33)
  have HB := hide hb1
  obtain ⟨a, c, p, kv, rfl, hpa, hpb, hcell⟩ := HN.out.node k hk
  have d0 := hcell.c0
  have d5 := hcell.c5
  obtain ⟨bo, cb, rfl, _⟩ := hcell.kids
  have hi0 : (0 : Int) ≤ (k : Int) := by omega
  have hi1 : (k : Int) < (ns.length : Int) := by omega
  have CV := fun n hn w (h : NdsAt w (.slice (some a) ns.length c) ns) => hide (l05Values_any (.slice (some a) ns.length c) mv pv ns k n w h hk hn hl hkl)
  have CB := fun n hn w (h : NdsAt w (.slice (some a) ns.length c) ns) => hide (l05Blocks_any (.slice (some a) ns.length c) mv pv ns k n w h hk hn hl hkl)
  have CK := fun i hi w (h : NdsAt w (.slice (some a) ns.length c) ns) => hide (l05Kid_any (.slice (some a) ns.length c) mv pv ns k i w h hk hi hl)
  have HL := hide (kinds_len hk)
  have HK := fun i hi => hide (kinds_at? (i := i) hk hi)
  obtain ⟨l, el⟩ : ∃ l, kinds ns k = l := ⟨_, rfl⟩
  simp only [el] at CV CB HL HK ⊢
  obtain ⟨kd, ek⟩ : ∃ kd, ns[k].kind = kd := ⟨_, rfl⟩
  rw [ek] at d0 ⊢
  obtain ⟨m, em⟩ : ∃ m, ns[k].kids.length = m := ⟨_, rfl⟩
  rw [em] at d5 hkl
  have EM := hide em
  clear hN hb1 hcell el ek em hpb
  by_cases h0 : kd = 1 ∨ kd = 2 ∨ kd = 16 ∨ kd = 17 ∨ kd = 18 ∨ kd = 19
  · have HF : Hid (kidsB kd l = decide (m = 0)) := by show _ = _; rw [kidsB, if_pos h0, HL.out, EM.out]
    by_cases hm : m = 0
    · subst hm
      rcases h0 with rfl | rfl | rfl | rfl | rfl | rfl
      all_goals
        go_enter Try.func18, Try.ntmps18
        go_wp2
        go_ret
        exact ⟨by rw [HF.out]; rfl, HB.out⟩
    · have hm' : ¬ (m : Int) = 0 := by omega
      rcases h0 with rfl | rfl | rfl | rfl | rfl | rfl
      all_goals
        go_enter Try.func18, Try.ntmps18
        go_wp2
        go_ret
        exact ⟨by rw [HF.out]; simp [hm], HB.out⟩
  by_cases h3 : kd = 3
  · subst h3
    have HF : Hid (kidsB 3 l = (decide (m = 2) && (l.take 2).all valueQ)) := by show _ = _; rw [kidsB, if_neg h0, if_pos rfl, HL.out, EM.out]
    clear h0
    by_cases hm : m = 2
    · subst hm
      have C := CV 2 (by rw [EM.out]; omega)
      clear CV CB CK HK
      obtain ⟨b, eb⟩ : ∃ b, (l.take 2).all valueQ = b := ⟨_, rfl⟩
      simp only [eb] at C HF
      clear eb
      go_enter Try.func18, Try.ntmps18
      go_wp2_with (go_at_call 42; refine (unhide (C _ HN.out)).mono ?_; rintro e w2 ⟨rfl, hb2⟩)
      go_ret
      exact ⟨by rw [HF.out]; rfl, HB.out.trans (hb2.mono HB.out.size)⟩
    · have hm' : ¬ (m : Int) = 2 := by omega
      clear CV CB CK HK
      go_enter Try.func18, Try.ntmps18
      go_wp2
      go_ret
      exact ⟨by rw [HF.out]; simp [hm], HB.out⟩
  by_cases h4 : kd = 4 ∨ kd = 5 ∨ kd = 11 ∨ kd = 14 ∨ kd = 15
  · have HF : Hid (kidsB kd l = (decide (m = 1) && (l.take 1).all valueQ)) := by show _ = _; rw [kidsB, if_neg h0, if_neg h3, if_pos h4, HL.out, EM.out]
    clear h0 h3
    by_cases hm : m = 1
    · subst hm
      have C := CV 1 (by rw [EM.out]; omega)
      clear CV CB CK HK
      obtain ⟨b, eb⟩ : ∃ b, (l.take 1).all valueQ = b := ⟨_, rfl⟩
      simp only [eb] at C HF
      clear eb
      rcases h4 with rfl | rfl | rfl | rfl | rfl
      all_goals
        go_enter Try.func18, Try.ntmps18
        go_wp2_with (go_at_call 42; refine (unhide (C _ HN.out)).mono ?_; rintro e w2 ⟨rfl, hb2⟩)
        go_ret
        exact ⟨by rw [HF.out]; rfl, HB.out.trans (hb2.mono HB.out.size)⟩
    · have hm' : ¬ (m : Int) = 1 := by omega
      clear CV CB CK HK
      rcases h4 with rfl | rfl | rfl | rfl | rfl
      all_goals
        go_enter Try.func18, Try.ntmps18
        go_wp2
        go_ret
        exact ⟨by rw [HF.out]; simp [hm], HB.out⟩
  by_cases h12 : kd = 12
  · subst h12
    have HF : Hid (kidsB 12 l = (decide (m = 2 ∨ m = 3) && (l.take 1).all valueQ && (l.drop 1).all blockQ)) := by show _ = _; rw [kidsB, if_neg h0, if_neg h3, if_neg h4, if_pos rfl, HL.out, EM.out]
    clear h0 h3 h4
    by_cases hm : m = 2 ∨ m = 3
    · have C1 := CV 1 (by rw [EM.out]; omega)
      have C2 := CB 1 (by rw [EM.out]; omega)
      clear CV CB CK HK
      obtain ⟨b1, eb1⟩ : ∃ b, (l.take 1).all valueQ = b := ⟨_, rfl⟩
      obtain ⟨b2, eb2⟩ : ∃ b, (l.drop 1).all blockQ = b := ⟨_, rfl⟩
      simp only [eb1, eb2] at C1 C2 HF
      clear eb1 eb2
      rcases hm with rfl | rfl
      all_goals
        cases b1
        all_goals
          go_enter Try.func18, Try.ntmps18
          go_wp2_with (first | (go_at_call 42; refine (unhide (C1 _ HN.out)).mono ?_; rintro e w2 ⟨rfl, hb2⟩; obtain ⟨g0, g1, g2, _⟩ := HX.out.stays hb2) | (go_at_call 43; refine (unhide (C2 _ (HN.out.stays hb2))).mono ?_; rintro e w3 ⟨rfl, hb3⟩))
          go_ret
          first
          | exact ⟨by rw [HF.out]; rfl, HB.out.trans ((hb2.trans (hb3.mono hb2.size)).mono HB.out.size)⟩
          | exact ⟨by rw [HF.out]; rfl, HB.out.trans (hb2.mono HB.out.size)⟩
    · have hm2 : ¬ (m : Int) = 2 := by omega
      have hm3 : ¬ (m : Int) = 3 := by omega
      clear CV CB CK HK
      go_enter Try.func18, Try.ntmps18
      go_wp2
      go_ret
      exact ⟨by rw [HF.out]; simp [hm], HB.out⟩
  by_cases h13 : kd = 13
  · subst h13
    have HF : Hid (kidsB 13 l = (decide (m = 2) && (l.take 1).all valueQ && (l.drop 1).all blockQ)) := by show _ = _; rw [kidsB, if_neg h0, if_neg h3, if_neg h4, if_neg h12, if_pos rfl, HL.out, EM.out]
    clear h0 h3 h4 h12
    by_cases hm : m = 2
    · have C1 := CV 1 (by rw [EM.out]; omega)
      have C2 := CB 1 (by rw [EM.out]; omega)
      clear CV CB CK HK
      obtain ⟨b1, eb1⟩ : ∃ b, (l.take 1).all valueQ = b := ⟨_, rfl⟩
      obtain ⟨b2, eb2⟩ : ∃ b, (l.drop 1).all blockQ = b := ⟨_, rfl⟩
      simp only [eb1, eb2] at C1 C2 HF
      clear eb1 eb2
      subst hm
      cases b1
      all_goals
        go_enter Try.func18, Try.ntmps18
        go_wp2_with (first | (go_at_call 42; refine (unhide (C1 _ HN.out)).mono ?_; rintro e w2 ⟨rfl, hb2⟩; obtain ⟨g0, g1, g2, _⟩ := HX.out.stays hb2) | (go_at_call 43; refine (unhide (C2 _ (HN.out.stays hb2))).mono ?_; rintro e w3 ⟨rfl, hb3⟩))
        go_ret
        first
        | exact ⟨by rw [HF.out]; rfl, HB.out.trans ((hb2.trans (hb3.mono hb2.size)).mono HB.out.size)⟩
        | exact ⟨by rw [HF.out]; rfl, HB.out.trans (hb2.mono HB.out.size)⟩
    · have hm2 : ¬ (m : Int) = 2 := by omega
      clear CV CB CK HK
      go_enter Try.func18, Try.ntmps18
      go_wp2
      go_ret
      exact ⟨by rw [HF.out]; simp [hm], HB.out⟩
  have HF : Hid (kidsB kd l = (l.all stmtQ && inZ 1 12 m)) := by show _ = _; rw [kidsB, if_neg h0, if_neg h3, if_neg h4, if_neg h12, if_neg h13, HL.out, EM.out]
  simp only [not_or] at h0 h4
  obtain ⟨n1, n2, n16, n17, n18, n19⟩ := h0
  obtain ⟨n4, n5, n11, n14, n15⟩ := h4
  clear CV CB
  go_enter Try.func18, Try.ntmps18
  go_wp2
  obtain ⟨W1, hW⟩ : ∃ W1, w.alloc (.cells #[.slice (some a) ns.length c, mv, pv] 33) = W1 := ⟨_, rfl⟩
  rw [hW] at HN HX HB ⊢
  have eb : ∀ y : Int, ¬ kd = y → (kd == y) = false := fun y h => by simp [h]
  simp only [eb _ n1, eb _ n2, eb _ n16, eb _ n17, eb _ n18, eb _ n19, eb _ n4, eb _ n5, eb _ n11, eb _ n14, eb _ n15, eb _ h3, eb _ h12, eb _ h13]
  clear eb
  clear d0 d5 hW n1 n2 n16 n17 n18 n19 n4 n5 n11 n14 n15 h3 h12 h13
  go_loopw [6] (StmtsR W1 l m) (fun iv _ => m - (intOf iv).toNat)
  case atStart => exact ⟨0, by omega, rfl, Below.refl _ _, fun j x hj => absurd hj (Nat.not_lt_zero j)⟩
  case round =>
    obtain ⟨i, hi, rfl, HB2, HA⟩ := hrel
    obtain ⟨c0, c1, c2, _⟩ := HX.out.stays HB2.out
    by_cases hlt : i < m
    · have hlt' : (i : Int) < (m : Int) := by omega
      have hik : i < ns[k].kids.length := by rw [EM.out]; exact hlt
      have C1 := CK i hik
      have C2 := fun x w => hide (l05Statement_any x w)
      have hx := HK i hik
      obtain ⟨x, ex⟩ : ∃ x, x = kidKind ns k ns[k].kids[i] := ⟨_, rfl⟩
      rw [← ex] at hx
      simp only [← ex] at C1
      clear ex CK HK
      have HN2 := hide (HN.out.stays HB2.out)
      cases hv : stmtQ x with
      | true =>
        have C2 := C2 x
        rw [hv] at C2
        go_wp2_with (first | (go_at_call 44; refine (unhide (C1 _ HN2.out)).mono ?_; rintro e w2 ⟨rfl, hb2⟩; have HB3 := hide hb2; clear hb2) | (go_at_call 17; refine (unhide (C2 _)).mono ?_; rintro e w3 ⟨rfl, rfl⟩))
        go_roundw
        case rel => exact ⟨i + 1, by omega, by go_num, HB2.out.trans (HB3.out.mono HB2.out.size), fun j y hj hy => by
          rcases Nat.lt_succ_iff_lt_or_eq.1 hj with hj | hj
          · exact HA.out j y hj hy
          · subst hj; rw [hx.out] at hy; cases hy; exact hv⟩
        case measure => simp [intOf]; omega
      | false =>
        have C2 := C2 x
        rw [hv] at C2
        go_wp2_with (first | (go_at_call 44; refine (unhide (C1 _ HN2.out)).mono ?_; rintro e w2 ⟨rfl, hb2⟩; have HB3 := hide hb2; clear hb2) | (go_at_call 17; refine (unhide (C2 _)).mono ?_; rintro e w3 ⟨rfl, rfl⟩))
        go_ret
        exact ⟨by rw [HF.out, all_no hx.out hv]; rfl, HB.out.trans ((HB2.out.trans (HB3.out.mono HB2.out.size)).mono HB.out.size)⟩
    · have hlt' : ¬ (i : Int) < (m : Int) := by omega
      have HA2 : Hid (l.all stmtQ = true) := all_yes (fun j x hx => HA.out j x (by have := (List.getElem?_eq_some_iff.1 hx).1; rw [HL.out, EM.out] at this; omega) hx)
      have C := fun w => hide (l01In_gen (m : Int) 1 12 w)
      go_wp2_with (go_at_call 15; refine (unhide (C _)).mono ?_; rintro e w3 ⟨rfl, rfl⟩)
      go_ret
      exact ⟨by rw [HF.out, HA2.out]; rfl, HB.out.trans (HB2.out.mono HB.out.size)⟩
end Go.Proofs.Ythlbboppdmdceaa
