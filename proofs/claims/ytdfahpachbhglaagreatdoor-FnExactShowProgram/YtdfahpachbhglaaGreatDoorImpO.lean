/-
  Walks: a right node, by the program, at every place.
-/
import Derived.Test.YtdfahpachbhglaaGreatDoorPureN
import Derived.Test.YtdfahpachbhglaaGreatDoorImpL
import Derived.Test.YtdfahpachbhglaaGreatDoorImpM
import Derived.Test.YtdfahpachbhglaaGreatDoorImpN
import Derived.Test.YtdfahpachbhglaaGreatDoorAidCard
import Derived.Test.YtdfahpachbhglaaGreatDoorTreeW
import Derived.Test.YtdfahpachbhglaaGreatDoorNameW
namespace Go.Proofs.YtdfahpachbhglaaGreatDoor
open Go.RowKit

set_option maxRecDepth 100000 in
set_option maxHeartbeats 4000000 in
theorem nodeOk_none (nv mv pv : Value) (ns : List Nd) (k : Nat) (w : World) (hN : NdsAt w nv ns) (hR : NdsRoom w nv ns.length) (hk : k < ns.length) (kd nu : Int) (nm mo it : ByteArray) (ks : List Int) (hx : ns[k] = ⟨kd, nu, nm, mo, it, ks⟩) (hT : ∀ kv, typedV kd nu nm mo it kv ks = .nilIface) :
    Calls Tryz.prog 58 #[.agg #[nv, mv, pv], .int .i64 (k : Int)] w fun e w' => e = .returned (.bool false) ∧ Below w.heap.size w w' := by
  have hb1 : Below w.heap.size w (w.alloc (.cells #[nv, mv, pv] 34)) := (Below.refl _ _).alloc (Nat.le_refl _) _
  have CH := fun w h => hide (has_any nv mv pv ns (k : Int) w h)
  have e1 : inZ 0 ((ns.length : Int) - 1) (k : Int) = true := inZ_yes.2 (by omega)
  rw [e1] at CH
  have HN := hide (hN.stays hb1)
  have HR := hide (hR.stays hb1)
  have HP : Hid (Box (w.alloc (.cells #[nv, mv, pv] 34)) w.heap.size #[nv, mv, pv] 34) := Box.made w _ _
  have HB := hide hb1
  have HX := hide hx
  clear hb1 e1 hR hx
  obtain ⟨ao, c, rfl, _⟩ := hN
  have hi0 : (0 : Int) ≤ (k : Int) := by omega
  have hi1 : (k : Int) < (ns.length : Int) := by omega
  go_enter Tryz.func58, Tryz.ntmps58
  go_wp2_with fail
  refine (unhide (CH _ HN.out)).mono ?_
  rintro e w1 ⟨rfl, hb2⟩
  have HB1 := hide (HB.out.trans (hb2.mono HB.out.size))
  have HN1 := hide (HN.out.stays hb2)
  have HR1 := hide (HR.out.stays hb2)
  have HP1 := hide (HP.out.stays hb2)
  have c0 := Lib.cell_of_heap HP1.out 0
  have c1 := Lib.cell_of_heap HP1.out 1
  have c2 := Lib.cell_of_heap HP1.out 2
  clear HB HN HR HP CH
  simp at c0 c1 c2
  obtain ⟨a', c', p, kv, e5, hpa, hpb, hnode⟩ := HN1.out.node k hk
  injection e5 with e6 e7 e8
  subst e6
  have hrm : Room kv := by
    obtain ⟨ao2, c2, e2, _, h2⟩ := HR1.out
    injection e2 with e3 e4 e5
    obtain ⟨a2, kv2, e6, _, h3, h4⟩ := h2 k hk
    rw [← e3] at e6
    cases e6
    rw [hpa, hnode.c5] at h3
    cases h3
    exact h4
  rw [HX.out] at hnode
  obtain ⟨d0, d1, d2, d3, d4, d5, hkids⟩ := hnode
  dsimp only at d0 d1 d2 d3 d4 d5 hkids
  have HKI := hide hkids
  obtain ⟨ko, kc, rfl, _⟩ := hkids
  have HRM := hide hrm
  clear e7 e8 hb2 hrm
  go_wp2_with fail
  have HNB : Hid (NB w (.slice (some a') ns.length c) mv pv ns w1.heap.size ⟨kd, nu, nm, mo, it, ks⟩ (.slice ko ks.length kc) (w1.alloc (.cells #[.int .i64 kd, .int .i64 nu, .string nm, .string mo, .string it, .slice ko ks.length kc] 78))) := by
    have hb : Below w1.heap.size w1 (w1.alloc (.cells #[.int .i64 kd, .int .i64 nu, .string nm, .string mo, .string it, .slice ko ks.length kc] 78)) := (Below.refl _ _).alloc (Nat.le_refl _) _
    exact ⟨HP1.out.stays hb, Box.made _ _ _, HB1.out.trans (hb.mono HB1.out.size), HN1.out.stays hb, HKI.out.stays hb⟩
  refine (typed_any kd nu nm mo it (.slice ko ks.length kc) ks _ HNB.out.kids).mono ?_
  rintro e w2 ⟨rfl, hb2⟩
  have HNB2 := hide (HNB.out.stays hb2)
  clear HNB
  clear hb2 c0 c1 c2 d0 d1 d2 d3 d4 d5 HN1 HR1 HP1 HB1 HKI
  rw [hT]
  clear hT
  go_wp2_with fail
  go_quiet (fail)
  all_goals go_wp2
  all_goals go_ret
  all_goals exact ⟨rfl, below_drewN HNB2.out.bel _⟩

set_option maxHeartbeats 1000000 in
theorem implNodeOk_any (nv mv pv : Value) (ns : List Nd) (k : Int) (w : World) (hN : NdsAt w nv ns) (hR : NdsRoom w nv ns.length) (hl : ns.length ≤ 1048576) (hin : NsIn ns) :
    Calls Tryz.prog 58 #[.agg #[nv, mv, pv], .int .i64 k] w fun e w' => e = .returned (.bool (nodeAt ns k)) ∧ Below w.heap.size w w' := by
  cases h : inZ 0 ((ns.length : Int) - 1) k with
  | true =>
    obtain ⟨q0, q1⟩ := inZ_yes.1 h
    obtain ⟨j, rfl⟩ : ∃ j : Nat, k = (j : Int) := ⟨k.toNat, by omega⟩
    have hj : j < ns.length := by omega
    have hi := hin _ (List.getElem_mem hj)
    have e : nodeAt ns (j : Int) = nodeB ns[j] (kinds ns j) := by
      rw [nodeAt, h, Int.toNat_natCast, getD_at hj]
      rfl
    rw [e]
    obtain ⟨x, hx⟩ : ∃ x, ns[j] = x := ⟨_, rfl⟩
    rw [hx] at hi ⊢
    obtain ⟨kd, nu, nm, mo, it, ks⟩ := x
    obtain ⟨i1, i2, i3, i4⟩ := hi
    dsimp only at i1 i2 i3 i4
    by_cases h1 : kd = 1
    · subst h1
      rw [← pure_num hj hx]
      exact nodeOk_num nv mv pv ns j w hN hR hj hl nu nm mo it ks i1 i2 i3 i4 hx
    by_cases h2 : kd = 2
    · subst h2
      rw [← pure_var hj hx]
      exact nodeOk_var nv mv pv ns j w hN hR hj hl nu nm mo it ks i1 i2 i3 i4 hx
    by_cases h3 : kd = 3
    · subst h3
      rw [← pure_calc hj hx]
      exact nodeOk_calc nv mv pv ns j w hN hR hj hl nu nm mo it ks i1 i2 i3 i4 hx
    by_cases h4 : kd = 4
    · subst h4
      rw [← pure_not hj hx]
      exact nodeOk_not nv mv pv ns j w hN hR hj hl nu nm mo it ks i1 i2 i3 i4 hx
    by_cases h5 : kd = 5
    · subst h5
      rw [← pure_neg hj hx]
      exact nodeOk_neg nv mv pv ns j w hN hR hj hl nu nm mo it ks i1 i2 i3 i4 hx
    by_cases h11 : kd = 11
    · subst h11
      rw [← pure_set hj hx]
      exact nodeOk_set nv mv pv ns j w hN hR hj hl nu nm mo it ks i1 i2 i3 i4 hx
    by_cases h12 : kd = 12
    · subst h12
      rw [← pure_if hj hx]
      exact nodeOk_if nv mv pv ns j w hN hR hj hl nu nm mo it ks i1 i2 i3 i4 hx
    by_cases h13 : kd = 13
    · subst h13
      rw [← pure_while hj hx]
      exact nodeOk_while nv mv pv ns j w hN hR hj hl nu nm mo it ks i1 i2 i3 i4 hx
    by_cases h14 : kd = 14
    · subst h14
      rw [← pure_call hj hx]
      exact nodeOk_call nv mv pv ns j w hN hR hj hl nu nm mo it ks i1 i2 i3 i4 hx
    by_cases h15 : kd = 15
    · subst h15
      rw [← pure_print hj hx]
      exact nodeOk_print nv mv pv ns j w hN hR hj hl nu nm mo it ks i1 i2 i3 i4 hx
    by_cases h16 : kd = 16
    · subst h16
      rw [← pure_read hj hx]
      exact nodeOk_read nv mv pv ns j w hN hR hj hl nu nm mo it ks i1 i2 i3 i4 hx
    by_cases h17 : kd = 17
    · subst h17
      rw [← pure_delay hj hx]
      exact nodeOk_delay nv mv pv ns j w hN hR hj hl nu nm mo it ks i1 i2 i3 i4 hx
    by_cases h18 : kd = 18
    · subst h18
      rw [← pure_cont hj hx]
      exact nodeOk_cont nv mv pv ns j w hN hR hj hl nu nm mo it ks i1 i2 i3 i4 hx
    by_cases h19 : kd = 19
    · subst h19
      rw [← pure_skip hj hx]
      exact nodeOk_skip nv mv pv ns j w hN hR hj hl nu nm mo it ks i1 i2 i3 i4 hx
    by_cases h20 : kd = 20
    · subst h20
      rw [← pure_block hj hx]
      exact nodeOk_block nv mv pv ns j w hN hR hj hl nu nm mo it ks i1 i2 i3 i4 hx
    have e1 : valueQ kd = false := by rw [valueQ, inZ_no]; omega
    have e2 : stmtQ kd = false := by rw [stmtQ, inZ_no]; omega
    have e3 : nodeB ⟨kd, nu, nm, mo, it, ks⟩ (kinds ns j) = false := by simp [nodeB, e1, e2, h20]
    rw [e3]
    refine nodeOk_none nv mv pv ns j w hN hR hj kd nu nm mo it ks hx fun kv => ?_
    simp only [typedV, if_neg h1, if_neg h2, if_neg h3, if_neg h4, if_neg h5, if_neg h11, if_neg h12, if_neg h13, if_neg h14, if_neg h15, if_neg h16, if_neg h17, if_neg h18, if_neg h19, if_neg h20]
  | false =>
    have HF : Hid (nodeAt ns k = false) := by show _ = _; rw [nodeAt, h]; rfl
    have hb1 : Below w.heap.size w (w.alloc (.cells #[nv, mv, pv] 34)) := (Below.refl _ _).alloc (Nat.le_refl _) _
    have CH := fun w h => hide (has_any nv mv pv ns k w h)
    rw [h] at CH
    have HN := hide (hN.stays hb1)
    have HB := hide hb1
    clear h hin hb1 hR
    obtain ⟨ao, c, rfl, _⟩ := hN
    go_enter Tryz.func58, Tryz.ntmps58
    go_wp2_with (go_at_call 79; refine (unhide (CH _ HN.out)).mono ?_; rintro e w1 ⟨rfl, hb2⟩; have HB := hide (HB.out.trans (hb2.mono HB.out.size)); clear hb2)
    go_ret
    exact ⟨by rw [HF.out]; rfl, HB.out⟩
end Go.Proofs.YtdfahpachbhglaaGreatDoor

namespace Go.Proofs.YtdfahpachbhglaaGreatDoor
open Go.RowKit

def namesB (xs : List ByteArray) (most : Int) : Bool := xs.all nameB && decide ((xs.length : Int) ≤ most)
def NamesR (W : World) (xs : List ByteArray) (iv : Value) (wr : World) : Prop :=
  ∃ i : Nat, i ≤ xs.length ∧ iv = .int .i64 i ∧ Hid (Below W.heap.size W wr) ∧ Hid (∀ j x, j < i → xs[j]? = some x → nameB x = true)

set_option maxHeartbeats 1000000 in
theorem l05Names_any (v : Value) (xs : List ByteArray) (most : Int) (w : World) (hX : StrsAt w v xs) (hl : xs.length ≤ 1048576) (hs : ∀ x ∈ xs, x.size ≤ 1048576) :
    Calls Tryz.prog 52 #[v, .int .i64 most] w fun e w' => e = .returned (.bool (namesB xs most)) ∧ Below w.heap.size w w' := by
  have HX := hide hX
  obtain ⟨ao, c, rfl, _⟩ := hX
  obtain ⟨n, en⟩ : ∃ n, xs.length = n := ⟨_, rfl⟩
  have EN := hide en
  rw [en] at HX hl ⊢
  go_enter Tryz.func52, Tryz.ntmps52
  go_wp2
  go_loopw [5] (NamesR w xs) (fun iv _ => n - (intOf iv).toNat)
  case atStart => exact ⟨0, by omega, rfl, Below.refl _ _, fun j x hj => absurd hj (Nat.not_lt_zero j)⟩
  case round =>
    obtain ⟨i, hi, rfl, HB2, HA⟩ := hrel
    rw [en] at hi
    by_cases hlt : i < n
    · have hlt' : (i : Int) < (n : Int) := by omega
      have hi0 : (0 : Int) ≤ (i : Int) := by omega
      obtain ⟨ao', c', e5, hc⟩ := HX.out.stays HB2.out
      injection e5 with e6 e7 e8
      subst e6
      have hix : i < xs.length := by omega
      obtain ⟨a, rfl, _, hx⟩ := hc i hix
      have C := fun w => hide (specNameOk_any xs[i] w (hs _ (List.getElem_mem hix)))
      have EX : Hid (xs[i]? = some xs[i]) := List.getElem?_eq_getElem hix
      obtain ⟨x, ex⟩ : ∃ x, xs[i] = x := ⟨_, rfl⟩
      rw [ex] at hx EX
      simp only [ex] at C
      clear ex hc e7 e8 en
      cases hv : nameB x with
      | true =>
        rw [hv] at C
        go_wp2_with (go_at_call 51; refine (unhide (C _)).mono ?_; rintro e w2 ⟨rfl, hb2⟩; have HB3 := hide hb2; clear hb2)
        go_roundw
        case rel => exact ⟨i + 1, by rw [EN.out]; omega, by go_num, HB2.out.trans (HB3.out.mono HB2.out.size), fun j y hj hy => by
          rcases Nat.lt_succ_iff_lt_or_eq.1 hj with hj | hj
          · exact HA.out j y hj hy
          · subst hj; rw [EX.out] at hy; cases hy; exact hv⟩
        case measure => simp [intOf]; omega
      | false =>
        rw [hv] at C
        go_wp2_with (go_at_call 51; refine (unhide (C _)).mono ?_; rintro e w2 ⟨rfl, hb2⟩; have HB3 := hide hb2; clear hb2)
        go_ret
        exact ⟨by rw [namesB, List.all_eq_false.2 ⟨x, List.mem_iff_getElem?.2 ⟨i, EX.out⟩, by simp [hv]⟩]; rfl, HB2.out.trans (HB3.out.mono HB2.out.size)⟩
    · have hlt' : ¬ (i : Int) < (n : Int) := by omega
      have HF : Hid (namesB xs most = decide ((n : Int) ≤ most)) := by
        show _ = _
        rw [namesB, EN.out, List.all_eq_true.2 (fun x hx => by
          obtain ⟨j, hj⟩ := List.mem_iff_getElem?.1 hx
          exact HA.out j x (by have := (List.getElem?_eq_some_iff.1 hj).1; omega) hj)]
        rfl
      clear en
      go_wp2
      go_ret
      exact ⟨by rw [HF.out]; rfl, HB2.out⟩
end Go.Proofs.YtdfahpachbhglaaGreatDoor
