/-
  Walks: a right node, by the program.
-/
import Derived.Test.YtenhmecbebibkaaGreatImpJ
import Derived.Test.YtenhmecbebibkaaGreatTreeD
namespace Go.Proofs.YtenhmecbebibkaaGreat
open Go.RowKit

/-- What holds of the world while a node is looked at. -/
structure NB (w : World) (nv mv pv : Value) (ns : List Nd) (B : Nat) (x : Nd) (kv : Value) (z : World) : Prop where
  b0 : Box z w.heap.size #[nv, mv, pv] 33
  b1 : Box z B #[.int .i64 x.kind, .int .i64 x.num, .string x.name, .string x.more, .string x.into, kv] 79
  bel : Below w.heap.size w z
  nds : NdsAt z nv ns
  kids : IntsAt z kv x.kids
theorem NB.stays {w : World} {nv mv pv : Value} {ns : List Nd} {B : Nat} {x : Nd} {kv : Value} {z z' : World} (h : NB w nv mv pv ns B x kv z) (hb : Below z.heap.size z z') : NB w nv mv pv ns B x kv z' :=
  ⟨h.b0.stays hb, h.b1.stays hb, h.bel.trans (hb.mono h.bel.size), h.nds.stays hb, h.kids.stays hb⟩
abbrev NBS (w : World) (nv mv pv : Value) (ns : List Nd) (B : Nat) (x : Nd) (kv : Value) (z : World) : Prop :=
  z.cell? ⟨B, 0, none⟩ = some (.int .i64 x.kind) ∧ z.cell? ⟨B, 1, none⟩ = some (.int .i64 x.num) ∧ z.cell? ⟨B, 2, none⟩ = some (.string x.name) ∧ z.cell? ⟨B, 3, none⟩ = some (.string x.more) ∧ z.cell? ⟨B, 4, none⟩ = some (.string x.into) ∧ z.cell? ⟨B, 5, none⟩ = some kv
    ∧ Hid (NB w nv mv pv ns B x kv z)
theorem NB.spread {w : World} {nv mv pv : Value} {ns : List Nd} {B : Nat} {x : Nd} {kv : Value} {z : World} (h : NB w nv mv pv ns B x kv z) : NBS w nv mv pv ns B x kv z :=
  ⟨Lib.cell_of_heap h.b1 0, Lib.cell_of_heap h.b1 1, Lib.cell_of_heap h.b1 2, Lib.cell_of_heap h.b1 3, Lib.cell_of_heap h.b1 4, Lib.cell_of_heap h.b1 5, h⟩
theorem NBS.nb {w : World} {nv mv pv : Value} {ns : List Nd} {B : Nat} {x : Nd} {kv : Value} {z : World} (h : NBS w nv mv pv ns B x kv z) : NB w nv mv pv ns B x kv z := h.2.2.2.2.2.2.out

/-- Is a node right, by the program? (y: the node that comes back from its type; rb: what stands in it is right.) -/
def progB (x y : Nd) (k : Int) (rb : Bool) : Bool := sameB x y && aheadB x.kids k && rb

set_option maxRecDepth 100000 in
set_option maxHeartbeats 4000000 in
theorem nodeOk_calc (nv mv pv : Value) (ns : List Nd) (k : Nat) (w : World) (hN : NdsAt w nv ns) (hR : NdsRoom w nv ns.length) (hk : k < ns.length) (hl : ns.length ≤ 1048576) (nu : Int) (nm mo it : ByteArray) (ks : List Int) (hkl : ks.length ≤ 1048576) (_hs1 : nm.size ≤ 1048576) (_hs2 : mo.size ≤ 1048576) (_hs3 : it.size ≤ 1048576) (hx : ns[k] = ⟨3, nu, nm, mo, it, ks⟩) :
    Calls Tryz.prog 71 #[.agg #[nv, mv, pv], .int .i64 (k : Int)] w fun e w' => e = .returned (.bool (progB ⟨3, nu, nm, mo, it, ks⟩ ⟨3, nu, ByteArray.empty, ByteArray.empty, ByteArray.empty, [(ks[0]?.getD (-1)), (ks[1]?.getD (-1))]⟩ k ((decide (1 ≤ nu) && decide (nu ≤ 9)) && (standQ ns 1 (ks[0]?.getD (-1)) && standQ ns 1 (ks[1]?.getD (-1)))))) ∧ Below w.heap.size w w' := by
  have hb1 : Below w.heap.size w (w.alloc (.cells #[nv, mv, pv] 33)) := (Below.refl _ _).alloc (Nat.le_refl _) _
  have CH := fun w h => hide (has_any nv mv pv ns (k : Int) w h)
  have e1 : inZ 0 ((ns.length : Int) - 1) (k : Int) = true := inZ_yes.2 (by omega)
  rw [e1] at CH
  have HN := hide (hN.stays hb1)
  have HR := hide (hR.stays hb1)
  have HP : Hid (Box (w.alloc (.cells #[nv, mv, pv] 33)) w.heap.size #[nv, mv, pv] 33) := Box.made w _ _
  have HB := hide hb1
  have HX := hide hx
  clear hb1 e1 hR hx
  obtain ⟨ao, c, rfl, _⟩ := hN
  have hi0 : (0 : Int) ≤ (k : Int) := by omega
  have hi1 : (k : Int) < (ns.length : Int) := by omega
  go_enter Tryz.func71, Tryz.ntmps71
  go_wp2_with fail
  refine (unhide (CH _ HN.out)).mono ?_
  rintro e w1 ⟨rfl, hb2⟩
  have HB1 := hide (HB.out.trans (hb2.mono HB.out.size))
  have HN1 := hide (HN.out.stays hb2)
  have HR1 := hide (HR.out.stays hb2)
  have HP1 := hide (HP.out.stays hb2)
  have c0 := Lib.cell_of_heap HP1.out 0
  have c1 := Lib.cell_of_heap HP1.out 1
  have c2 := Lib.cell_of_heap HP1.out 2
  clear HB HN HR HP CH
  simp at c0 c1 c2
  obtain ⟨a', c', p, kv, e5, hpa, hpb, hnode⟩ := HN1.out.node k hk
  injection e5 with e6 e7 e8
  subst e6
  have hrm : Room kv := by
    obtain ⟨ao2, c2, e2, _, h2⟩ := HR1.out
    injection e2 with e3 e4 e5
    obtain ⟨a2, kv2, e6, _, h3, h4⟩ := h2 k hk
    rw [← e3] at e6
    cases e6
    rw [hpa, hnode.c5] at h3
    cases h3
    exact h4
  rw [HX.out] at hnode
  obtain ⟨d0, d1, d2, d3, d4, d5, hkids⟩ := hnode
  dsimp only at d0 d1 d2 d3 d4 d5 hkids
  have HKI := hide hkids
  obtain ⟨ko, kc, rfl, _⟩ := hkids
  have HRM := hide hrm
  clear e7 e8 hb2 hrm
  go_wp2_with fail
  have HNB : Hid (NB w (.slice (some a') ns.length c) mv pv ns w1.heap.size ⟨3, nu, nm, mo, it, ks⟩ (.slice ko ks.length kc) (w1.alloc (.cells #[.int .i64 3, .int .i64 nu, .string nm, .string mo, .string it, .slice ko ks.length kc] 79))) := by
    have hb : Below w1.heap.size w1 (w1.alloc (.cells #[.int .i64 3, .int .i64 nu, .string nm, .string mo, .string it, .slice ko ks.length kc] 79)) := (Below.refl _ _).alloc (Nat.le_refl _) _
    exact ⟨HP1.out.stays hb, Box.made _ _ _, HB1.out.trans (hb.mono HB1.out.size), HN1.out.stays hb, HKI.out.stays hb⟩
  refine (typed_any 3 nu nm mo it (.slice ko ks.length kc) ks _ HNB.out.kids).mono ?_
  rintro e w2 ⟨rfl, hb2⟩
  have HNB2 := hide (HNB.out.stays hb2)
  clear HNB
  clear hb2 c0 c1 c2 d0 d1 d2 d3 d4 d5 HN1 HR1 HP1 HB1 HKI
  have et : typedV 3 nu nm mo it (.slice ko ks.length kc) ks = .iface 136 (.agg #[.int .i64 nu, .int .i64 (ks[0]?.getD (-1)), .int .i64 (ks[1]?.getD (-1))]) := rfl
  rw [et]
  clear et
  have CN := fun w => hide (calcNode_node nu (ks[0]?.getD (-1)) (ks[1]?.getD (-1)) w)
  have CR := fun w h => hide (right_calc (.slice (some a') ns.length c) mv pv ns w h hl nu (ks[0]?.getD (-1)) (ks[1]?.getD (-1)))
  have CS := fun w kv2 h1 h2 => hide (same_any ⟨3, nu, nm, mo, it, ks⟩ ⟨3, nu, ByteArray.empty, ByteArray.empty, ByteArray.empty, [(ks[0]?.getD (-1)), (ks[1]?.getD (-1))]⟩ (.slice ko ks.length kc) kv2 w h1 h2 hkl (by simp))
  have CA := fun w h => hide (kidsAhead_any 3 nu nm mo it (.slice ko ks.length kc) ks (k : Int) w h HRM.out)
  obtain ⟨sb, esb⟩ : ∃ sb, sameB ⟨3, nu, nm, mo, it, ks⟩ ⟨3, nu, ByteArray.empty, ByteArray.empty, ByteArray.empty, [(ks[0]?.getD (-1)), (ks[1]?.getD (-1))]⟩ = sb := ⟨_, rfl⟩
  obtain ⟨ab, eab⟩ : ∃ ab, aheadB ks (k : Int) = ab := ⟨_, rfl⟩
  have HF : Hid (progB ⟨3, nu, nm, mo, it, ks⟩ ⟨3, nu, ByteArray.empty, ByteArray.empty, ByteArray.empty, [(ks[0]?.getD (-1)), (ks[1]?.getD (-1))]⟩ (k : Int) ((decide (1 ≤ nu) && decide (nu ≤ 9)) && (standQ ns 1 (ks[0]?.getD (-1)) && standQ ns 1 (ks[1]?.getD (-1)))) = (sb && ab && ((decide (1 ≤ nu) && decide (nu ≤ 9)) && (standQ ns 1 (ks[0]?.getD (-1)) && standQ ns 1 (ks[1]?.getD (-1)))))) := by show _ = _; rw [progB, esb, eab]
  obtain ⟨rb, erb⟩ : ∃ rb, ((decide (1 ≤ nu) && decide (nu ≤ 9)) && (standQ ns 1 (ks[0]?.getD (-1)) && standQ ns 1 (ks[1]?.getD (-1)))) = rb := ⟨_, rfl⟩
  simp only [esb] at CS
  simp only [eab] at CA
  simp only [erb] at CR
  have HF2 : Hid (progB ⟨3, nu, nm, mo, it, ks⟩ ⟨3, nu, ByteArray.empty, ByteArray.empty, ByteArray.empty, [(ks[0]?.getD (-1)), (ks[1]?.getD (-1))]⟩ (k : Int) ((decide (1 ≤ nu) && decide (nu ≤ 9)) && (standQ ns 1 (ks[0]?.getD (-1)) && standQ ns 1 (ks[1]?.getD (-1)))) = (sb && ab && rb)) := by rw [← erb]; exact HF.out
  clear HF
  clear esb eab
  (try dsimp only at CS)
  obtain ⟨g0, g1, g2, g3, g4, g5, hh⟩ := HNB2.out.spread
  (try dsimp only at g0 g1 g2 g3 g4 g5)
  have KP : Hid (∀ z z' : World, (z.cell? ⟨w1.heap.size, 0, none⟩ = some (.int .i64 3) ∧ z.cell? ⟨w1.heap.size, 1, none⟩ = some (.int .i64 nu) ∧ z.cell? ⟨w1.heap.size, 2, none⟩ = some (.string nm) ∧ z.cell? ⟨w1.heap.size, 3, none⟩ = some (.string mo) ∧ z.cell? ⟨w1.heap.size, 4, none⟩ = some (.string it) ∧ z.cell? ⟨w1.heap.size, 5, none⟩ = some (.slice ko ks.length kc) ∧ Hid (NB w (.slice (some a') ns.length c) mv pv ns w1.heap.size ⟨3, nu, nm, mo, it, ks⟩ (.slice ko ks.length kc) z)) → Below z.heap.size z z' → (z'.cell? ⟨w1.heap.size, 0, none⟩ = some (.int .i64 3) ∧ z'.cell? ⟨w1.heap.size, 1, none⟩ = some (.int .i64 nu) ∧ z'.cell? ⟨w1.heap.size, 2, none⟩ = some (.string nm) ∧ z'.cell? ⟨w1.heap.size, 3, none⟩ = some (.string mo) ∧ z'.cell? ⟨w1.heap.size, 4, none⟩ = some (.string it) ∧ z'.cell? ⟨w1.heap.size, 5, none⟩ = some (.slice ko ks.length kc) ∧ Hid (NB w (.slice (some a') ns.length c) mv pv ns w1.heap.size ⟨3, nu, nm, mo, it, ks⟩ (.slice ko ks.length kc) z'))) := fun z z' h hb => (h.2.2.2.2.2.2.out.stays hb).spread
  have KK : Hid (∀ z : World, (z.cell? ⟨w1.heap.size, 0, none⟩ = some (.int .i64 3) ∧ z.cell? ⟨w1.heap.size, 1, none⟩ = some (.int .i64 nu) ∧ z.cell? ⟨w1.heap.size, 2, none⟩ = some (.string nm) ∧ z.cell? ⟨w1.heap.size, 3, none⟩ = some (.string mo) ∧ z.cell? ⟨w1.heap.size, 4, none⟩ = some (.string it) ∧ z.cell? ⟨w1.heap.size, 5, none⟩ = some (.slice ko ks.length kc) ∧ Hid (NB w (.slice (some a') ns.length c) mv pv ns w1.heap.size ⟨3, nu, nm, mo, it, ks⟩ (.slice ko ks.length kc) z)) → IntsAt z (.slice ko ks.length kc) ks) := fun z h => h.2.2.2.2.2.2.out.kids
  have KD : Hid (∀ z : World, (z.cell? ⟨w1.heap.size, 0, none⟩ = some (.int .i64 3) ∧ z.cell? ⟨w1.heap.size, 1, none⟩ = some (.int .i64 nu) ∧ z.cell? ⟨w1.heap.size, 2, none⟩ = some (.string nm) ∧ z.cell? ⟨w1.heap.size, 3, none⟩ = some (.string mo) ∧ z.cell? ⟨w1.heap.size, 4, none⟩ = some (.string it) ∧ z.cell? ⟨w1.heap.size, 5, none⟩ = some (.slice ko ks.length kc) ∧ Hid (NB w (.slice (some a') ns.length c) mv pv ns w1.heap.size ⟨3, nu, nm, mo, it, ks⟩ (.slice ko ks.length kc) z)) → NB w (.slice (some a') ns.length c) mv pv ns w1.heap.size ⟨3, nu, nm, mo, it, ks⟩ (.slice ko ks.length kc) z) := fun z h => h.2.2.2.2.2.2.out
  have K0 : Hid (w2.drew.cell? ⟨w1.heap.size, 0, none⟩ = some (.int .i64 3) ∧ w2.drew.cell? ⟨w1.heap.size, 1, none⟩ = some (.int .i64 nu) ∧ w2.drew.cell? ⟨w1.heap.size, 2, none⟩ = some (.string nm) ∧ w2.drew.cell? ⟨w1.heap.size, 3, none⟩ = some (.string mo) ∧ w2.drew.cell? ⟨w1.heap.size, 4, none⟩ = some (.string it) ∧ w2.drew.cell? ⟨w1.heap.size, 5, none⟩ = some (.slice ko ks.length kc) ∧ Hid (NB w (.slice (some a') ns.length c) mv pv ns w1.heap.size ⟨3, nu, nm, mo, it, ks⟩ (.slice ko ks.length kc) w2.drew)) := (HNB2.out.stays (Below.refl _ _).drew).spread
  clear erb
  cases sb with
  | false =>
    go_wp2_with fail
    go_region_held3 (fun z => z.cell? ⟨w1.heap.size, 0, none⟩ = some (.int .i64 3) ∧ z.cell? ⟨w1.heap.size, 1, none⟩ = some (.int .i64 nu) ∧ z.cell? ⟨w1.heap.size, 2, none⟩ = some (.string nm) ∧ z.cell? ⟨w1.heap.size, 3, none⟩ = some (.string mo) ∧ z.cell? ⟨w1.heap.size, 4, none⟩ = some (.string it) ∧ z.cell? ⟨w1.heap.size, 5, none⟩ = some (.slice ko ks.length kc) ∧ Hid (NB w (.slice (some a') ns.length c) mv pv ns w1.heap.size ⟨3, nu, nm, mo, it, ks⟩ (.slice ko ks.length kc) z)) (first | exact K0.out | exact KP.out _ _ (by assumption) hb4)
      ((first
        | (go_at_call 137; refine (unhide (CN _)).mono ?_; rintro e w4 ⟨v4, rfl, hv4, hb4⟩; obtain ⟨kv4, rfl, hk4⟩ := hv4)
        | (go_at_call 95; refine (unhide (CS _ _ (KK.out _ (by assumption)) hk4)).mono ?_; rintro e w4 ⟨rfl, hb4⟩)))
    all_goals (have D := hide (KD.out _ (by assumption)))
    all_goals go_wp2
    all_goals go_ret
    all_goals exact ⟨by rw [HF2.out]; rfl, D.out.bel⟩
  | true =>
    go_wp2_with fail
    go_region_held3 (fun z => z.cell? ⟨w1.heap.size, 0, none⟩ = some (.int .i64 3) ∧ z.cell? ⟨w1.heap.size, 1, none⟩ = some (.int .i64 nu) ∧ z.cell? ⟨w1.heap.size, 2, none⟩ = some (.string nm) ∧ z.cell? ⟨w1.heap.size, 3, none⟩ = some (.string mo) ∧ z.cell? ⟨w1.heap.size, 4, none⟩ = some (.string it) ∧ z.cell? ⟨w1.heap.size, 5, none⟩ = some (.slice ko ks.length kc) ∧ Hid (NB w (.slice (some a') ns.length c) mv pv ns w1.heap.size ⟨3, nu, nm, mo, it, ks⟩ (.slice ko ks.length kc) z)) (first | exact K0.out | exact KP.out _ _ (by assumption) hb4)
      ((first
        | (go_at_call 137; refine (unhide (CN _)).mono ?_; rintro e w4 ⟨v4, rfl, hv4, hb4⟩; obtain ⟨kv4, rfl, hk4⟩ := hv4)
        | (go_at_call 95; refine (unhide (CS _ _ (KK.out _ (by assumption)) hk4)).mono ?_; rintro e w4 ⟨rfl, hb4⟩)))
    all_goals (have D := hide (KD.out _ (by assumption)))
    all_goals clear CN CS K0 g0 g1 g2 g3 g4 g5
    all_goals cases ab
    all_goals
      go_wp2_with (first
        | (go_at_call 96; refine (unhide (CA _ D.out.kids)).mono ?_; rintro e w5 ⟨rfl, hb5⟩; have D := hide (D.out.stays hb5); have p0 := Lib.cell_of_heap D.out.b0 0; have p1 := Lib.cell_of_heap D.out.b0 1; have p2 := Lib.cell_of_heap D.out.b0 2; simp at p0 p1 p2; clear hb5)
        | (go_at_call 97; refine (unhide (CR _ D.out.nds)).mono ?_; rintro e w6 ⟨rfl, hb6⟩; have D := hide (D.out.stays hb6); clear hb6))
    all_goals go_ret
    all_goals exact ⟨by rw [HF2.out]; rfl, D.out.bel⟩
end Go.Proofs.YtenhmecbebibkaaGreat

namespace Go.Proofs.YtenhmecbebibkaaGreat
open Go.RowKit

theorem role_value (kd : Int) : decide (roleOf kd = 1) = valueQ kd := by
  unfold roleOf
  cases h : valueQ kd with
  | true => simp
  | false =>
    simp only [Bool.false_eq_true, if_false]
    split
    · simp
    · split <;> simp
theorem role_stmt (kd : Int) : decide (roleOf kd = 2) = stmtQ kd := by
  unfold roleOf
  cases h : valueQ kd with
  | true =>
    have h2 : stmtQ kd = false := by
      have := inZ_yes.1 h
      rw [stmtQ, inZ_no]
      omega
    simp [h2]
  | false =>
    simp only [Bool.false_eq_true, if_false]
    cases h2 : stmtQ kd with
    | true => simp
    | false => simp; split <;> simp
theorem role_block (kd : Int) : decide (roleOf kd = 3) = blockQ kd := by
  unfold roleOf blockQ
  cases h : valueQ kd with
  | true =>
    have := inZ_yes.1 h
    have h2 : ¬ kd = 20 := by omega
    simp [h2]
  | false =>
    simp only [Bool.false_eq_true, if_false]
    cases h2 : stmtQ kd with
    | true =>
      have := inZ_yes.1 h2
      have h3 : ¬ kd = 20 := by omega
      simp [h3]
    | false =>
      simp only [Bool.false_eq_true, if_false]
      split <;> simp_all
theorem kid_ahead {ns : List Nd} {k : Nat} {x : Int} (h : 0 ≤ x ∧ x < (k : Int)) : kidKind ns k x = (ns.getD x.toNat default).kind := by
  rw [kidKind, if_pos (inZ_yes.2 (by omega))]
theorem kid_not {ns : List Nd} {k : Nat} {x : Int} (h : ¬ (0 ≤ x ∧ x < (k : Int))) : kidKind ns k x = 0 := by
  rw [kidKind, if_neg (by rw [inZ_yes]; omega)]
theorem stand_value {ns : List Nd} {k : Nat} (hk : k < ns.length) {x : Int} (h : 0 ≤ x ∧ x < (k : Int)) : standQ ns 1 x = valueQ (kidKind ns k x) := by
  rw [standQ, inZ_yes.2 (by omega), Bool.true_and, role_value, kid_ahead h]
theorem stand_stmt {ns : List Nd} {k : Nat} (hk : k < ns.length) {x : Int} (h : 0 ≤ x ∧ x < (k : Int)) : standQ ns 2 x = stmtQ (kidKind ns k x) := by
  rw [standQ, inZ_yes.2 (by omega), Bool.true_and, role_stmt, kid_ahead h]
theorem stand_block {ns : List Nd} {k : Nat} (hk : k < ns.length) {x : Int} (h : 0 ≤ x ∧ x < (k : Int)) : standQ ns 3 x = blockQ (kidKind ns k x) := by
  rw [standQ, inZ_yes.2 (by omega), Bool.true_and, role_block, kid_ahead h]
theorem value_zero : valueQ 0 = false := rfl
theorem stmt_zero : stmtQ 0 = false := rfl
theorem block_zero : blockQ 0 = false := rfl
theorem empty_beq (s : ByteArray) : (s.toList == ByteArray.empty.toList) = s.toList.isEmpty := by
  have e : ByteArray.empty.toList = [] := by rw [ByteArray.toList_eq]; rfl
  rw [e]
  cases s.toList <;> rfl
theorem toList_beq (s : ByteArray) : (s.toList == s.toList) = true := by simp
theorem kinds_of {ns : List Nd} {k : Nat} (hk : k < ns.length) {x : Nd} (hx : ns[k] = x) : kinds ns k = x.kids.map (kidKind ns k) := by
  rw [kinds, getD_at hk, hx]
theorem getD_neg {ks : List Int} {i : Nat} (h : ks.length ≤ i) : ks[i]?.getD (-1) = -1 := by
  rw [List.getElem?_eq_none h]; rfl
/-- Ahead: none, one, two. -/
theorem ahead_nil (k : Int) : aheadB [] k = true := by simp [aheadB, AheadP]
theorem ahead_one (a k : Int) : aheadB [a] k = decide (0 ≤ a ∧ a < k) := by simp [aheadB, AheadP]
theorem ahead_two (a b k : Int) : aheadB [a, b] k = (decide (0 ≤ a ∧ a < k) && decide (0 ≤ b ∧ b < k) && decide (a ≠ b)) := by
  rw [Bool.eq_iff_iff]
  simp [aheadB, AheadP, and_assoc]
theorem ahead_three (a b c k : Int) : aheadB [a, b, c] k = (decide (0 ≤ a ∧ a < k) && decide (0 ≤ b ∧ b < k) && decide (0 ≤ c ∧ c < k) && decide ([a, b, c].Nodup)) := by
  rw [Bool.eq_iff_iff]
  simp [aheadB, AheadP, and_assoc]

theorem isEmpty_beq (s : ByteArray) : (s.toList == []) = s.toList.isEmpty := by cases s.toList <;> rfl
theorem pure_skip {ns : List Nd} {k : Nat} (hk : k < ns.length) {nu : Int} {nm mo it : ByteArray} {ks : List Int} (hx : ns[k] = ⟨19, nu, nm, mo, it, ks⟩) :
    progB ⟨19, nu, nm, mo, it, ks⟩ ⟨19, 0, ByteArray.empty, ByteArray.empty, ByteArray.empty, []⟩ k (true) = nodeB ⟨19, nu, nm, mo, it, ks⟩ (kinds ns k) := by
  (
  rw [progB, nodeB, kinds_of hk hx];
  rcases ks with _ | ⟨a, ks⟩;
  (simp [sameB, ahead_nil, kidsB, namedQ, valueQ, stmtQ, inZ, Bool.and_assoc, Bool.and_comm, Bool.and_left_comm]);
  (simp [sameB, kidsB]))
theorem pure_num {ns : List Nd} {k : Nat} (hk : k < ns.length) {nu : Int} {nm mo it : ByteArray} {ks : List Int} (hx : ns[k] = ⟨1, nu, nm, mo, it, ks⟩) :
    progB ⟨1, nu, nm, mo, it, ks⟩ ⟨1, nu, ByteArray.empty, ByteArray.empty, ByteArray.empty, []⟩ k (inZ 0 1000000 nu) = nodeB ⟨1, nu, nm, mo, it, ks⟩ (kinds ns k) := by
  (
  rw [progB, nodeB, kinds_of hk hx];
  rcases ks with _ | ⟨a, ks⟩;
  (simp [sameB, ahead_nil, kidsB, namedQ, valueQ, stmtQ, inZ, Bool.and_assoc, Bool.and_comm]);
  (simp [sameB, kidsB]))
theorem pure_var {ns : List Nd} {k : Nat} (hk : k < ns.length) {nu : Int} {nm mo it : ByteArray} {ks : List Int} (hx : ns[k] = ⟨2, nu, nm, mo, it, ks⟩) :
    progB ⟨2, nu, nm, mo, it, ks⟩ ⟨2, 0, nm, ByteArray.empty, ByteArray.empty, []⟩ k (nameB nm) = nodeB ⟨2, nu, nm, mo, it, ks⟩ (kinds ns k) := by
  (
  rw [progB, nodeB, kinds_of hk hx];
  rcases ks with _ | ⟨a, ks⟩;
  (simp [sameB, ahead_nil, kidsB, namedQ, valueQ, stmtQ, inZ, Bool.and_assoc, Bool.and_comm, Bool.and_left_comm]);
  (simp [sameB, kidsB]))
theorem pure_read {ns : List Nd} {k : Nat} (hk : k < ns.length) {nu : Int} {nm mo it : ByteArray} {ks : List Int} (hx : ns[k] = ⟨16, nu, nm, mo, it, ks⟩) :
    progB ⟨16, nu, nm, mo, it, ks⟩ ⟨16, 0, nm, ByteArray.empty, ByteArray.empty, []⟩ k (nameB nm) = nodeB ⟨16, nu, nm, mo, it, ks⟩ (kinds ns k) := by
  (
  rw [progB, nodeB, kinds_of hk hx];
  rcases ks with _ | ⟨a, ks⟩;
  (simp [sameB, ahead_nil, kidsB, namedQ, valueQ, stmtQ, inZ, Bool.and_assoc, Bool.and_comm, Bool.and_left_comm]);
  (simp [sameB, kidsB]))
theorem pure_delay {ns : List Nd} {k : Nat} (hk : k < ns.length) {nu : Int} {nm mo it : ByteArray} {ks : List Int} (hx : ns[k] = ⟨17, nu, nm, mo, it, ks⟩) :
    progB ⟨17, nu, nm, mo, it, ks⟩ ⟨17, 0, nm, ByteArray.empty, ByteArray.empty, []⟩ k (nameB nm) = nodeB ⟨17, nu, nm, mo, it, ks⟩ (kinds ns k) := by
  (
  rw [progB, nodeB, kinds_of hk hx];
  rcases ks with _ | ⟨a, ks⟩;
  (simp [sameB, ahead_nil, kidsB, namedQ, valueQ, stmtQ, inZ, Bool.and_assoc, Bool.and_comm, Bool.and_left_comm]);
  (simp [sameB, kidsB]))
theorem pure_cont {ns : List Nd} {k : Nat} (hk : k < ns.length) {nu : Int} {nm mo it : ByteArray} {ks : List Int} (hx : ns[k] = ⟨18, nu, nm, mo, it, ks⟩) :
    progB ⟨18, nu, nm, mo, it, ks⟩ ⟨18, 0, nm, ByteArray.empty, ByteArray.empty, []⟩ k (nameB nm) = nodeB ⟨18, nu, nm, mo, it, ks⟩ (kinds ns k) := by
  (
  rw [progB, nodeB, kinds_of hk hx];
  rcases ks with _ | ⟨a, ks⟩;
  (simp [sameB, ahead_nil, kidsB, namedQ, valueQ, stmtQ, inZ, Bool.and_assoc, Bool.and_comm, Bool.and_left_comm]);
  (simp [sameB, kidsB]))
theorem pure_not {ns : List Nd} {k : Nat} (hk : k < ns.length) {nu : Int} {nm mo it : ByteArray} {ks : List Int} (hx : ns[k] = ⟨4, nu, nm, mo, it, ks⟩) :
    progB ⟨4, nu, nm, mo, it, ks⟩ ⟨4, 0, ByteArray.empty, ByteArray.empty, ByteArray.empty, [(ks[0]?.getD (-1))]⟩ k (standQ ns 1 (ks[0]?.getD (-1))) = nodeB ⟨4, nu, nm, mo, it, ks⟩ (kinds ns k) := by
  (
  rw [progB, nodeB, kinds_of hk hx];
  rcases ks with _ | ⟨a, _ | ⟨b, ks⟩⟩;
  (simp [sameB, kidsB]);
  (by_cases ha : 0 ≤ a ∧ a < (k : Int));
  (have e := stand_value hk ha; simp only [List.getElem?_cons_zero, Option.getD_some, List.map_cons, List.map_nil, e, ahead_one, ha];
    (simp [sameB, kidsB, namedQ, show valueQ 4 = true from rfl, Bool.and_assoc, Bool.and_comm, Bool.and_left_comm]));
  (have e := kid_not (ns := ns) ha; simp [sameB, kidsB, ahead_one, e, value_zero, ha]);
  (simp [sameB, kidsB]))
theorem pure_neg {ns : List Nd} {k : Nat} (hk : k < ns.length) {nu : Int} {nm mo it : ByteArray} {ks : List Int} (hx : ns[k] = ⟨5, nu, nm, mo, it, ks⟩) :
    progB ⟨5, nu, nm, mo, it, ks⟩ ⟨5, 0, ByteArray.empty, ByteArray.empty, ByteArray.empty, [(ks[0]?.getD (-1))]⟩ k (standQ ns 1 (ks[0]?.getD (-1))) = nodeB ⟨5, nu, nm, mo, it, ks⟩ (kinds ns k) := by
  (
  rw [progB, nodeB, kinds_of hk hx];
  rcases ks with _ | ⟨a, _ | ⟨b, ks⟩⟩;
  (simp [sameB, kidsB]);
  (by_cases ha : 0 ≤ a ∧ a < (k : Int));
  (have e := stand_value hk ha; simp only [List.getElem?_cons_zero, Option.getD_some, List.map_cons, List.map_nil, e, ahead_one, ha];
    (simp [sameB, kidsB, namedQ, show valueQ 5 = true from rfl, Bool.and_assoc, Bool.and_comm, Bool.and_left_comm]));
  (have e := kid_not (ns := ns) ha; simp [sameB, kidsB, ahead_one, e, value_zero, ha]);
  (simp [sameB, kidsB]))
theorem pure_print {ns : List Nd} {k : Nat} (hk : k < ns.length) {nu : Int} {nm mo it : ByteArray} {ks : List Int} (hx : ns[k] = ⟨15, nu, nm, mo, it, ks⟩) :
    progB ⟨15, nu, nm, mo, it, ks⟩ ⟨15, 0, ByteArray.empty, ByteArray.empty, ByteArray.empty, [(ks[0]?.getD (-1))]⟩ k (standQ ns 1 (ks[0]?.getD (-1))) = nodeB ⟨15, nu, nm, mo, it, ks⟩ (kinds ns k) := by
  (
  rw [progB, nodeB, kinds_of hk hx];
  rcases ks with _ | ⟨a, _ | ⟨b, ks⟩⟩;
  (simp [sameB, kidsB]);
  (by_cases ha : 0 ≤ a ∧ a < (k : Int));
  (have e := stand_value hk ha; simp only [List.getElem?_cons_zero, Option.getD_some, List.map_cons, List.map_nil, e, ahead_one, ha];
    (simp [sameB, kidsB, namedQ, show stmtQ 15 = true from rfl, Bool.and_assoc, Bool.and_comm, Bool.and_left_comm]));
  (have e := kid_not (ns := ns) ha; simp [sameB, kidsB, ahead_one, e, value_zero, ha]);
  (simp [sameB, kidsB]))
theorem pure_set {ns : List Nd} {k : Nat} (hk : k < ns.length) {nu : Int} {nm mo it : ByteArray} {ks : List Int} (hx : ns[k] = ⟨11, nu, nm, mo, it, ks⟩) :
    progB ⟨11, nu, nm, mo, it, ks⟩ ⟨11, 0, nm, ByteArray.empty, ByteArray.empty, [(ks[0]?.getD (-1))]⟩ k (nameB nm && standQ ns 1 (ks[0]?.getD (-1))) = nodeB ⟨11, nu, nm, mo, it, ks⟩ (kinds ns k) := by
  (
  rw [progB, nodeB, kinds_of hk hx];
  rcases ks with _ | ⟨a, _ | ⟨b, ks⟩⟩;
  (simp [sameB, kidsB]);
  (by_cases ha : 0 ≤ a ∧ a < (k : Int));
  (have e := stand_value hk ha; simp only [List.getElem?_cons_zero, Option.getD_some, List.map_cons, List.map_nil, e, ahead_one, ha];
    (simp [sameB, kidsB, namedQ, show stmtQ 11 = true from rfl, Bool.and_assoc, Bool.and_comm, Bool.and_left_comm]));
  (have e := kid_not (ns := ns) ha; simp [sameB, kidsB, ahead_one, e, value_zero, ha]);
  (simp [sameB, kidsB]))
theorem pure_call {ns : List Nd} {k : Nat} (hk : k < ns.length) {nu : Int} {nm mo it : ByteArray} {ks : List Int} (hx : ns[k] = ⟨14, nu, nm, mo, it, ks⟩) :
    progB ⟨14, nu, nm, mo, it, ks⟩ ⟨14, 0, nm, mo, it, [(ks[0]?.getD (-1))]⟩ k (nameB nm && nameB mo && (it.toList.isEmpty || nameB it) && standQ ns 1 (ks[0]?.getD (-1))) = nodeB ⟨14, nu, nm, mo, it, ks⟩ (kinds ns k) := by
  (
  rw [progB, nodeB, kinds_of hk hx];
  rcases ks with _ | ⟨a, _ | ⟨b, ks⟩⟩;
  (simp [sameB, kidsB]);
  (by_cases ha : 0 ≤ a ∧ a < (k : Int));
  (have e := stand_value hk ha; simp only [List.getElem?_cons_zero, Option.getD_some, List.map_cons, List.map_nil, e, ahead_one, ha];
    (simp [sameB, kidsB, namedQ, show stmtQ 14 = true from rfl, Bool.and_assoc, Bool.and_comm, Bool.and_left_comm]));
  (have e := kid_not (ns := ns) ha; simp [sameB, kidsB, ahead_one, e, value_zero, ha]);
  (simp [sameB, kidsB]))
theorem pure_calc {ns : List Nd} {k : Nat} (hk : k < ns.length) {nu : Int} {nm mo it : ByteArray} {ks : List Int} (hx : ns[k] = ⟨3, nu, nm, mo, it, ks⟩) :
    progB ⟨3, nu, nm, mo, it, ks⟩ ⟨3, nu, ByteArray.empty, ByteArray.empty, ByteArray.empty, [(ks[0]?.getD (-1)), (ks[1]?.getD (-1))]⟩ k ((decide (1 ≤ nu) && decide (nu ≤ 9)) && (standQ ns 1 (ks[0]?.getD (-1)) && standQ ns 1 (ks[1]?.getD (-1)))) = nodeB ⟨3, nu, nm, mo, it, ks⟩ (kinds ns k) := by
  (
  rw [progB, nodeB, kinds_of hk hx];
  rcases ks with _ | ⟨a, _ | ⟨b, _ | ⟨c, ks⟩⟩⟩;
  (simp [sameB, kidsB]);
  (simp [sameB, kidsB]);
  (by_cases ha : 0 ≤ a ∧ a < (k : Int));
  (by_cases hb : 0 ≤ b ∧ b < (k : Int));
  (have e := stand_value hk ha; have e2 := stand_value hk hb; simp only [List.getElem?_cons_zero, List.getElem?_cons_succ, Option.getD_some, List.map_cons, List.map_nil, e, e2, ahead_two, ha, hb];
    (simp [sameB, kidsB, namedQ, inZ, show valueQ 3 = true from rfl, Bool.and_assoc, Bool.and_comm, Bool.and_left_comm]));
  (have e := kid_not (ns := ns) hb; simp [sameB, kidsB, ahead_two, e, value_zero, hb]);
  (have e := kid_not (ns := ns) ha; simp [sameB, kidsB, ahead_two, e, value_zero, ha]);
  (simp [sameB, kidsB]))
theorem pure_while {ns : List Nd} {k : Nat} (hk : k < ns.length) {nu : Int} {nm mo it : ByteArray} {ks : List Int} (hx : ns[k] = ⟨13, nu, nm, mo, it, ks⟩) :
    progB ⟨13, nu, nm, mo, it, ks⟩ ⟨13, 0, ByteArray.empty, ByteArray.empty, ByteArray.empty, [(ks[0]?.getD (-1)), (ks[1]?.getD (-1))]⟩ k (standQ ns 1 (ks[0]?.getD (-1)) && standQ ns 3 (ks[1]?.getD (-1))) = nodeB ⟨13, nu, nm, mo, it, ks⟩ (kinds ns k) := by
  (
  rw [progB, nodeB, kinds_of hk hx];
  rcases ks with _ | ⟨a, _ | ⟨b, _ | ⟨c, ks⟩⟩⟩;
  (simp [sameB, kidsB]);
  (simp [sameB, kidsB]);
  (by_cases ha : 0 ≤ a ∧ a < (k : Int));
  (by_cases hb : 0 ≤ b ∧ b < (k : Int));
  (have e := stand_value hk ha; have e2 := stand_block hk hb; simp only [List.getElem?_cons_zero, List.getElem?_cons_succ, Option.getD_some, List.map_cons, List.map_nil, e, e2, ahead_two, ha, hb];
    (simp [sameB, kidsB, namedQ, show stmtQ 13 = true from rfl, Bool.and_assoc, Bool.and_comm, Bool.and_left_comm]));
  (have e := kid_not (ns := ns) hb; simp [sameB, kidsB, ahead_two, e, block_zero, hb]);
  (have e := kid_not (ns := ns) ha; simp [sameB, kidsB, ahead_two, e, value_zero, ha]);
  (simp [sameB, kidsB]))

theorem pure_if {ns : List Nd} {k : Nat} (hk : k < ns.length) {nu : Int} {nm mo it : ByteArray} {ks : List Int} (hx : ns[k] = ⟨12, nu, nm, mo, it, ks⟩) :
    progB ⟨12, nu, nm, mo, it, ks⟩ ⟨12, 0, ByteArray.empty, ByteArray.empty, ByteArray.empty, ifKids (ks[0]?.getD (-1)) (ks[1]?.getD (-1)) (ks[2]?.getD (-1))⟩ k (standQ ns 1 (ks[0]?.getD (-1)) && standQ ns 3 (ks[1]?.getD (-1)) && (decide ((ks[2]?.getD (-1)) = -1) || standQ ns 3 (ks[2]?.getD (-1)))) = nodeB ⟨12, nu, nm, mo, it, ks⟩ (kinds ns k) := by
  rw [progB, nodeB, kinds_of hk hx]
  rcases ks with _ | ⟨a, _ | ⟨b, _ | ⟨c, _ | ⟨d, ks⟩⟩⟩⟩
  · simp [sameB, kidsB, ifKids]
  · simp [sameB, kidsB, ifKids]
  · by_cases ha : 0 ≤ a ∧ a < (k : Int)
    · by_cases hb : 0 ≤ b ∧ b < (k : Int)
      · have e := stand_value hk ha
        have e2 := stand_block hk hb
        have e3 : ifKids a b (-1) = [a, b] := rfl
        have e4 : ([a, b] : List Int)[2]?.getD (-1) = -1 := rfl
        simp only [List.getElem?_cons_zero, List.getElem?_cons_succ, Option.getD_some, List.map_cons, List.map_nil, e, e2, ahead_two, ha, hb]
        simp [sameB, kidsB, namedQ, e3, show stmtQ 12 = true from rfl, Bool.and_assoc, Bool.and_comm, Bool.and_left_comm]
      · have e := kid_not (ns := ns) hb
        simp [sameB, kidsB, ahead_two, e, block_zero, hb]
    · have e := kid_not (ns := ns) ha
      simp [sameB, kidsB, ahead_two, e, value_zero, ha]
  · by_cases ha : 0 ≤ a ∧ a < (k : Int)
    · by_cases hb : 0 ≤ b ∧ b < (k : Int)
      · by_cases hc : 0 ≤ c ∧ c < (k : Int)
        · have e := stand_value hk ha
          have e2 := stand_block hk hb
          have e3 := stand_block hk hc
          have hc1 : ¬ c = -1 := by omega
          have e4 : ifKids a b c = [a, b, c] := if_neg hc1
          simp only [List.getElem?_cons_zero, List.getElem?_cons_succ, Option.getD_some, List.map_cons, List.map_nil, e, e2, e3, e4, ahead_three, ha, hb, hc]
          simp [sameB, kidsB, namedQ, hc1, show stmtQ 12 = true from rfl, Bool.and_assoc, Bool.and_comm, Bool.and_left_comm]
        · have e := kid_not (ns := ns) hc
          simp [sameB, kidsB, ahead_three, e, block_zero, hc]
      · have e := kid_not (ns := ns) hb
        simp [sameB, kidsB, ahead_three, e, block_zero, hb]
    · have e := kid_not (ns := ns) ha
      simp [sameB, kidsB, ahead_three, e, value_zero, ha]
  · have e : ∀ x y z : Int, ¬ a :: b :: c :: d :: ks = ifKids x y z := fun x y z => by
      unfold ifKids
      split <;> simp
    simp [sameB, kidsB, e]

theorem pure_block {ns : List Nd} {k : Nat} (hk : k < ns.length) {nu : Int} {nm mo it : ByteArray} {ks : List Int} (hx : ns[k] = ⟨20, nu, nm, mo, it, ks⟩) :
    progB ⟨20, nu, nm, mo, it, ks⟩ ⟨20, 0, ByteArray.empty, ByteArray.empty, ByteArray.empty, ks⟩ k (decide (0 < ks.length) && ks.all (standQ ns 2)) = nodeB ⟨20, nu, nm, mo, it, ks⟩ (kinds ns k) := by
  rw [progB, nodeB, kinds_of hk hx]
  have e1 : kidsB 20 (ks.map (kidKind ns k)) = ((ks.map (kidKind ns k)).all stmtQ && inZ 1 12 ks.length) := by
    simp [kidsB]
  by_cases hall : ∀ x ∈ ks, 0 ≤ x ∧ x < (k : Int)
  · have e2 : ks.all (standQ ns 2) = (ks.map (kidKind ns k)).all stmtQ := by
      rw [List.all_map, Bool.eq_iff_iff, List.all_eq_true, List.all_eq_true]
      exact ⟨fun h x hx => by rw [Function.comp, ← stand_stmt hk (hall x hx)]; exact h x hx, fun h x hx => by rw [stand_stmt hk (hall x hx)]; exact h x hx⟩
    have e3 : aheadB ks k = (decide (ks.length ≤ 12) && decide ks.Nodup) := by
      rw [Bool.eq_iff_iff, aheadB, decide_eq_true_iff, Bool.and_eq_true, decide_eq_true_iff, decide_eq_true_iff]
      exact ⟨fun h => ⟨h.1, h.2.2⟩, fun h => ⟨h.1, hall, h.2⟩⟩
    have e4 : inZ 1 12 ks.length = (decide (0 < ks.length) && decide (ks.length ≤ 12)) := by
      rw [Bool.eq_iff_iff, inZ_yes]
      simp only [Bool.and_eq_true, decide_eq_true_eq]
      omega
    rw [e1, e2, e3, e4]
    simp [sameB, namedQ, Bool.and_assoc, Bool.and_comm, Bool.and_left_comm]
  · have e3 : aheadB ks k = false := by
      rw [aheadB, decide_eq_false_iff_not]
      exact fun h => hall h.2.1
    have e2 : (ks.map (kidKind ns k)).all stmtQ = false := by
      rw [Bool.eq_false_iff]
      intro h
      rw [List.all_map, List.all_eq_true] at h
      refine hall fun x hx => Classical.byContradiction fun hn => ?_
      have := h x hx
      rw [Function.comp, kid_not hn] at this
      exact absurd this (by decide)
    rw [e1, e2, e3]
    simp
end Go.Proofs.YtenhmecbebibkaaGreat
