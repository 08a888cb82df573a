/-
  Walks: a right node, by the program.
-/
import Derived.Test.YtdfahpachbhglaaGreatDoorImpJ
import Derived.Test.YtdfahpachbhglaaGreatDoorTreeD
namespace Go.Proofs.YtdfahpachbhglaaGreatDoor
open Go.RowKit

/-- What holds of the world while a node is looked at. -/
structure NB (w : World) (nv mv pv : Value) (ns : List Nd) (B : Nat) (x : Nd) (kv : Value) (z : World) : Prop where
  b0 : Box z w.heap.size #[nv, mv, pv] 34
  b1 : Box z B #[.int .i64 x.kind, .int .i64 x.num, .string x.name, .string x.more, .string x.into, kv] 78
  bel : Below w.heap.size w z
  nds : NdsAt z nv ns
  kids : IntsAt z kv x.kids
theorem NB.stays {w : World} {nv mv pv : Value} {ns : List Nd} {B : Nat} {x : Nd} {kv : Value} {z z' : World} (h : NB w nv mv pv ns B x kv z) (hb : Below z.heap.size z z') : NB w nv mv pv ns B x kv z' :=
  ⟨h.b0.stays hb, h.b1.stays hb, h.bel.trans (hb.mono h.bel.size), h.nds.stays hb, h.kids.stays hb⟩
abbrev NBS (w : World) (nv mv pv : Value) (ns : List Nd) (B : Nat) (x : Nd) (kv : Value) (z : World) : Prop :=
  z.cell? ⟨B, 0, none⟩ = some (.int .i64 x.kind) ∧ z.cell? ⟨B, 1, none⟩ = some (.int .i64 x.num) ∧ z.cell? ⟨B, 2, none⟩ = some (.string x.name) ∧ z.cell? ⟨B, 3, none⟩ = some (.string x.more) ∧ z.cell? ⟨B, 4, none⟩ = some (.string x.into) ∧ z.cell? ⟨B, 5, none⟩ = some kv
    ∧ Hid (NB w nv mv pv ns B x kv z)
theorem NB.spread {w : World} {nv mv pv : Value} {ns : List Nd} {B : Nat} {x : Nd} {kv : Value} {z : World} (h : NB w nv mv pv ns B x kv z) : NBS w nv mv pv ns B x kv z :=
  ⟨Lib.cell_of_heap h.b1 0, Lib.cell_of_heap h.b1 1, Lib.cell_of_heap h.b1 2, Lib.cell_of_heap h.b1 3, Lib.cell_of_heap h.b1 4, Lib.cell_of_heap h.b1 5, h⟩
theorem NBS.nb {w : World} {nv mv pv : Value} {ns : List Nd} {B : Nat} {x : Nd} {kv : Value} {z : World} (h : NBS w nv mv pv ns B x kv z) : NB w nv mv pv ns B x kv z := h.2.2.2.2.2.2.out

/-- Is a node right, by the program? (y: the node that comes back from its type; rb: what stands in it is right.) -/
def progB (x y : Nd) (k : Int) (rb : Bool) : Bool := sameB x y && aheadB x.kids k && rb

set_option maxRecDepth 100000 in
set_option maxHeartbeats 4000000 in
theorem nodeOk_calc (nv mv pv : Value) (ns : List Nd) (k : Nat) (w : World) (hN : NdsAt w nv ns) (hR : NdsRoom w nv ns.length) (hk : k < ns.length) (hl : ns.length ≤ 1048576) (nu : Int) (nm mo it : ByteArray) (ks : List Int) (hkl : ks.length ≤ 1048576) (_hs1 : nm.size ≤ 1048576) (_hs2 : mo.size ≤ 1048576) (_hs3 : it.size ≤ 1048576) (hx : ns[k] = ⟨3, nu, nm, mo, it, ks⟩) :
    Calls Tryz.prog 58 #[.agg #[nv, mv, pv], .int .i64 (k : Int)] w fun e w' => e = .returned (.bool (progB ⟨3, nu, nm, mo, it, ks⟩ ⟨3, nu, ByteArray.empty, ByteArray.empty, ByteArray.empty, [(ks[0]?.getD (-1)), (ks[1]?.getD (-1))]⟩ k ((decide (1 ≤ nu) && decide (nu ≤ 9)) && (standQ ns 1 (ks[0]?.getD (-1)) && standQ ns 1 (ks[1]?.getD (-1)))))) ∧ Below w.heap.size w w' := by
  have hb1 : Below w.heap.size w (w.alloc (.cells #[nv, mv, pv] 34)) := (Below.refl _ _).alloc (Nat.le_refl _) _
  have CH := fun w h => hide (has_any nv mv pv ns (k : Int) w h)
  have e1 : inZ 0 ((ns.length : Int) - 1) (k : Int) = true := inZ_yes.2 (by omega)
  rw [e1] at CH
  have HN := hide (hN.stays hb1)
  have HR := hide (hR.stays hb1)
  have HP : Hid (Box (w.alloc (.cells #[nv, mv, pv] 34)) w.heap.size #[nv, mv, pv] 34) := Box.made w _ _
  have HB := hide hb1
  have HX := hide hx
  clear hb1 e1 hR hx
  obtain ⟨ao, c, rfl, _⟩ := hN
  have hi0 : (0 : Int) ≤ (k : Int) := by omega
  have hi1 : (k : Int) < (ns.length : Int) := by omega
  go_enter Tryz.func58, Tryz.ntmps58
  go_wp2_with fail
  refine (unhide (CH _ HN.out)).mono ?_
  rintro e w1 ⟨rfl, hb2⟩
  have HB1 := hide (HB.out.trans (hb2.mono HB.out.size))
  have HN1 := hide (HN.out.stays hb2)
  have HR1 := hide (HR.out.stays hb2)
  have HP1 := hide (HP.out.stays hb2)
  have c0 := Lib.cell_of_heap HP1.out 0
  have c1 := Lib.cell_of_heap HP1.out 1
  have c2 := Lib.cell_of_heap HP1.out 2
  clear HB HN HR HP CH
  simp at c0 c1 c2
  obtain ⟨a', c', p, kv, e5, hpa, hpb, hnode⟩ := HN1.out.node k hk
  injection e5 with e6 e7 e8
  subst e6
  have hrm : Room kv := by
    obtain ⟨ao2, c2, e2, _, h2⟩ := HR1.out
    injection e2 with e3 e4 e5
    obtain ⟨a2, kv2, e6, _, h3, h4⟩ := h2 k hk
    rw [← e3] at e6
    cases e6
    rw [hpa, hnode.c5] at h3
    cases h3
    exact h4
  rw [HX.out] at hnode
  obtain ⟨d0, d1, d2, d3, d4, d5, hkids⟩ := hnode
  dsimp only at d0 d1 d2 d3 d4 d5 hkids
  have HKI := hide hkids
  obtain ⟨ko, kc, rfl, _⟩ := hkids
  have HRM := hide hrm
  clear e7 e8 hb2 hrm
  go_wp2_with fail
  have HNB : Hid (NB w (.slice (some a') ns.length c) mv pv ns w1.heap.size ⟨3, nu, nm, mo, it, ks⟩ (.slice ko ks.length kc) (w1.alloc (.cells #[.int .i64 3, .int .i64 nu, .string nm, .string mo, .string it, .slice ko ks.length kc] 78))) := by
    have hb : Below w1.heap.size w1 (w1.alloc (.cells #[.int .i64 3, .int .i64 nu, .string nm, .string mo, .string it, .slice ko ks.length kc] 78)) := (Below.refl _ _).alloc (Nat.le_refl _) _
    exact ⟨HP1.out.stays hb, Box.made _ _ _, HB1.out.trans (hb.mono HB1.out.size), HN1.out.stays hb, HKI.out.stays hb⟩
  refine (typed_any 3 nu nm mo it (.slice ko ks.length kc) ks _ HNB.out.kids).mono ?_
  rintro e w2 ⟨rfl, hb2⟩
  have HNB2 := hide (HNB.out.stays hb2)
  clear HNB
  clear hb2 c0 c1 c2 d0 d1 d2 d3 d4 d5 HN1 HR1 HP1 HB1 HKI
  have et : typedV 3 nu nm mo it (.slice ko ks.length kc) ks = .iface 143 (.agg #[.int .i64 nu, .int .i64 (ks[0]?.getD (-1)), .int .i64 (ks[1]?.getD (-1))]) := rfl
  rw [et]
  clear et
  have CN := fun w => hide (calcNode_node nu (ks[0]?.getD (-1)) (ks[1]?.getD (-1)) w)
  have CR := fun w h => hide (right_calc (.slice (some a') ns.length c) mv pv ns w h hl nu (ks[0]?.getD (-1)) (ks[1]?.getD (-1)))
  have CS := fun w kv2 h1 h2 => hide (same_any ⟨3, nu, nm, mo, it, ks⟩ ⟨3, nu, ByteArray.empty, ByteArray.empty, ByteArray.empty, [(ks[0]?.getD (-1)), (ks[1]?.getD (-1))]⟩ (.slice ko ks.length kc) kv2 w h1 h2 hkl (by simp))
  have CA := fun w h => hide (kidsAhead_any 3 nu nm mo it (.slice ko ks.length kc) ks (k : Int) w h HRM.out)
  obtain ⟨sb, esb⟩ : ∃ sb, sameB ⟨3, nu, nm, mo, it, ks⟩ ⟨3, nu, ByteArray.empty, ByteArray.empty, ByteArray.empty, [(ks[0]?.getD (-1)), (ks[1]?.getD (-1))]⟩ = sb := ⟨_, rfl⟩
  obtain ⟨ab, eab⟩ : ∃ ab, aheadB ks (k : Int) = ab := ⟨_, rfl⟩
  have HF : Hid (progB ⟨3, nu, nm, mo, it, ks⟩ ⟨3, nu, ByteArray.empty, ByteArray.empty, ByteArray.empty, [(ks[0]?.getD (-1)), (ks[1]?.getD (-1))]⟩ (k : Int) ((decide (1 ≤ nu) && decide (nu ≤ 9)) && (standQ ns 1 (ks[0]?.getD (-1)) && standQ ns 1 (ks[1]?.getD (-1)))) = (sb && ab && ((decide (1 ≤ nu) && decide (nu ≤ 9)) && (standQ ns 1 (ks[0]?.getD (-1)) && standQ ns 1 (ks[1]?.getD (-1)))))) := by show _ = _; rw [progB, esb, eab]
  obtain ⟨rb, erb⟩ : ∃ rb, ((decide (1 ≤ nu) && decide (nu ≤ 9)) && (standQ ns 1 (ks[0]?.getD (-1)) && standQ ns 1 (ks[1]?.getD (-1)))) = rb := ⟨_, rfl⟩
  simp only [esb] at CS
  simp only [eab] at CA
  simp only [erb] at CR
  have HF2 : Hid (progB ⟨3, nu, nm, mo, it, ks⟩ ⟨3, nu, ByteArray.empty, ByteArray.empty, ByteArray.empty, [(ks[0]?.getD (-1)), (ks[1]?.getD (-1))]⟩ (k : Int) ((decide (1 ≤ nu) && decide (nu ≤ 9)) && (standQ ns 1 (ks[0]?.getD (-1)) && standQ ns 1 (ks[1]?.getD (-1)))) = (sb && ab && rb)) := by rw [← erb]; exact HF.out
  clear HF
  clear esb eab
  (try dsimp only at CS)
  obtain ⟨g0, g1, g2, g3, g4, g5, hh⟩ := HNB2.out.spread
  (try dsimp only at g0 g1 g2 g3 g4 g5)
  have KP : Hid (∀ z z' : World, (z.cell? ⟨w1.heap.size, 0, none⟩ = some (.int .i64 3) ∧ z.cell? ⟨w1.heap.size, 1, none⟩ = some (.int .i64 nu) ∧ z.cell? ⟨w1.heap.size, 2, none⟩ = some (.string nm) ∧ z.cell? ⟨w1.heap.size, 3, none⟩ = some (.string mo) ∧ z.cell? ⟨w1.heap.size, 4, none⟩ = some (.string it) ∧ z.cell? ⟨w1.heap.size, 5, none⟩ = some (.slice ko ks.length kc) ∧ Hid (NB w (.slice (some a') ns.length c) mv pv ns w1.heap.size ⟨3, nu, nm, mo, it, ks⟩ (.slice ko ks.length kc) z)) → Below z.heap.size z z' → (z'.cell? ⟨w1.heap.size, 0, none⟩ = some (.int .i64 3) ∧ z'.cell? ⟨w1.heap.size, 1, none⟩ = some (.int .i64 nu) ∧ z'.cell? ⟨w1.heap.size, 2, none⟩ = some (.string nm) ∧ z'.cell? ⟨w1.heap.size, 3, none⟩ = some (.string mo) ∧ z'.cell? ⟨w1.heap.size, 4, none⟩ = some (.string it) ∧ z'.cell? ⟨w1.heap.size, 5, none⟩ = some (.slice ko ks.length kc) ∧ Hid (NB w (.slice (some a') ns.length c) mv pv ns w1.heap.size ⟨3, nu, nm, mo, it, ks⟩ (.slice ko ks.length kc) z'))) := fun z z' h hb => (h.2.2.2.2.2.2.out.stays hb).spread
  have KK : Hid (∀ z : World, (z.cell? ⟨w1.heap.size, 0, none⟩ = some (.int .i64 3) ∧ z.cell? ⟨w1.heap.size, 1, none⟩ = some (.int .i64 nu) ∧ z.cell? ⟨w1.heap.size, 2, none⟩ = some (.string nm) ∧ z.cell? ⟨w1.heap.size, 3, none⟩ = some (.string mo) ∧ z.cell? ⟨w1.heap.size, 4, none⟩ = some (.string it) ∧ z.cell? ⟨w1.heap.size, 5, none⟩ = some (.slice ko ks.length kc) ∧ Hid (NB w (.slice (some a') ns.length c) mv pv ns w1.heap.size ⟨3, nu, nm, mo, it, ks⟩ (.slice ko ks.length kc) z)) → IntsAt z (.slice ko ks.length kc) ks) := fun z h => h.2.2.2.2.2.2.out.kids
  have KD : Hid (∀ z : World, (z.cell? ⟨w1.heap.size, 0, none⟩ = some (.int .i64 3) ∧ z.cell? ⟨w1.heap.size, 1, none⟩ = some (.int .i64 nu) ∧ z.cell? ⟨w1.heap.size, 2, none⟩ = some (.string nm) ∧ z.cell? ⟨w1.heap.size, 3, none⟩ = some (.string mo) ∧ z.cell? ⟨w1.heap.size, 4, none⟩ = some (.string it) ∧ z.cell? ⟨w1.heap.size, 5, none⟩ = some (.slice ko ks.length kc) ∧ Hid (NB w (.slice (some a') ns.length c) mv pv ns w1.heap.size ⟨3, nu, nm, mo, it, ks⟩ (.slice ko ks.length kc) z)) → NB w (.slice (some a') ns.length c) mv pv ns w1.heap.size ⟨3, nu, nm, mo, it, ks⟩ (.slice ko ks.length kc) z) := fun z h => h.2.2.2.2.2.2.out
  have K0 : Hid (w2.drew.cell? ⟨w1.heap.size, 0, none⟩ = some (.int .i64 3) ∧ w2.drew.cell? ⟨w1.heap.size, 1, none⟩ = some (.int .i64 nu) ∧ w2.drew.cell? ⟨w1.heap.size, 2, none⟩ = some (.string nm) ∧ w2.drew.cell? ⟨w1.heap.size, 3, none⟩ = some (.string mo) ∧ w2.drew.cell? ⟨w1.heap.size, 4, none⟩ = some (.string it) ∧ w2.drew.cell? ⟨w1.heap.size, 5, none⟩ = some (.slice ko ks.length kc) ∧ Hid (NB w (.slice (some a') ns.length c) mv pv ns w1.heap.size ⟨3, nu, nm, mo, it, ks⟩ (.slice ko ks.length kc) w2.drew)) := (HNB2.out.stays (Below.refl _ _).drew).spread
  clear erb
  cases sb with
  | false =>
    go_wp2_with fail
    go_region_held3 (fun z => z.cell? ⟨w1.heap.size, 0, none⟩ = some (.int .i64 3) ∧ z.cell? ⟨w1.heap.size, 1, none⟩ = some (.int .i64 nu) ∧ z.cell? ⟨w1.heap.size, 2, none⟩ = some (.string nm) ∧ z.cell? ⟨w1.heap.size, 3, none⟩ = some (.string mo) ∧ z.cell? ⟨w1.heap.size, 4, none⟩ = some (.string it) ∧ z.cell? ⟨w1.heap.size, 5, none⟩ = some (.slice ko ks.length kc) ∧ Hid (NB w (.slice (some a') ns.length c) mv pv ns w1.heap.size ⟨3, nu, nm, mo, it, ks⟩ (.slice ko ks.length kc) z)) (first | exact K0.out | exact KP.out _ _ (by assumption) hb4)
      ((first
        | (go_at_call 147; refine (unhide (CN _)).mono ?_; rintro e w4 ⟨v4, rfl, hv4, hb4⟩; obtain ⟨kv4, rfl, hk4⟩ := hv4)
        | (go_at_call 81; refine (unhide (CS _ _ (KK.out _ (by assumption)) hk4)).mono ?_; rintro e w4 ⟨rfl, hb4⟩)))
    all_goals (have D := hide (KD.out _ (by assumption)))
    all_goals go_wp2
    all_goals go_ret
    all_goals exact ⟨by rw [HF2.out]; rfl, D.out.bel⟩
  | true =>
    go_wp2_with fail
    go_region_held3 (fun z => z.cell? ⟨w1.heap.size, 0, none⟩ = some (.int .i64 3) ∧ z.cell? ⟨w1.heap.size, 1, none⟩ = some (.int .i64 nu) ∧ z.cell? ⟨w1.heap.size, 2, none⟩ = some (.string nm) ∧ z.cell? ⟨w1.heap.size, 3, none⟩ = some (.string mo) ∧ z.cell? ⟨w1.heap.size, 4, none⟩ = some (.string it) ∧ z.cell? ⟨w1.heap.size, 5, none⟩ = some (.slice ko ks.length kc) ∧ Hid (NB w (.slice (some a') ns.length c) mv pv ns w1.heap.size ⟨3, nu, nm, mo, it, ks⟩ (.slice ko ks.length kc) z)) (first | exact K0.out | exact KP.out _ _ (by assumption) hb4)
      ((first
        | (go_at_call 147; refine (unhide (CN _)).mono ?_; rintro e w4 ⟨v4, rfl, hv4, hb4⟩; obtain ⟨kv4, rfl, hk4⟩ := hv4)
        | (go_at_call 81; refine (unhide (CS _ _ (KK.out _ (by assumption)) hk4)).mono ?_; rintro e w4 ⟨rfl, hb4⟩)))
    all_goals (have D := hide (KD.out _ (by assumption)))
    all_goals clear CN CS K0 g0 g1 g2 g3 g4 g5
    all_goals cases ab
    all_goals
      go_wp2_with (first
        | (go_at_call 82; refine (unhide (CA _ D.out.kids)).mono ?_; rintro e w5 ⟨rfl, hb5⟩; have D := hide (D.out.stays hb5); have p0 := Lib.cell_of_heap D.out.b0 0; have p1 := Lib.cell_of_heap D.out.b0 1; have p2 := Lib.cell_of_heap D.out.b0 2; simp at p0 p1 p2; clear hb5)
        | (go_at_call 83; refine (unhide (CR _ D.out.nds)).mono ?_; rintro e w6 ⟨rfl, hb6⟩; have D := hide (D.out.stays hb6); clear hb6))
    all_goals go_ret
    all_goals exact ⟨by rw [HF2.out]; rfl, D.out.bel⟩
end Go.Proofs.YtdfahpachbhglaaGreatDoor
