/-
  Walks: a right node, by the program, kind by kind.
-/
import Derived.Test.YtdfahpachbhglaaGreatDoorImpK
namespace Go.Proofs.YtdfahpachbhglaaGreatDoor
open Go.RowKit

set_option maxRecDepth 100000 in
set_option maxHeartbeats 4000000 in
theorem nodeOk_while (nv mv pv : Value) (ns : List Nd) (k : Nat) (w : World) (hN : NdsAt w nv ns) (hR : NdsRoom w nv ns.length) (hk : k < ns.length) (hl : ns.length ≤ 1048576) (nu : Int) (nm mo it : ByteArray) (ks : List Int) (hkl : ks.length ≤ 1048576) (_hs1 : nm.size ≤ 1048576) (_hs2 : mo.size ≤ 1048576) (_hs3 : it.size ≤ 1048576) (hx : ns[k] = ⟨13, nu, nm, mo, it, ks⟩) :
    Calls Tryz.prog 58 #[.agg #[nv, mv, pv], .int .i64 (k : Int)] w fun e w' => e = .returned (.bool (progB ⟨13, nu, nm, mo, it, ks⟩ ⟨13, 0, ByteArray.empty, ByteArray.empty, ByteArray.empty, [(ks[0]?.getD (-1)), (ks[1]?.getD (-1))]⟩ k (standQ ns 1 (ks[0]?.getD (-1)) && standQ ns 3 (ks[1]?.getD (-1))))) ∧ Below w.heap.size w w' := by
  have hb1 : Below w.heap.size w (w.alloc (.cells #[nv, mv, pv] 34)) := (Below.refl _ _).alloc (Nat.le_refl _) _
  have CH := fun w h => hide (has_any nv mv pv ns (k : Int) w h)
  have e1 : inZ 0 ((ns.length : Int) - 1) (k : Int) = true := inZ_yes.2 (by omega)
  rw [e1] at CH
  have HN := hide (hN.stays hb1)
  have HR := hide (hR.stays hb1)
  have HP : Hid (Box (w.alloc (.cells #[nv, mv, pv] 34)) w.heap.size #[nv, mv, pv] 34) := Box.made w _ _
  have HB := hide hb1
  have HX := hide hx
  clear hb1 e1 hR hx
  obtain ⟨ao, c, rfl, _⟩ := hN
  have hi0 : (0 : Int) ≤ (k : Int) := by omega
  have hi1 : (k : Int) < (ns.length : Int) := by omega
  go_enter Tryz.func58, Tryz.ntmps58
  go_wp2_with fail
  refine (unhide (CH _ HN.out)).mono ?_
  rintro e w1 ⟨rfl, hb2⟩
  have HB1 := hide (HB.out.trans (hb2.mono HB.out.size))
  have HN1 := hide (HN.out.stays hb2)
  have HR1 := hide (HR.out.stays hb2)
  have HP1 := hide (HP.out.stays hb2)
  have c0 := Lib.cell_of_heap HP1.out 0
  have c1 := Lib.cell_of_heap HP1.out 1
  have c2 := Lib.cell_of_heap HP1.out 2
  clear HB HN HR HP CH
  simp at c0 c1 c2
  obtain ⟨a', c', p, kv, e5, hpa, hpb, hnode⟩ := HN1.out.node k hk
  injection e5 with e6 e7 e8
  subst e6
  have hrm : Room kv := by
    obtain ⟨ao2, c2, e2, _, h2⟩ := HR1.out
    injection e2 with e3 e4 e5
    obtain ⟨a2, kv2, e6, _, h3, h4⟩ := h2 k hk
    rw [← e3] at e6
    cases e6
    rw [hpa, hnode.c5] at h3
    cases h3
    exact h4
  rw [HX.out] at hnode
  obtain ⟨d0, d1, d2, d3, d4, d5, hkids⟩ := hnode
  dsimp only at d0 d1 d2 d3 d4 d5 hkids
  have HKI := hide hkids
  obtain ⟨ko, kc, rfl, _⟩ := hkids
  have HRM := hide hrm
  clear e7 e8 hb2 hrm
  go_wp2_with fail
  have HNB : Hid (NB w (.slice (some a') ns.length c) mv pv ns w1.heap.size ⟨13, nu, nm, mo, it, ks⟩ (.slice ko ks.length kc) (w1.alloc (.cells #[.int .i64 13, .int .i64 nu, .string nm, .string mo, .string it, .slice ko ks.length kc] 78))) := by
    have hb : Below w1.heap.size w1 (w1.alloc (.cells #[.int .i64 13, .int .i64 nu, .string nm, .string mo, .string it, .slice ko ks.length kc] 78)) := (Below.refl _ _).alloc (Nat.le_refl _) _
    exact ⟨HP1.out.stays hb, Box.made _ _ _, HB1.out.trans (hb.mono HB1.out.size), HN1.out.stays hb, HKI.out.stays hb⟩
  refine (typed_any 13 nu nm mo it (.slice ko ks.length kc) ks _ HNB.out.kids).mono ?_
  rintro e w2 ⟨rfl, hb2⟩
  have HNB2 := hide (HNB.out.stays hb2)
  clear HNB
  clear hb2 c0 c1 c2 d0 d1 d2 d3 d4 d5 HN1 HR1 HP1 HB1 HKI
  have et : typedV 13 nu nm mo it (.slice ko ks.length kc) ks = .iface 152 (.agg #[.int .i64 (ks[0]?.getD (-1)), .int .i64 (ks[1]?.getD (-1))]) := rfl
  rw [et]
  clear et
  have CN := fun w => hide (whileNode_node (ks[0]?.getD (-1)) (ks[1]?.getD (-1)) w)
  have CR := fun w h => hide (right_while (.slice (some a') ns.length c) mv pv ns w h hl (ks[0]?.getD (-1)) (ks[1]?.getD (-1)))
  have CS := fun w kv2 h1 h2 => hide (same_any ⟨13, nu, nm, mo, it, ks⟩ ⟨13, 0, ByteArray.empty, ByteArray.empty, ByteArray.empty, [(ks[0]?.getD (-1)), (ks[1]?.getD (-1))]⟩ (.slice ko ks.length kc) kv2 w h1 h2 hkl (by simp))
  have CA := fun w h => hide (kidsAhead_any 13 nu nm mo it (.slice ko ks.length kc) ks (k : Int) w h HRM.out)
  obtain ⟨sb, esb⟩ : ∃ sb, sameB ⟨13, nu, nm, mo, it, ks⟩ ⟨13, 0, ByteArray.empty, ByteArray.empty, ByteArray.empty, [(ks[0]?.getD (-1)), (ks[1]?.getD (-1))]⟩ = sb := ⟨_, rfl⟩
  obtain ⟨ab, eab⟩ : ∃ ab, aheadB ks (k : Int) = ab := ⟨_, rfl⟩
  have HF : Hid (progB ⟨13, nu, nm, mo, it, ks⟩ ⟨13, 0, ByteArray.empty, ByteArray.empty, ByteArray.empty, [(ks[0]?.getD (-1)), (ks[1]?.getD (-1))]⟩ (k : Int) (standQ ns 1 (ks[0]?.getD (-1)) && standQ ns 3 (ks[1]?.getD (-1))) = (sb && ab && (standQ ns 1 (ks[0]?.getD (-1)) && standQ ns 3 (ks[1]?.getD (-1))))) := by show _ = _; rw [progB, esb, eab]
  obtain ⟨rb, erb⟩ : ∃ rb, (standQ ns 1 (ks[0]?.getD (-1)) && standQ ns 3 (ks[1]?.getD (-1))) = rb := ⟨_, rfl⟩
  simp only [esb] at CS
  simp only [eab] at CA
  simp only [erb] at CR
  have HF2 : Hid (progB ⟨13, nu, nm, mo, it, ks⟩ ⟨13, 0, ByteArray.empty, ByteArray.empty, ByteArray.empty, [(ks[0]?.getD (-1)), (ks[1]?.getD (-1))]⟩ (k : Int) (standQ ns 1 (ks[0]?.getD (-1)) && standQ ns 3 (ks[1]?.getD (-1))) = (sb && ab && rb)) := by rw [← erb]; exact HF.out
  clear HF
  clear esb eab
  (try dsimp only at CS)
  obtain ⟨g0, g1, g2, g3, g4, g5, hh⟩ := HNB2.out.spread
  (try dsimp only at g0 g1 g2 g3 g4 g5)
  have KP : Hid (∀ z z' : World, (z.cell? ⟨w1.heap.size, 0, none⟩ = some (.int .i64 13) ∧ z.cell? ⟨w1.heap.size, 1, none⟩ = some (.int .i64 nu) ∧ z.cell? ⟨w1.heap.size, 2, none⟩ = some (.string nm) ∧ z.cell? ⟨w1.heap.size, 3, none⟩ = some (.string mo) ∧ z.cell? ⟨w1.heap.size, 4, none⟩ = some (.string it) ∧ z.cell? ⟨w1.heap.size, 5, none⟩ = some (.slice ko ks.length kc) ∧ Hid (NB w (.slice (some a') ns.length c) mv pv ns w1.heap.size ⟨13, nu, nm, mo, it, ks⟩ (.slice ko ks.length kc) z)) → Below z.heap.size z z' → (z'.cell? ⟨w1.heap.size, 0, none⟩ = some (.int .i64 13) ∧ z'.cell? ⟨w1.heap.size, 1, none⟩ = some (.int .i64 nu) ∧ z'.cell? ⟨w1.heap.size, 2, none⟩ = some (.string nm) ∧ z'.cell? ⟨w1.heap.size, 3, none⟩ = some (.string mo) ∧ z'.cell? ⟨w1.heap.size, 4, none⟩ = some (.string it) ∧ z'.cell? ⟨w1.heap.size, 5, none⟩ = some (.slice ko ks.length kc) ∧ Hid (NB w (.slice (some a') ns.length c) mv pv ns w1.heap.size ⟨13, nu, nm, mo, it, ks⟩ (.slice ko ks.length kc) z'))) := fun z z' h hb => (h.2.2.2.2.2.2.out.stays hb).spread
  have KK : Hid (∀ z : World, (z.cell? ⟨w1.heap.size, 0, none⟩ = some (.int .i64 13) ∧ z.cell? ⟨w1.heap.size, 1, none⟩ = some (.int .i64 nu) ∧ z.cell? ⟨w1.heap.size, 2, none⟩ = some (.string nm) ∧ z.cell? ⟨w1.heap.size, 3, none⟩ = some (.string mo) ∧ z.cell? ⟨w1.heap.size, 4, none⟩ = some (.string it) ∧ z.cell? ⟨w1.heap.size, 5, none⟩ = some (.slice ko ks.length kc) ∧ Hid (NB w (.slice (some a') ns.length c) mv pv ns w1.heap.size ⟨13, nu, nm, mo, it, ks⟩ (.slice ko ks.length kc) z)) → IntsAt z (.slice ko ks.length kc) ks) := fun z h => h.2.2.2.2.2.2.out.kids
  have KD : Hid (∀ z : World, (z.cell? ⟨w1.heap.size, 0, none⟩ = some (.int .i64 13) ∧ z.cell? ⟨w1.heap.size, 1, none⟩ = some (.int .i64 nu) ∧ z.cell? ⟨w1.heap.size, 2, none⟩ = some (.string nm) ∧ z.cell? ⟨w1.heap.size, 3, none⟩ = some (.string mo) ∧ z.cell? ⟨w1.heap.size, 4, none⟩ = some (.string it) ∧ z.cell? ⟨w1.heap.size, 5, none⟩ = some (.slice ko ks.length kc) ∧ Hid (NB w (.slice (some a') ns.length c) mv pv ns w1.heap.size ⟨13, nu, nm, mo, it, ks⟩ (.slice ko ks.length kc) z)) → NB w (.slice (some a') ns.length c) mv pv ns w1.heap.size ⟨13, nu, nm, mo, it, ks⟩ (.slice ko ks.length kc) z) := fun z h => h.2.2.2.2.2.2.out
  have K0 : Hid (w2.drew.cell? ⟨w1.heap.size, 0, none⟩ = some (.int .i64 13) ∧ w2.drew.cell? ⟨w1.heap.size, 1, none⟩ = some (.int .i64 nu) ∧ w2.drew.cell? ⟨w1.heap.size, 2, none⟩ = some (.string nm) ∧ w2.drew.cell? ⟨w1.heap.size, 3, none⟩ = some (.string mo) ∧ w2.drew.cell? ⟨w1.heap.size, 4, none⟩ = some (.string it) ∧ w2.drew.cell? ⟨w1.heap.size, 5, none⟩ = some (.slice ko ks.length kc) ∧ Hid (NB w (.slice (some a') ns.length c) mv pv ns w1.heap.size ⟨13, nu, nm, mo, it, ks⟩ (.slice ko ks.length kc) w2.drew)) := (HNB2.out.stays (Below.refl _ _).drew).spread
  clear erb
  cases sb with
  | false =>
    go_wp2_with fail
    go_region_held3 (fun z => z.cell? ⟨w1.heap.size, 0, none⟩ = some (.int .i64 13) ∧ z.cell? ⟨w1.heap.size, 1, none⟩ = some (.int .i64 nu) ∧ z.cell? ⟨w1.heap.size, 2, none⟩ = some (.string nm) ∧ z.cell? ⟨w1.heap.size, 3, none⟩ = some (.string mo) ∧ z.cell? ⟨w1.heap.size, 4, none⟩ = some (.string it) ∧ z.cell? ⟨w1.heap.size, 5, none⟩ = some (.slice ko ks.length kc) ∧ Hid (NB w (.slice (some a') ns.length c) mv pv ns w1.heap.size ⟨13, nu, nm, mo, it, ks⟩ (.slice ko ks.length kc) z)) (first | exact K0.out | exact KP.out _ _ (by assumption) hb4)
      ((first
        | (go_at_call 152; refine (unhide (CN _)).mono ?_; rintro e w4 ⟨v4, rfl, hv4, hb4⟩; obtain ⟨kv4, rfl, hk4⟩ := hv4)
        | (go_at_call 81; refine (unhide (CS _ _ (KK.out _ (by assumption)) hk4)).mono ?_; rintro e w4 ⟨rfl, hb4⟩)))
    all_goals (have D := hide (KD.out _ (by assumption)))
    all_goals go_wp2
    all_goals go_ret
    all_goals exact ⟨by rw [HF2.out]; rfl, D.out.bel⟩
  | true =>
    go_wp2_with fail
    go_region_held3 (fun z => z.cell? ⟨w1.heap.size, 0, none⟩ = some (.int .i64 13) ∧ z.cell? ⟨w1.heap.size, 1, none⟩ = some (.int .i64 nu) ∧ z.cell? ⟨w1.heap.size, 2, none⟩ = some (.string nm) ∧ z.cell? ⟨w1.heap.size, 3, none⟩ = some (.string mo) ∧ z.cell? ⟨w1.heap.size, 4, none⟩ = some (.string it) ∧ z.cell? ⟨w1.heap.size, 5, none⟩ = some (.slice ko ks.length kc) ∧ Hid (NB w (.slice (some a') ns.length c) mv pv ns w1.heap.size ⟨13, nu, nm, mo, it, ks⟩ (.slice ko ks.length kc) z)) (first | exact K0.out | exact KP.out _ _ (by assumption) hb4)
      ((first
        | (go_at_call 152; refine (unhide (CN _)).mono ?_; rintro e w4 ⟨v4, rfl, hv4, hb4⟩; obtain ⟨kv4, rfl, hk4⟩ := hv4)
        | (go_at_call 81; refine (unhide (CS _ _ (KK.out _ (by assumption)) hk4)).mono ?_; rintro e w4 ⟨rfl, hb4⟩)))
    all_goals (have D := hide (KD.out _ (by assumption)))
    all_goals clear CN CS K0 g0 g1 g2 g3 g4 g5
    all_goals cases ab
    all_goals
      go_wp2_with (first
        | (go_at_call 82; refine (unhide (CA _ D.out.kids)).mono ?_; rintro e w5 ⟨rfl, hb5⟩; have D := hide (D.out.stays hb5); have p0 := Lib.cell_of_heap D.out.b0 0; have p1 := Lib.cell_of_heap D.out.b0 1; have p2 := Lib.cell_of_heap D.out.b0 2; simp at p0 p1 p2; clear hb5)
        | (go_at_call 83; refine (unhide (CR _ D.out.nds)).mono ?_; rintro e w6 ⟨rfl, hb6⟩; have D := hide (D.out.stays hb6); clear hb6))
    all_goals go_ret
    all_goals exact ⟨by rw [HF2.out]; rfl, D.out.bel⟩
set_option maxRecDepth 100000 in
set_option maxHeartbeats 4000000 in
theorem nodeOk_call (nv mv pv : Value) (ns : List Nd) (k : Nat) (w : World) (hN : NdsAt w nv ns) (hR : NdsRoom w nv ns.length) (hk : k < ns.length) (hl : ns.length ≤ 1048576) (nu : Int) (nm mo it : ByteArray) (ks : List Int) (hkl : ks.length ≤ 1048576) (hs1 : nm.size ≤ 1048576) (hs2 : mo.size ≤ 1048576) (hs3 : it.size ≤ 1048576) (hx : ns[k] = ⟨14, nu, nm, mo, it, ks⟩) :
    Calls Tryz.prog 58 #[.agg #[nv, mv, pv], .int .i64 (k : Int)] w fun e w' => e = .returned (.bool (progB ⟨14, nu, nm, mo, it, ks⟩ ⟨14, 0, nm, mo, it, [(ks[0]?.getD (-1))]⟩ k (nameB nm && nameB mo && (it.toList.isEmpty || nameB it) && standQ ns 1 (ks[0]?.getD (-1))))) ∧ Below w.heap.size w w' := by
  have hb1 : Below w.heap.size w (w.alloc (.cells #[nv, mv, pv] 34)) := (Below.refl _ _).alloc (Nat.le_refl _) _
  have CH := fun w h => hide (has_any nv mv pv ns (k : Int) w h)
  have e1 : inZ 0 ((ns.length : Int) - 1) (k : Int) = true := inZ_yes.2 (by omega)
  rw [e1] at CH
  have HN := hide (hN.stays hb1)
  have HR := hide (hR.stays hb1)
  have HP : Hid (Box (w.alloc (.cells #[nv, mv, pv] 34)) w.heap.size #[nv, mv, pv] 34) := Box.made w _ _
  have HB := hide hb1
  have HX := hide hx
  clear hb1 e1 hR hx
  obtain ⟨ao, c, rfl, _⟩ := hN
  have hi0 : (0 : Int) ≤ (k : Int) := by omega
  have hi1 : (k : Int) < (ns.length : Int) := by omega
  go_enter Tryz.func58, Tryz.ntmps58
  go_wp2_with fail
  refine (unhide (CH _ HN.out)).mono ?_
  rintro e w1 ⟨rfl, hb2⟩
  have HB1 := hide (HB.out.trans (hb2.mono HB.out.size))
  have HN1 := hide (HN.out.stays hb2)
  have HR1 := hide (HR.out.stays hb2)
  have HP1 := hide (HP.out.stays hb2)
  have c0 := Lib.cell_of_heap HP1.out 0
  have c1 := Lib.cell_of_heap HP1.out 1
  have c2 := Lib.cell_of_heap HP1.out 2
  clear HB HN HR HP CH
  simp at c0 c1 c2
  obtain ⟨a', c', p, kv, e5, hpa, hpb, hnode⟩ := HN1.out.node k hk
  injection e5 with e6 e7 e8
  subst e6
  have hrm : Room kv := by
    obtain ⟨ao2, c2, e2, _, h2⟩ := HR1.out
    injection e2 with e3 e4 e5
    obtain ⟨a2, kv2, e6, _, h3, h4⟩ := h2 k hk
    rw [← e3] at e6
    cases e6
    rw [hpa, hnode.c5] at h3
    cases h3
    exact h4
  rw [HX.out] at hnode
  obtain ⟨d0, d1, d2, d3, d4, d5, hkids⟩ := hnode
  dsimp only at d0 d1 d2 d3 d4 d5 hkids
  have HKI := hide hkids
  obtain ⟨ko, kc, rfl, _⟩ := hkids
  have HRM := hide hrm
  clear e7 e8 hb2 hrm
  go_wp2_with fail
  have HNB : Hid (NB w (.slice (some a') ns.length c) mv pv ns w1.heap.size ⟨14, nu, nm, mo, it, ks⟩ (.slice ko ks.length kc) (w1.alloc (.cells #[.int .i64 14, .int .i64 nu, .string nm, .string mo, .string it, .slice ko ks.length kc] 78))) := by
    have hb : Below w1.heap.size w1 (w1.alloc (.cells #[.int .i64 14, .int .i64 nu, .string nm, .string mo, .string it, .slice ko ks.length kc] 78)) := (Below.refl _ _).alloc (Nat.le_refl _) _
    exact ⟨HP1.out.stays hb, Box.made _ _ _, HB1.out.trans (hb.mono HB1.out.size), HN1.out.stays hb, HKI.out.stays hb⟩
  refine (typed_any 14 nu nm mo it (.slice ko ks.length kc) ks _ HNB.out.kids).mono ?_
  rintro e w2 ⟨rfl, hb2⟩
  have HNB2 := hide (HNB.out.stays hb2)
  clear HNB
  clear hb2 c0 c1 c2 d0 d1 d2 d3 d4 d5 HN1 HR1 HP1 HB1 HKI
  have et : typedV 14 nu nm mo it (.slice ko ks.length kc) ks = .iface 154 (.agg #[.string nm, .string mo, .string it, .int .i64 (ks[0]?.getD (-1))]) := rfl
  rw [et]
  clear et
  have CN := fun w => hide (callNode_node nm mo it (ks[0]?.getD (-1)) w)
  have CR := fun w h => hide (right_call (.slice (some a') ns.length c) mv pv ns w h hl nm mo it hs1 hs2 hs3 (ks[0]?.getD (-1)))
  have CS := fun w kv2 h1 h2 => hide (same_any ⟨14, nu, nm, mo, it, ks⟩ ⟨14, 0, nm, mo, it, [(ks[0]?.getD (-1))]⟩ (.slice ko ks.length kc) kv2 w h1 h2 hkl (by simp))
  have CA := fun w h => hide (kidsAhead_any 14 nu nm mo it (.slice ko ks.length kc) ks (k : Int) w h HRM.out)
  obtain ⟨sb, esb⟩ : ∃ sb, sameB ⟨14, nu, nm, mo, it, ks⟩ ⟨14, 0, nm, mo, it, [(ks[0]?.getD (-1))]⟩ = sb := ⟨_, rfl⟩
  obtain ⟨ab, eab⟩ : ∃ ab, aheadB ks (k : Int) = ab := ⟨_, rfl⟩
  have HF : Hid (progB ⟨14, nu, nm, mo, it, ks⟩ ⟨14, 0, nm, mo, it, [(ks[0]?.getD (-1))]⟩ (k : Int) (nameB nm && nameB mo && (it.toList.isEmpty || nameB it) && standQ ns 1 (ks[0]?.getD (-1))) = (sb && ab && (nameB nm && nameB mo && (it.toList.isEmpty || nameB it) && standQ ns 1 (ks[0]?.getD (-1))))) := by show _ = _; rw [progB, esb, eab]
  obtain ⟨rb, erb⟩ : ∃ rb, (nameB nm && nameB mo && (it.toList.isEmpty || nameB it) && standQ ns 1 (ks[0]?.getD (-1))) = rb := ⟨_, rfl⟩
  simp only [esb] at CS
  simp only [eab] at CA
  simp only [erb] at CR
  have HF2 : Hid (progB ⟨14, nu, nm, mo, it, ks⟩ ⟨14, 0, nm, mo, it, [(ks[0]?.getD (-1))]⟩ (k : Int) (nameB nm && nameB mo && (it.toList.isEmpty || nameB it) && standQ ns 1 (ks[0]?.getD (-1))) = (sb && ab && rb)) := by rw [← erb]; exact HF.out
  clear HF
  clear esb eab
  (try dsimp only at CS)
  obtain ⟨g0, g1, g2, g3, g4, g5, hh⟩ := HNB2.out.spread
  (try dsimp only at g0 g1 g2 g3 g4 g5)
  have KP : Hid (∀ z z' : World, (z.cell? ⟨w1.heap.size, 0, none⟩ = some (.int .i64 14) ∧ z.cell? ⟨w1.heap.size, 1, none⟩ = some (.int .i64 nu) ∧ z.cell? ⟨w1.heap.size, 2, none⟩ = some (.string nm) ∧ z.cell? ⟨w1.heap.size, 3, none⟩ = some (.string mo) ∧ z.cell? ⟨w1.heap.size, 4, none⟩ = some (.string it) ∧ z.cell? ⟨w1.heap.size, 5, none⟩ = some (.slice ko ks.length kc) ∧ Hid (NB w (.slice (some a') ns.length c) mv pv ns w1.heap.size ⟨14, nu, nm, mo, it, ks⟩ (.slice ko ks.length kc) z)) → Below z.heap.size z z' → (z'.cell? ⟨w1.heap.size, 0, none⟩ = some (.int .i64 14) ∧ z'.cell? ⟨w1.heap.size, 1, none⟩ = some (.int .i64 nu) ∧ z'.cell? ⟨w1.heap.size, 2, none⟩ = some (.string nm) ∧ z'.cell? ⟨w1.heap.size, 3, none⟩ = some (.string mo) ∧ z'.cell? ⟨w1.heap.size, 4, none⟩ = some (.string it) ∧ z'.cell? ⟨w1.heap.size, 5, none⟩ = some (.slice ko ks.length kc) ∧ Hid (NB w (.slice (some a') ns.length c) mv pv ns w1.heap.size ⟨14, nu, nm, mo, it, ks⟩ (.slice ko ks.length kc) z'))) := fun z z' h hb => (h.2.2.2.2.2.2.out.stays hb).spread
  have KK : Hid (∀ z : World, (z.cell? ⟨w1.heap.size, 0, none⟩ = some (.int .i64 14) ∧ z.cell? ⟨w1.heap.size, 1, none⟩ = some (.int .i64 nu) ∧ z.cell? ⟨w1.heap.size, 2, none⟩ = some (.string nm) ∧ z.cell? ⟨w1.heap.size, 3, none⟩ = some (.string mo) ∧ z.cell? ⟨w1.heap.size, 4, none⟩ = some (.string it) ∧ z.cell? ⟨w1.heap.size, 5, none⟩ = some (.slice ko ks.length kc) ∧ Hid (NB w (.slice (some a') ns.length c) mv pv ns w1.heap.size ⟨14, nu, nm, mo, it, ks⟩ (.slice ko ks.length kc) z)) → IntsAt z (.slice ko ks.length kc) ks) := fun z h => h.2.2.2.2.2.2.out.kids
  have KD : Hid (∀ z : World, (z.cell? ⟨w1.heap.size, 0, none⟩ = some (.int .i64 14) ∧ z.cell? ⟨w1.heap.size, 1, none⟩ = some (.int .i64 nu) ∧ z.cell? ⟨w1.heap.size, 2, none⟩ = some (.string nm) ∧ z.cell? ⟨w1.heap.size, 3, none⟩ = some (.string mo) ∧ z.cell? ⟨w1.heap.size, 4, none⟩ = some (.string it) ∧ z.cell? ⟨w1.heap.size, 5, none⟩ = some (.slice ko ks.length kc) ∧ Hid (NB w (.slice (some a') ns.length c) mv pv ns w1.heap.size ⟨14, nu, nm, mo, it, ks⟩ (.slice ko ks.length kc) z)) → NB w (.slice (some a') ns.length c) mv pv ns w1.heap.size ⟨14, nu, nm, mo, it, ks⟩ (.slice ko ks.length kc) z) := fun z h => h.2.2.2.2.2.2.out
  have K0 : Hid (w2.drew.cell? ⟨w1.heap.size, 0, none⟩ = some (.int .i64 14) ∧ w2.drew.cell? ⟨w1.heap.size, 1, none⟩ = some (.int .i64 nu) ∧ w2.drew.cell? ⟨w1.heap.size, 2, none⟩ = some (.string nm) ∧ w2.drew.cell? ⟨w1.heap.size, 3, none⟩ = some (.string mo) ∧ w2.drew.cell? ⟨w1.heap.size, 4, none⟩ = some (.string it) ∧ w2.drew.cell? ⟨w1.heap.size, 5, none⟩ = some (.slice ko ks.length kc) ∧ Hid (NB w (.slice (some a') ns.length c) mv pv ns w1.heap.size ⟨14, nu, nm, mo, it, ks⟩ (.slice ko ks.length kc) w2.drew)) := (HNB2.out.stays (Below.refl _ _).drew).spread
  clear erb
  cases sb with
  | false =>
    go_wp2_with fail
    go_region_held3 (fun z => z.cell? ⟨w1.heap.size, 0, none⟩ = some (.int .i64 14) ∧ z.cell? ⟨w1.heap.size, 1, none⟩ = some (.int .i64 nu) ∧ z.cell? ⟨w1.heap.size, 2, none⟩ = some (.string nm) ∧ z.cell? ⟨w1.heap.size, 3, none⟩ = some (.string mo) ∧ z.cell? ⟨w1.heap.size, 4, none⟩ = some (.string it) ∧ z.cell? ⟨w1.heap.size, 5, none⟩ = some (.slice ko ks.length kc) ∧ Hid (NB w (.slice (some a') ns.length c) mv pv ns w1.heap.size ⟨14, nu, nm, mo, it, ks⟩ (.slice ko ks.length kc) z)) (first | exact K0.out | exact KP.out _ _ (by assumption) hb4)
      ((first
        | (go_at_call 153; refine (unhide (CN _)).mono ?_; rintro e w4 ⟨v4, rfl, hv4, hb4⟩; obtain ⟨kv4, rfl, hk4⟩ := hv4)
        | (go_at_call 81; refine (unhide (CS _ _ (KK.out _ (by assumption)) hk4)).mono ?_; rintro e w4 ⟨rfl, hb4⟩)))
    all_goals (have D := hide (KD.out _ (by assumption)))
    all_goals go_wp2
    all_goals go_ret
    all_goals exact ⟨by rw [HF2.out]; rfl, D.out.bel⟩
  | true =>
    go_wp2_with fail
    go_region_held3 (fun z => z.cell? ⟨w1.heap.size, 0, none⟩ = some (.int .i64 14) ∧ z.cell? ⟨w1.heap.size, 1, none⟩ = some (.int .i64 nu) ∧ z.cell? ⟨w1.heap.size, 2, none⟩ = some (.string nm) ∧ z.cell? ⟨w1.heap.size, 3, none⟩ = some (.string mo) ∧ z.cell? ⟨w1.heap.size, 4, none⟩ = some (.string it) ∧ z.cell? ⟨w1.heap.size, 5, none⟩ = some (.slice ko ks.length kc) ∧ Hid (NB w (.slice (some a') ns.length c) mv pv ns w1.heap.size ⟨14, nu, nm, mo, it, ks⟩ (.slice ko ks.length kc) z)) (first | exact K0.out | exact KP.out _ _ (by assumption) hb4)
      ((first
        | (go_at_call 153; refine (unhide (CN _)).mono ?_; rintro e w4 ⟨v4, rfl, hv4, hb4⟩; obtain ⟨kv4, rfl, hk4⟩ := hv4)
        | (go_at_call 81; refine (unhide (CS _ _ (KK.out _ (by assumption)) hk4)).mono ?_; rintro e w4 ⟨rfl, hb4⟩)))
    all_goals (have D := hide (KD.out _ (by assumption)))
    all_goals clear CN CS K0 g0 g1 g2 g3 g4 g5
    all_goals cases ab
    all_goals
      go_wp2_with (first
        | (go_at_call 82; refine (unhide (CA _ D.out.kids)).mono ?_; rintro e w5 ⟨rfl, hb5⟩; have D := hide (D.out.stays hb5); have p0 := Lib.cell_of_heap D.out.b0 0; have p1 := Lib.cell_of_heap D.out.b0 1; have p2 := Lib.cell_of_heap D.out.b0 2; simp at p0 p1 p2; clear hb5)
        | (go_at_call 83; refine (unhide (CR _ D.out.nds)).mono ?_; rintro e w6 ⟨rfl, hb6⟩; have D := hide (D.out.stays hb6); clear hb6))
    all_goals go_ret
    all_goals exact ⟨by rw [HF2.out]; rfl, D.out.bel⟩
set_option maxRecDepth 100000 in
set_option maxHeartbeats 4000000 in
theorem nodeOk_print (nv mv pv : Value) (ns : List Nd) (k : Nat) (w : World) (hN : NdsAt w nv ns) (hR : NdsRoom w nv ns.length) (hk : k < ns.length) (hl : ns.length ≤ 1048576) (nu : Int) (nm mo it : ByteArray) (ks : List Int) (hkl : ks.length ≤ 1048576) (_hs1 : nm.size ≤ 1048576) (_hs2 : mo.size ≤ 1048576) (_hs3 : it.size ≤ 1048576) (hx : ns[k] = ⟨15, nu, nm, mo, it, ks⟩) :
    Calls Tryz.prog 58 #[.agg #[nv, mv, pv], .int .i64 (k : Int)] w fun e w' => e = .returned (.bool (progB ⟨15, nu, nm, mo, it, ks⟩ ⟨15, 0, ByteArray.empty, ByteArray.empty, ByteArray.empty, [(ks[0]?.getD (-1))]⟩ k (standQ ns 1 (ks[0]?.getD (-1))))) ∧ Below w.heap.size w w' := by
  have hb1 : Below w.heap.size w (w.alloc (.cells #[nv, mv, pv] 34)) := (Below.refl _ _).alloc (Nat.le_refl _) _
  have CH := fun w h => hide (has_any nv mv pv ns (k : Int) w h)
  have e1 : inZ 0 ((ns.length : Int) - 1) (k : Int) = true := inZ_yes.2 (by omega)
  rw [e1] at CH
  have HN := hide (hN.stays hb1)
  have HR := hide (hR.stays hb1)
  have HP : Hid (Box (w.alloc (.cells #[nv, mv, pv] 34)) w.heap.size #[nv, mv, pv] 34) := Box.made w _ _
  have HB := hide hb1
  have HX := hide hx
  clear hb1 e1 hR hx
  obtain ⟨ao, c, rfl, _⟩ := hN
  have hi0 : (0 : Int) ≤ (k : Int) := by omega
  have hi1 : (k : Int) < (ns.length : Int) := by omega
  go_enter Tryz.func58, Tryz.ntmps58
  go_wp2_with fail
  refine (unhide (CH _ HN.out)).mono ?_
  rintro e w1 ⟨rfl, hb2⟩
  have HB1 := hide (HB.out.trans (hb2.mono HB.out.size))
  have HN1 := hide (HN.out.stays hb2)
  have HR1 := hide (HR.out.stays hb2)
  have HP1 := hide (HP.out.stays hb2)
  have c0 := Lib.cell_of_heap HP1.out 0
  have c1 := Lib.cell_of_heap HP1.out 1
  have c2 := Lib.cell_of_heap HP1.out 2
  clear HB HN HR HP CH
  simp at c0 c1 c2
  obtain ⟨a', c', p, kv, e5, hpa, hpb, hnode⟩ := HN1.out.node k hk
  injection e5 with e6 e7 e8
  subst e6
  have hrm : Room kv := by
    obtain ⟨ao2, c2, e2, _, h2⟩ := HR1.out
    injection e2 with e3 e4 e5
    obtain ⟨a2, kv2, e6, _, h3, h4⟩ := h2 k hk
    rw [← e3] at e6
    cases e6
    rw [hpa, hnode.c5] at h3
    cases h3
    exact h4
  rw [HX.out] at hnode
  obtain ⟨d0, d1, d2, d3, d4, d5, hkids⟩ := hnode
  dsimp only at d0 d1 d2 d3 d4 d5 hkids
  have HKI := hide hkids
  obtain ⟨ko, kc, rfl, _⟩ := hkids
  have HRM := hide hrm
  clear e7 e8 hb2 hrm
  go_wp2_with fail
  have HNB : Hid (NB w (.slice (some a') ns.length c) mv pv ns w1.heap.size ⟨15, nu, nm, mo, it, ks⟩ (.slice ko ks.length kc) (w1.alloc (.cells #[.int .i64 15, .int .i64 nu, .string nm, .string mo, .string it, .slice ko ks.length kc] 78))) := by
    have hb : Below w1.heap.size w1 (w1.alloc (.cells #[.int .i64 15, .int .i64 nu, .string nm, .string mo, .string it, .slice ko ks.length kc] 78)) := (Below.refl _ _).alloc (Nat.le_refl _) _
    exact ⟨HP1.out.stays hb, Box.made _ _ _, HB1.out.trans (hb.mono HB1.out.size), HN1.out.stays hb, HKI.out.stays hb⟩
  refine (typed_any 15 nu nm mo it (.slice ko ks.length kc) ks _ HNB.out.kids).mono ?_
  rintro e w2 ⟨rfl, hb2⟩
  have HNB2 := hide (HNB.out.stays hb2)
  clear HNB
  clear hb2 c0 c1 c2 d0 d1 d2 d3 d4 d5 HN1 HR1 HP1 HB1 HKI
  have et : typedV 15 nu nm mo it (.slice ko ks.length kc) ks = .iface 156 (.agg #[.int .i64 (ks[0]?.getD (-1))]) := rfl
  rw [et]
  clear et
  have CN := fun w => hide (printNode_node (ks[0]?.getD (-1)) w)
  have CR := fun w h => hide (right_print (.slice (some a') ns.length c) mv pv ns w h hl (ks[0]?.getD (-1)))
  have CS := fun w kv2 h1 h2 => hide (same_any ⟨15, nu, nm, mo, it, ks⟩ ⟨15, 0, ByteArray.empty, ByteArray.empty, ByteArray.empty, [(ks[0]?.getD (-1))]⟩ (.slice ko ks.length kc) kv2 w h1 h2 hkl (by simp))
  have CA := fun w h => hide (kidsAhead_any 15 nu nm mo it (.slice ko ks.length kc) ks (k : Int) w h HRM.out)
  obtain ⟨sb, esb⟩ : ∃ sb, sameB ⟨15, nu, nm, mo, it, ks⟩ ⟨15, 0, ByteArray.empty, ByteArray.empty, ByteArray.empty, [(ks[0]?.getD (-1))]⟩ = sb := ⟨_, rfl⟩
  obtain ⟨ab, eab⟩ : ∃ ab, aheadB ks (k : Int) = ab := ⟨_, rfl⟩
  have HF : Hid (progB ⟨15, nu, nm, mo, it, ks⟩ ⟨15, 0, ByteArray.empty, ByteArray.empty, ByteArray.empty, [(ks[0]?.getD (-1))]⟩ (k : Int) (standQ ns 1 (ks[0]?.getD (-1))) = (sb && ab && (standQ ns 1 (ks[0]?.getD (-1))))) := by show _ = _; rw [progB, esb, eab]
  obtain ⟨rb, erb⟩ : ∃ rb, (standQ ns 1 (ks[0]?.getD (-1))) = rb := ⟨_, rfl⟩
  simp only [esb] at CS
  simp only [eab] at CA
  simp only [erb] at CR
  have HF2 : Hid (progB ⟨15, nu, nm, mo, it, ks⟩ ⟨15, 0, ByteArray.empty, ByteArray.empty, ByteArray.empty, [(ks[0]?.getD (-1))]⟩ (k : Int) (standQ ns 1 (ks[0]?.getD (-1))) = (sb && ab && rb)) := by rw [← erb]; exact HF.out
  clear HF
  clear esb eab
  (try dsimp only at CS)
  obtain ⟨g0, g1, g2, g3, g4, g5, hh⟩ := HNB2.out.spread
  (try dsimp only at g0 g1 g2 g3 g4 g5)
  have KP : Hid (∀ z z' : World, (z.cell? ⟨w1.heap.size, 0, none⟩ = some (.int .i64 15) ∧ z.cell? ⟨w1.heap.size, 1, none⟩ = some (.int .i64 nu) ∧ z.cell? ⟨w1.heap.size, 2, none⟩ = some (.string nm) ∧ z.cell? ⟨w1.heap.size, 3, none⟩ = some (.string mo) ∧ z.cell? ⟨w1.heap.size, 4, none⟩ = some (.string it) ∧ z.cell? ⟨w1.heap.size, 5, none⟩ = some (.slice ko ks.length kc) ∧ Hid (NB w (.slice (some a') ns.length c) mv pv ns w1.heap.size ⟨15, nu, nm, mo, it, ks⟩ (.slice ko ks.length kc) z)) → Below z.heap.size z z' → (z'.cell? ⟨w1.heap.size, 0, none⟩ = some (.int .i64 15) ∧ z'.cell? ⟨w1.heap.size, 1, none⟩ = some (.int .i64 nu) ∧ z'.cell? ⟨w1.heap.size, 2, none⟩ = some (.string nm) ∧ z'.cell? ⟨w1.heap.size, 3, none⟩ = some (.string mo) ∧ z'.cell? ⟨w1.heap.size, 4, none⟩ = some (.string it) ∧ z'.cell? ⟨w1.heap.size, 5, none⟩ = some (.slice ko ks.length kc) ∧ Hid (NB w (.slice (some a') ns.length c) mv pv ns w1.heap.size ⟨15, nu, nm, mo, it, ks⟩ (.slice ko ks.length kc) z'))) := fun z z' h hb => (h.2.2.2.2.2.2.out.stays hb).spread
  have KK : Hid (∀ z : World, (z.cell? ⟨w1.heap.size, 0, none⟩ = some (.int .i64 15) ∧ z.cell? ⟨w1.heap.size, 1, none⟩ = some (.int .i64 nu) ∧ z.cell? ⟨w1.heap.size, 2, none⟩ = some (.string nm) ∧ z.cell? ⟨w1.heap.size, 3, none⟩ = some (.string mo) ∧ z.cell? ⟨w1.heap.size, 4, none⟩ = some (.string it) ∧ z.cell? ⟨w1.heap.size, 5, none⟩ = some (.slice ko ks.length kc) ∧ Hid (NB w (.slice (some a') ns.length c) mv pv ns w1.heap.size ⟨15, nu, nm, mo, it, ks⟩ (.slice ko ks.length kc) z)) → IntsAt z (.slice ko ks.length kc) ks) := fun z h => h.2.2.2.2.2.2.out.kids
  have KD : Hid (∀ z : World, (z.cell? ⟨w1.heap.size, 0, none⟩ = some (.int .i64 15) ∧ z.cell? ⟨w1.heap.size, 1, none⟩ = some (.int .i64 nu) ∧ z.cell? ⟨w1.heap.size, 2, none⟩ = some (.string nm) ∧ z.cell? ⟨w1.heap.size, 3, none⟩ = some (.string mo) ∧ z.cell? ⟨w1.heap.size, 4, none⟩ = some (.string it) ∧ z.cell? ⟨w1.heap.size, 5, none⟩ = some (.slice ko ks.length kc) ∧ Hid (NB w (.slice (some a') ns.length c) mv pv ns w1.heap.size ⟨15, nu, nm, mo, it, ks⟩ (.slice ko ks.length kc) z)) → NB w (.slice (some a') ns.length c) mv pv ns w1.heap.size ⟨15, nu, nm, mo, it, ks⟩ (.slice ko ks.length kc) z) := fun z h => h.2.2.2.2.2.2.out
  have K0 : Hid (w2.drew.cell? ⟨w1.heap.size, 0, none⟩ = some (.int .i64 15) ∧ w2.drew.cell? ⟨w1.heap.size, 1, none⟩ = some (.int .i64 nu) ∧ w2.drew.cell? ⟨w1.heap.size, 2, none⟩ = some (.string nm) ∧ w2.drew.cell? ⟨w1.heap.size, 3, none⟩ = some (.string mo) ∧ w2.drew.cell? ⟨w1.heap.size, 4, none⟩ = some (.string it) ∧ w2.drew.cell? ⟨w1.heap.size, 5, none⟩ = some (.slice ko ks.length kc) ∧ Hid (NB w (.slice (some a') ns.length c) mv pv ns w1.heap.size ⟨15, nu, nm, mo, it, ks⟩ (.slice ko ks.length kc) w2.drew)) := (HNB2.out.stays (Below.refl _ _).drew).spread
  clear erb
  cases sb with
  | false =>
    go_wp2_with fail
    go_region_held3 (fun z => z.cell? ⟨w1.heap.size, 0, none⟩ = some (.int .i64 15) ∧ z.cell? ⟨w1.heap.size, 1, none⟩ = some (.int .i64 nu) ∧ z.cell? ⟨w1.heap.size, 2, none⟩ = some (.string nm) ∧ z.cell? ⟨w1.heap.size, 3, none⟩ = some (.string mo) ∧ z.cell? ⟨w1.heap.size, 4, none⟩ = some (.string it) ∧ z.cell? ⟨w1.heap.size, 5, none⟩ = some (.slice ko ks.length kc) ∧ Hid (NB w (.slice (some a') ns.length c) mv pv ns w1.heap.size ⟨15, nu, nm, mo, it, ks⟩ (.slice ko ks.length kc) z)) (first | exact K0.out | exact KP.out _ _ (by assumption) hb4)
      ((first
        | (go_at_call 154; refine (unhide (CN _)).mono ?_; rintro e w4 ⟨v4, rfl, hv4, hb4⟩; obtain ⟨kv4, rfl, hk4⟩ := hv4)
        | (go_at_call 81; refine (unhide (CS _ _ (KK.out _ (by assumption)) hk4)).mono ?_; rintro e w4 ⟨rfl, hb4⟩)))
    all_goals (have D := hide (KD.out _ (by assumption)))
    all_goals go_wp2
    all_goals go_ret
    all_goals exact ⟨by rw [HF2.out]; rfl, D.out.bel⟩
  | true =>
    go_wp2_with fail
    go_region_held3 (fun z => z.cell? ⟨w1.heap.size, 0, none⟩ = some (.int .i64 15) ∧ z.cell? ⟨w1.heap.size, 1, none⟩ = some (.int .i64 nu) ∧ z.cell? ⟨w1.heap.size, 2, none⟩ = some (.string nm) ∧ z.cell? ⟨w1.heap.size, 3, none⟩ = some (.string mo) ∧ z.cell? ⟨w1.heap.size, 4, none⟩ = some (.string it) ∧ z.cell? ⟨w1.heap.size, 5, none⟩ = some (.slice ko ks.length kc) ∧ Hid (NB w (.slice (some a') ns.length c) mv pv ns w1.heap.size ⟨15, nu, nm, mo, it, ks⟩ (.slice ko ks.length kc) z)) (first | exact K0.out | exact KP.out _ _ (by assumption) hb4)
      ((first
        | (go_at_call 154; refine (unhide (CN _)).mono ?_; rintro e w4 ⟨v4, rfl, hv4, hb4⟩; obtain ⟨kv4, rfl, hk4⟩ := hv4)
        | (go_at_call 81; refine (unhide (CS _ _ (KK.out _ (by assumption)) hk4)).mono ?_; rintro e w4 ⟨rfl, hb4⟩)))
    all_goals (have D := hide (KD.out _ (by assumption)))
    all_goals clear CN CS K0 g0 g1 g2 g3 g4 g5
    all_goals cases ab
    all_goals
      go_wp2_with (first
        | (go_at_call 82; refine (unhide (CA _ D.out.kids)).mono ?_; rintro e w5 ⟨rfl, hb5⟩; have D := hide (D.out.stays hb5); have p0 := Lib.cell_of_heap D.out.b0 0; have p1 := Lib.cell_of_heap D.out.b0 1; have p2 := Lib.cell_of_heap D.out.b0 2; simp at p0 p1 p2; clear hb5)
        | (go_at_call 83; refine (unhide (CR _ D.out.nds)).mono ?_; rintro e w6 ⟨rfl, hb6⟩; have D := hide (D.out.stays hb6); clear hb6))
    all_goals go_ret
    all_goals exact ⟨by rw [HF2.out]; rfl, D.out.bel⟩
set_option maxRecDepth 100000 in
set_option maxHeartbeats 4000000 in
theorem nodeOk_read (nv mv pv : Value) (ns : List Nd) (k : Nat) (w : World) (hN : NdsAt w nv ns) (hR : NdsRoom w nv ns.length) (hk : k < ns.length) (hl : ns.length ≤ 1048576) (nu : Int) (nm mo it : ByteArray) (ks : List Int) (hkl : ks.length ≤ 1048576) (hs1 : nm.size ≤ 1048576) (_hs2 : mo.size ≤ 1048576) (_hs3 : it.size ≤ 1048576) (hx : ns[k] = ⟨16, nu, nm, mo, it, ks⟩) :
    Calls Tryz.prog 58 #[.agg #[nv, mv, pv], .int .i64 (k : Int)] w fun e w' => e = .returned (.bool (progB ⟨16, nu, nm, mo, it, ks⟩ ⟨16, 0, nm, ByteArray.empty, ByteArray.empty, []⟩ k (nameB nm))) ∧ Below w.heap.size w w' := by
  have hb1 : Below w.heap.size w (w.alloc (.cells #[nv, mv, pv] 34)) := (Below.refl _ _).alloc (Nat.le_refl _) _
  have CH := fun w h => hide (has_any nv mv pv ns (k : Int) w h)
  have e1 : inZ 0 ((ns.length : Int) - 1) (k : Int) = true := inZ_yes.2 (by omega)
  rw [e1] at CH
  have HN := hide (hN.stays hb1)
  have HR := hide (hR.stays hb1)
  have HP : Hid (Box (w.alloc (.cells #[nv, mv, pv] 34)) w.heap.size #[nv, mv, pv] 34) := Box.made w _ _
  have HB := hide hb1
  have HX := hide hx
  clear hb1 e1 hR hx
  obtain ⟨ao, c, rfl, _⟩ := hN
  have hi0 : (0 : Int) ≤ (k : Int) := by omega
  have hi1 : (k : Int) < (ns.length : Int) := by omega
  go_enter Tryz.func58, Tryz.ntmps58
  go_wp2_with fail
  refine (unhide (CH _ HN.out)).mono ?_
  rintro e w1 ⟨rfl, hb2⟩
  have HB1 := hide (HB.out.trans (hb2.mono HB.out.size))
  have HN1 := hide (HN.out.stays hb2)
  have HR1 := hide (HR.out.stays hb2)
  have HP1 := hide (HP.out.stays hb2)
  have c0 := Lib.cell_of_heap HP1.out 0
  have c1 := Lib.cell_of_heap HP1.out 1
  have c2 := Lib.cell_of_heap HP1.out 2
  clear HB HN HR HP CH
  simp at c0 c1 c2
  obtain ⟨a', c', p, kv, e5, hpa, hpb, hnode⟩ := HN1.out.node k hk
  injection e5 with e6 e7 e8
  subst e6
  have hrm : Room kv := by
    obtain ⟨ao2, c2, e2, _, h2⟩ := HR1.out
    injection e2 with e3 e4 e5
    obtain ⟨a2, kv2, e6, _, h3, h4⟩ := h2 k hk
    rw [← e3] at e6
    cases e6
    rw [hpa, hnode.c5] at h3
    cases h3
    exact h4
  rw [HX.out] at hnode
  obtain ⟨d0, d1, d2, d3, d4, d5, hkids⟩ := hnode
  dsimp only at d0 d1 d2 d3 d4 d5 hkids
  have HKI := hide hkids
  obtain ⟨ko, kc, rfl, _⟩ := hkids
  have HRM := hide hrm
  clear e7 e8 hb2 hrm
  go_wp2_with fail
  have HNB : Hid (NB w (.slice (some a') ns.length c) mv pv ns w1.heap.size ⟨16, nu, nm, mo, it, ks⟩ (.slice ko ks.length kc) (w1.alloc (.cells #[.int .i64 16, .int .i64 nu, .string nm, .string mo, .string it, .slice ko ks.length kc] 78))) := by
    have hb : Below w1.heap.size w1 (w1.alloc (.cells #[.int .i64 16, .int .i64 nu, .string nm, .string mo, .string it, .slice ko ks.length kc] 78)) := (Below.refl _ _).alloc (Nat.le_refl _) _
    exact ⟨HP1.out.stays hb, Box.made _ _ _, HB1.out.trans (hb.mono HB1.out.size), HN1.out.stays hb, HKI.out.stays hb⟩
  refine (typed_any 16 nu nm mo it (.slice ko ks.length kc) ks _ HNB.out.kids).mono ?_
  rintro e w2 ⟨rfl, hb2⟩
  have HNB2 := hide (HNB.out.stays hb2)
  clear HNB
  clear hb2 c0 c1 c2 d0 d1 d2 d3 d4 d5 HN1 HR1 HP1 HB1 HKI
  have et : typedV 16 nu nm mo it (.slice ko ks.length kc) ks = .iface 157 (.agg #[.string nm]) := rfl
  rw [et]
  clear et
  have CN := fun w => hide (readNode_node nm w)
  have CR := fun w h => hide (right_read (.slice (some a') ns.length c) mv pv ns w h hl nm hs1)
  have CS := fun w kv2 h1 h2 => hide (same_any ⟨16, nu, nm, mo, it, ks⟩ ⟨16, 0, nm, ByteArray.empty, ByteArray.empty, []⟩ (.slice ko ks.length kc) kv2 w h1 h2 hkl (by simp))
  have CA := fun w h => hide (kidsAhead_any 16 nu nm mo it (.slice ko ks.length kc) ks (k : Int) w h HRM.out)
  obtain ⟨sb, esb⟩ : ∃ sb, sameB ⟨16, nu, nm, mo, it, ks⟩ ⟨16, 0, nm, ByteArray.empty, ByteArray.empty, []⟩ = sb := ⟨_, rfl⟩
  obtain ⟨ab, eab⟩ : ∃ ab, aheadB ks (k : Int) = ab := ⟨_, rfl⟩
  have HF : Hid (progB ⟨16, nu, nm, mo, it, ks⟩ ⟨16, 0, nm, ByteArray.empty, ByteArray.empty, []⟩ (k : Int) (nameB nm) = (sb && ab && (nameB nm))) := by show _ = _; rw [progB, esb, eab]
  obtain ⟨rb, erb⟩ : ∃ rb, (nameB nm) = rb := ⟨_, rfl⟩
  simp only [esb] at CS
  simp only [eab] at CA
  simp only [erb] at CR
  have HF2 : Hid (progB ⟨16, nu, nm, mo, it, ks⟩ ⟨16, 0, nm, ByteArray.empty, ByteArray.empty, []⟩ (k : Int) (nameB nm) = (sb && ab && rb)) := by rw [← erb]; exact HF.out
  clear HF
  clear esb eab
  (try dsimp only at CS)
  obtain ⟨g0, g1, g2, g3, g4, g5, hh⟩ := HNB2.out.spread
  (try dsimp only at g0 g1 g2 g3 g4 g5)
  have KP : Hid (∀ z z' : World, (z.cell? ⟨w1.heap.size, 0, none⟩ = some (.int .i64 16) ∧ z.cell? ⟨w1.heap.size, 1, none⟩ = some (.int .i64 nu) ∧ z.cell? ⟨w1.heap.size, 2, none⟩ = some (.string nm) ∧ z.cell? ⟨w1.heap.size, 3, none⟩ = some (.string mo) ∧ z.cell? ⟨w1.heap.size, 4, none⟩ = some (.string it) ∧ z.cell? ⟨w1.heap.size, 5, none⟩ = some (.slice ko ks.length kc) ∧ Hid (NB w (.slice (some a') ns.length c) mv pv ns w1.heap.size ⟨16, nu, nm, mo, it, ks⟩ (.slice ko ks.length kc) z)) → Below z.heap.size z z' → (z'.cell? ⟨w1.heap.size, 0, none⟩ = some (.int .i64 16) ∧ z'.cell? ⟨w1.heap.size, 1, none⟩ = some (.int .i64 nu) ∧ z'.cell? ⟨w1.heap.size, 2, none⟩ = some (.string nm) ∧ z'.cell? ⟨w1.heap.size, 3, none⟩ = some (.string mo) ∧ z'.cell? ⟨w1.heap.size, 4, none⟩ = some (.string it) ∧ z'.cell? ⟨w1.heap.size, 5, none⟩ = some (.slice ko ks.length kc) ∧ Hid (NB w (.slice (some a') ns.length c) mv pv ns w1.heap.size ⟨16, nu, nm, mo, it, ks⟩ (.slice ko ks.length kc) z'))) := fun z z' h hb => (h.2.2.2.2.2.2.out.stays hb).spread
  have KK : Hid (∀ z : World, (z.cell? ⟨w1.heap.size, 0, none⟩ = some (.int .i64 16) ∧ z.cell? ⟨w1.heap.size, 1, none⟩ = some (.int .i64 nu) ∧ z.cell? ⟨w1.heap.size, 2, none⟩ = some (.string nm) ∧ z.cell? ⟨w1.heap.size, 3, none⟩ = some (.string mo) ∧ z.cell? ⟨w1.heap.size, 4, none⟩ = some (.string it) ∧ z.cell? ⟨w1.heap.size, 5, none⟩ = some (.slice ko ks.length kc) ∧ Hid (NB w (.slice (some a') ns.length c) mv pv ns w1.heap.size ⟨16, nu, nm, mo, it, ks⟩ (.slice ko ks.length kc) z)) → IntsAt z (.slice ko ks.length kc) ks) := fun z h => h.2.2.2.2.2.2.out.kids
  have KD : Hid (∀ z : World, (z.cell? ⟨w1.heap.size, 0, none⟩ = some (.int .i64 16) ∧ z.cell? ⟨w1.heap.size, 1, none⟩ = some (.int .i64 nu) ∧ z.cell? ⟨w1.heap.size, 2, none⟩ = some (.string nm) ∧ z.cell? ⟨w1.heap.size, 3, none⟩ = some (.string mo) ∧ z.cell? ⟨w1.heap.size, 4, none⟩ = some (.string it) ∧ z.cell? ⟨w1.heap.size, 5, none⟩ = some (.slice ko ks.length kc) ∧ Hid (NB w (.slice (some a') ns.length c) mv pv ns w1.heap.size ⟨16, nu, nm, mo, it, ks⟩ (.slice ko ks.length kc) z)) → NB w (.slice (some a') ns.length c) mv pv ns w1.heap.size ⟨16, nu, nm, mo, it, ks⟩ (.slice ko ks.length kc) z) := fun z h => h.2.2.2.2.2.2.out
  have K0 : Hid (w2.drew.cell? ⟨w1.heap.size, 0, none⟩ = some (.int .i64 16) ∧ w2.drew.cell? ⟨w1.heap.size, 1, none⟩ = some (.int .i64 nu) ∧ w2.drew.cell? ⟨w1.heap.size, 2, none⟩ = some (.string nm) ∧ w2.drew.cell? ⟨w1.heap.size, 3, none⟩ = some (.string mo) ∧ w2.drew.cell? ⟨w1.heap.size, 4, none⟩ = some (.string it) ∧ w2.drew.cell? ⟨w1.heap.size, 5, none⟩ = some (.slice ko ks.length kc) ∧ Hid (NB w (.slice (some a') ns.length c) mv pv ns w1.heap.size ⟨16, nu, nm, mo, it, ks⟩ (.slice ko ks.length kc) w2.drew)) := (HNB2.out.stays (Below.refl _ _).drew).spread
  clear erb
  cases sb with
  | false =>
    go_wp2_with fail
    go_region_held3 (fun z => z.cell? ⟨w1.heap.size, 0, none⟩ = some (.int .i64 16) ∧ z.cell? ⟨w1.heap.size, 1, none⟩ = some (.int .i64 nu) ∧ z.cell? ⟨w1.heap.size, 2, none⟩ = some (.string nm) ∧ z.cell? ⟨w1.heap.size, 3, none⟩ = some (.string mo) ∧ z.cell? ⟨w1.heap.size, 4, none⟩ = some (.string it) ∧ z.cell? ⟨w1.heap.size, 5, none⟩ = some (.slice ko ks.length kc) ∧ Hid (NB w (.slice (some a') ns.length c) mv pv ns w1.heap.size ⟨16, nu, nm, mo, it, ks⟩ (.slice ko ks.length kc) z)) (first | exact K0.out | exact KP.out _ _ (by assumption) hb4)
      ((first
        | (go_at_call 155; refine (unhide (CN _)).mono ?_; rintro e w4 ⟨v4, rfl, hv4, hb4⟩; obtain ⟨kv4, rfl, hk4⟩ := hv4)
        | (go_at_call 81; refine (unhide (CS _ _ (KK.out _ (by assumption)) hk4)).mono ?_; rintro e w4 ⟨rfl, hb4⟩)))
    all_goals (have D := hide (KD.out _ (by assumption)))
    all_goals go_wp2
    all_goals go_ret
    all_goals exact ⟨by rw [HF2.out]; rfl, D.out.bel⟩
  | true =>
    go_wp2_with fail
    go_region_held3 (fun z => z.cell? ⟨w1.heap.size, 0, none⟩ = some (.int .i64 16) ∧ z.cell? ⟨w1.heap.size, 1, none⟩ = some (.int .i64 nu) ∧ z.cell? ⟨w1.heap.size, 2, none⟩ = some (.string nm) ∧ z.cell? ⟨w1.heap.size, 3, none⟩ = some (.string mo) ∧ z.cell? ⟨w1.heap.size, 4, none⟩ = some (.string it) ∧ z.cell? ⟨w1.heap.size, 5, none⟩ = some (.slice ko ks.length kc) ∧ Hid (NB w (.slice (some a') ns.length c) mv pv ns w1.heap.size ⟨16, nu, nm, mo, it, ks⟩ (.slice ko ks.length kc) z)) (first | exact K0.out | exact KP.out _ _ (by assumption) hb4)
      ((first
        | (go_at_call 155; refine (unhide (CN _)).mono ?_; rintro e w4 ⟨v4, rfl, hv4, hb4⟩; obtain ⟨kv4, rfl, hk4⟩ := hv4)
        | (go_at_call 81; refine (unhide (CS _ _ (KK.out _ (by assumption)) hk4)).mono ?_; rintro e w4 ⟨rfl, hb4⟩)))
    all_goals (have D := hide (KD.out _ (by assumption)))
    all_goals clear CN CS K0 g0 g1 g2 g3 g4 g5
    all_goals cases ab
    all_goals
      go_wp2_with (first
        | (go_at_call 82; refine (unhide (CA _ D.out.kids)).mono ?_; rintro e w5 ⟨rfl, hb5⟩; have D := hide (D.out.stays hb5); have p0 := Lib.cell_of_heap D.out.b0 0; have p1 := Lib.cell_of_heap D.out.b0 1; have p2 := Lib.cell_of_heap D.out.b0 2; simp at p0 p1 p2; clear hb5)
        | (go_at_call 83; refine (unhide (CR _ D.out.nds)).mono ?_; rintro e w6 ⟨rfl, hb6⟩; have D := hide (D.out.stays hb6); clear hb6))
    all_goals go_ret
    all_goals exact ⟨by rw [HF2.out]; rfl, D.out.bel⟩
set_option maxRecDepth 100000 in
set_option maxHeartbeats 4000000 in
theorem nodeOk_delay (nv mv pv : Value) (ns : List Nd) (k : Nat) (w : World) (hN : NdsAt w nv ns) (hR : NdsRoom w nv ns.length) (hk : k < ns.length) (hl : ns.length ≤ 1048576) (nu : Int) (nm mo it : ByteArray) (ks : List Int) (hkl : ks.length ≤ 1048576) (hs1 : nm.size ≤ 1048576) (_hs2 : mo.size ≤ 1048576) (_hs3 : it.size ≤ 1048576) (hx : ns[k] = ⟨17, nu, nm, mo, it, ks⟩) :
    Calls Tryz.prog 58 #[.agg #[nv, mv, pv], .int .i64 (k : Int)] w fun e w' => e = .returned (.bool (progB ⟨17, nu, nm, mo, it, ks⟩ ⟨17, 0, nm, ByteArray.empty, ByteArray.empty, []⟩ k (nameB nm))) ∧ Below w.heap.size w w' := by
  have hb1 : Below w.heap.size w (w.alloc (.cells #[nv, mv, pv] 34)) := (Below.refl _ _).alloc (Nat.le_refl _) _
  have CH := fun w h => hide (has_any nv mv pv ns (k : Int) w h)
  have e1 : inZ 0 ((ns.length : Int) - 1) (k : Int) = true := inZ_yes.2 (by omega)
  rw [e1] at CH
  have HN := hide (hN.stays hb1)
  have HR := hide (hR.stays hb1)
  have HP : Hid (Box (w.alloc (.cells #[nv, mv, pv] 34)) w.heap.size #[nv, mv, pv] 34) := Box.made w _ _
  have HB := hide hb1
  have HX := hide hx
  clear hb1 e1 hR hx
  obtain ⟨ao, c, rfl, _⟩ := hN
  have hi0 : (0 : Int) ≤ (k : Int) := by omega
  have hi1 : (k : Int) < (ns.length : Int) := by omega
  go_enter Tryz.func58, Tryz.ntmps58
  go_wp2_with fail
  refine (unhide (CH _ HN.out)).mono ?_
  rintro e w1 ⟨rfl, hb2⟩
  have HB1 := hide (HB.out.trans (hb2.mono HB.out.size))
  have HN1 := hide (HN.out.stays hb2)
  have HR1 := hide (HR.out.stays hb2)
  have HP1 := hide (HP.out.stays hb2)
  have c0 := Lib.cell_of_heap HP1.out 0
  have c1 := Lib.cell_of_heap HP1.out 1
  have c2 := Lib.cell_of_heap HP1.out 2
  clear HB HN HR HP CH
  simp at c0 c1 c2
  obtain ⟨a', c', p, kv, e5, hpa, hpb, hnode⟩ := HN1.out.node k hk
  injection e5 with e6 e7 e8
  subst e6
  have hrm : Room kv := by
    obtain ⟨ao2, c2, e2, _, h2⟩ := HR1.out
    injection e2 with e3 e4 e5
    obtain ⟨a2, kv2, e6, _, h3, h4⟩ := h2 k hk
    rw [← e3] at e6
    cases e6
    rw [hpa, hnode.c5] at h3
    cases h3
    exact h4
  rw [HX.out] at hnode
  obtain ⟨d0, d1, d2, d3, d4, d5, hkids⟩ := hnode
  dsimp only at d0 d1 d2 d3 d4 d5 hkids
  have HKI := hide hkids
  obtain ⟨ko, kc, rfl, _⟩ := hkids
  have HRM := hide hrm
  clear e7 e8 hb2 hrm
  go_wp2_with fail
  have HNB : Hid (NB w (.slice (some a') ns.length c) mv pv ns w1.heap.size ⟨17, nu, nm, mo, it, ks⟩ (.slice ko ks.length kc) (w1.alloc (.cells #[.int .i64 17, .int .i64 nu, .string nm, .string mo, .string it, .slice ko ks.length kc] 78))) := by
    have hb : Below w1.heap.size w1 (w1.alloc (.cells #[.int .i64 17, .int .i64 nu, .string nm, .string mo, .string it, .slice ko ks.length kc] 78)) := (Below.refl _ _).alloc (Nat.le_refl _) _
    exact ⟨HP1.out.stays hb, Box.made _ _ _, HB1.out.trans (hb.mono HB1.out.size), HN1.out.stays hb, HKI.out.stays hb⟩
  refine (typed_any 17 nu nm mo it (.slice ko ks.length kc) ks _ HNB.out.kids).mono ?_
  rintro e w2 ⟨rfl, hb2⟩
  have HNB2 := hide (HNB.out.stays hb2)
  clear HNB
  clear hb2 c0 c1 c2 d0 d1 d2 d3 d4 d5 HN1 HR1 HP1 HB1 HKI
  have et : typedV 17 nu nm mo it (.slice ko ks.length kc) ks = .iface 158 (.agg #[.string nm]) := rfl
  rw [et]
  clear et
  have CN := fun w => hide (delayNode_node nm w)
  have CR := fun w h => hide (right_delay (.slice (some a') ns.length c) mv pv ns w h hl nm hs1)
  have CS := fun w kv2 h1 h2 => hide (same_any ⟨17, nu, nm, mo, it, ks⟩ ⟨17, 0, nm, ByteArray.empty, ByteArray.empty, []⟩ (.slice ko ks.length kc) kv2 w h1 h2 hkl (by simp))
  have CA := fun w h => hide (kidsAhead_any 17 nu nm mo it (.slice ko ks.length kc) ks (k : Int) w h HRM.out)
  obtain ⟨sb, esb⟩ : ∃ sb, sameB ⟨17, nu, nm, mo, it, ks⟩ ⟨17, 0, nm, ByteArray.empty, ByteArray.empty, []⟩ = sb := ⟨_, rfl⟩
  obtain ⟨ab, eab⟩ : ∃ ab, aheadB ks (k : Int) = ab := ⟨_, rfl⟩
  have HF : Hid (progB ⟨17, nu, nm, mo, it, ks⟩ ⟨17, 0, nm, ByteArray.empty, ByteArray.empty, []⟩ (k : Int) (nameB nm) = (sb && ab && (nameB nm))) := by show _ = _; rw [progB, esb, eab]
  obtain ⟨rb, erb⟩ : ∃ rb, (nameB nm) = rb := ⟨_, rfl⟩
  simp only [esb] at CS
  simp only [eab] at CA
  simp only [erb] at CR
  have HF2 : Hid (progB ⟨17, nu, nm, mo, it, ks⟩ ⟨17, 0, nm, ByteArray.empty, ByteArray.empty, []⟩ (k : Int) (nameB nm) = (sb && ab && rb)) := by rw [← erb]; exact HF.out
  clear HF
  clear esb eab
  (try dsimp only at CS)
  obtain ⟨g0, g1, g2, g3, g4, g5, hh⟩ := HNB2.out.spread
  (try dsimp only at g0 g1 g2 g3 g4 g5)
  have KP : Hid (∀ z z' : World, (z.cell? ⟨w1.heap.size, 0, none⟩ = some (.int .i64 17) ∧ z.cell? ⟨w1.heap.size, 1, none⟩ = some (.int .i64 nu) ∧ z.cell? ⟨w1.heap.size, 2, none⟩ = some (.string nm) ∧ z.cell? ⟨w1.heap.size, 3, none⟩ = some (.string mo) ∧ z.cell? ⟨w1.heap.size, 4, none⟩ = some (.string it) ∧ z.cell? ⟨w1.heap.size, 5, none⟩ = some (.slice ko ks.length kc) ∧ Hid (NB w (.slice (some a') ns.length c) mv pv ns w1.heap.size ⟨17, nu, nm, mo, it, ks⟩ (.slice ko ks.length kc) z)) → Below z.heap.size z z' → (z'.cell? ⟨w1.heap.size, 0, none⟩ = some (.int .i64 17) ∧ z'.cell? ⟨w1.heap.size, 1, none⟩ = some (.int .i64 nu) ∧ z'.cell? ⟨w1.heap.size, 2, none⟩ = some (.string nm) ∧ z'.cell? ⟨w1.heap.size, 3, none⟩ = some (.string mo) ∧ z'.cell? ⟨w1.heap.size, 4, none⟩ = some (.string it) ∧ z'.cell? ⟨w1.heap.size, 5, none⟩ = some (.slice ko ks.length kc) ∧ Hid (NB w (.slice (some a') ns.length c) mv pv ns w1.heap.size ⟨17, nu, nm, mo, it, ks⟩ (.slice ko ks.length kc) z'))) := fun z z' h hb => (h.2.2.2.2.2.2.out.stays hb).spread
  have KK : Hid (∀ z : World, (z.cell? ⟨w1.heap.size, 0, none⟩ = some (.int .i64 17) ∧ z.cell? ⟨w1.heap.size, 1, none⟩ = some (.int .i64 nu) ∧ z.cell? ⟨w1.heap.size, 2, none⟩ = some (.string nm) ∧ z.cell? ⟨w1.heap.size, 3, none⟩ = some (.string mo) ∧ z.cell? ⟨w1.heap.size, 4, none⟩ = some (.string it) ∧ z.cell? ⟨w1.heap.size, 5, none⟩ = some (.slice ko ks.length kc) ∧ Hid (NB w (.slice (some a') ns.length c) mv pv ns w1.heap.size ⟨17, nu, nm, mo, it, ks⟩ (.slice ko ks.length kc) z)) → IntsAt z (.slice ko ks.length kc) ks) := fun z h => h.2.2.2.2.2.2.out.kids
  have KD : Hid (∀ z : World, (z.cell? ⟨w1.heap.size, 0, none⟩ = some (.int .i64 17) ∧ z.cell? ⟨w1.heap.size, 1, none⟩ = some (.int .i64 nu) ∧ z.cell? ⟨w1.heap.size, 2, none⟩ = some (.string nm) ∧ z.cell? ⟨w1.heap.size, 3, none⟩ = some (.string mo) ∧ z.cell? ⟨w1.heap.size, 4, none⟩ = some (.string it) ∧ z.cell? ⟨w1.heap.size, 5, none⟩ = some (.slice ko ks.length kc) ∧ Hid (NB w (.slice (some a') ns.length c) mv pv ns w1.heap.size ⟨17, nu, nm, mo, it, ks⟩ (.slice ko ks.length kc) z)) → NB w (.slice (some a') ns.length c) mv pv ns w1.heap.size ⟨17, nu, nm, mo, it, ks⟩ (.slice ko ks.length kc) z) := fun z h => h.2.2.2.2.2.2.out
  have K0 : Hid (w2.drew.cell? ⟨w1.heap.size, 0, none⟩ = some (.int .i64 17) ∧ w2.drew.cell? ⟨w1.heap.size, 1, none⟩ = some (.int .i64 nu) ∧ w2.drew.cell? ⟨w1.heap.size, 2, none⟩ = some (.string nm) ∧ w2.drew.cell? ⟨w1.heap.size, 3, none⟩ = some (.string mo) ∧ w2.drew.cell? ⟨w1.heap.size, 4, none⟩ = some (.string it) ∧ w2.drew.cell? ⟨w1.heap.size, 5, none⟩ = some (.slice ko ks.length kc) ∧ Hid (NB w (.slice (some a') ns.length c) mv pv ns w1.heap.size ⟨17, nu, nm, mo, it, ks⟩ (.slice ko ks.length kc) w2.drew)) := (HNB2.out.stays (Below.refl _ _).drew).spread
  clear erb
  cases sb with
  | false =>
    go_wp2_with fail
    go_region_held3 (fun z => z.cell? ⟨w1.heap.size, 0, none⟩ = some (.int .i64 17) ∧ z.cell? ⟨w1.heap.size, 1, none⟩ = some (.int .i64 nu) ∧ z.cell? ⟨w1.heap.size, 2, none⟩ = some (.string nm) ∧ z.cell? ⟨w1.heap.size, 3, none⟩ = some (.string mo) ∧ z.cell? ⟨w1.heap.size, 4, none⟩ = some (.string it) ∧ z.cell? ⟨w1.heap.size, 5, none⟩ = some (.slice ko ks.length kc) ∧ Hid (NB w (.slice (some a') ns.length c) mv pv ns w1.heap.size ⟨17, nu, nm, mo, it, ks⟩ (.slice ko ks.length kc) z)) (first | exact K0.out | exact KP.out _ _ (by assumption) hb4)
      ((first
        | (go_at_call 156; refine (unhide (CN _)).mono ?_; rintro e w4 ⟨v4, rfl, hv4, hb4⟩; obtain ⟨kv4, rfl, hk4⟩ := hv4)
        | (go_at_call 81; refine (unhide (CS _ _ (KK.out _ (by assumption)) hk4)).mono ?_; rintro e w4 ⟨rfl, hb4⟩)))
    all_goals (have D := hide (KD.out _ (by assumption)))
    all_goals go_wp2
    all_goals go_ret
    all_goals exact ⟨by rw [HF2.out]; rfl, D.out.bel⟩
  | true =>
    go_wp2_with fail
    go_region_held3 (fun z => z.cell? ⟨w1.heap.size, 0, none⟩ = some (.int .i64 17) ∧ z.cell? ⟨w1.heap.size, 1, none⟩ = some (.int .i64 nu) ∧ z.cell? ⟨w1.heap.size, 2, none⟩ = some (.string nm) ∧ z.cell? ⟨w1.heap.size, 3, none⟩ = some (.string mo) ∧ z.cell? ⟨w1.heap.size, 4, none⟩ = some (.string it) ∧ z.cell? ⟨w1.heap.size, 5, none⟩ = some (.slice ko ks.length kc) ∧ Hid (NB w (.slice (some a') ns.length c) mv pv ns w1.heap.size ⟨17, nu, nm, mo, it, ks⟩ (.slice ko ks.length kc) z)) (first | exact K0.out | exact KP.out _ _ (by assumption) hb4)
      ((first
        | (go_at_call 156; refine (unhide (CN _)).mono ?_; rintro e w4 ⟨v4, rfl, hv4, hb4⟩; obtain ⟨kv4, rfl, hk4⟩ := hv4)
        | (go_at_call 81; refine (unhide (CS _ _ (KK.out _ (by assumption)) hk4)).mono ?_; rintro e w4 ⟨rfl, hb4⟩)))
    all_goals (have D := hide (KD.out _ (by assumption)))
    all_goals clear CN CS K0 g0 g1 g2 g3 g4 g5
    all_goals cases ab
    all_goals
      go_wp2_with (first
        | (go_at_call 82; refine (unhide (CA _ D.out.kids)).mono ?_; rintro e w5 ⟨rfl, hb5⟩; have D := hide (D.out.stays hb5); have p0 := Lib.cell_of_heap D.out.b0 0; have p1 := Lib.cell_of_heap D.out.b0 1; have p2 := Lib.cell_of_heap D.out.b0 2; simp at p0 p1 p2; clear hb5)
        | (go_at_call 83; refine (unhide (CR _ D.out.nds)).mono ?_; rintro e w6 ⟨rfl, hb6⟩; have D := hide (D.out.stays hb6); clear hb6))
    all_goals go_ret
    all_goals exact ⟨by rw [HF2.out]; rfl, D.out.bel⟩
end Go.Proofs.YtdfahpachbhglaaGreatDoor
