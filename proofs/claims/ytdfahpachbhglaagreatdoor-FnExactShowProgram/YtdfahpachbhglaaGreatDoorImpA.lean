/-
  Walks: kids and types of nodes, by the program.
-/
import Derived.Test.YtdfahpachbhglaaGreatDoorTreeW
import Derived.Handy
import Derived.Test.YtdfahpachbhglaaGreatDoorRowP
namespace Go.Proofs.YtdfahpachbhglaaGreatDoor
open Go.RowKit

theorem has_any (nv mv pv : Value) (ns : List Nd) (k : Int) (w : World) (hN : NdsAt w nv ns) :
    Calls Tryz.prog 79 #[.agg #[nv, mv, pv], .int .i64 k] w fun e w' => e = .returned (.bool (inZ 0 ((ns.length : Int) - 1) k)) ∧ Below w.heap.size w w' := by
  have HB : Hid (Below w.heap.size w (w.alloc (.cells #[nv, mv, pv] 34))) := (Below.refl _ _).alloc (Nat.le_refl _) _
  obtain ⟨ao, c, rfl, _⟩ := hN
  obtain ⟨n, hn⟩ : ∃ n, ns.length = n := ⟨_, rfl⟩
  rw [hn] at HB ⊢
  clear hn
  by_cases h1 : (0 : Int) ≤ k
  · by_cases h2 : k < (n : Int)
    · have e : inZ 0 ((n : Int) - 1) k = true := inZ_yes.2 (by omega)
      rw [e]
      clear e
      go_enter Tryz.func79, Tryz.ntmps79
      go_wp2
      go_ret
      exact ⟨rfl, HB.out⟩
    · have e : inZ 0 ((n : Int) - 1) k = false := inZ_no.2 (by omega)
      rw [e]
      clear e
      go_enter Tryz.func79, Tryz.ntmps79
      go_wp2
      go_ret
      exact ⟨rfl, HB.out⟩
  · have e : inZ 0 ((n : Int) - 1) k = false := inZ_no.2 (by omega)
    rw [e]
    clear e
    go_enter Tryz.func79, Tryz.ntmps79
    go_wp2
    go_ret
    exact ⟨rfl, HB.out⟩

/-- The cells of a node as a value. -/
abbrev ndCells (kd nu : Int) (nm mo it : ByteArray) (kv : Value) : Array Value := #[.int .i64 kd, .int .i64 nu, .string nm, .string mo, .string it, kv]

theorem kid_any (kd nu : Int) (nm mo it : ByteArray) (kv : Value) (ks : List Int) (i : Nat) (w : World) (hK : IntsAt w kv ks) :
    Calls Tryz.prog 97 #[.agg #[.int .i64 kd, .int .i64 nu, .string nm, .string mo, .string it, kv], .int .i64 (i : Int)] w fun e w' => e = .returned (.int .i64 (ks.getD i (-1))) ∧ Below w.heap.size w w' := by
  have hb : Below w.heap.size w (w.alloc (.cells #[.int .i64 kd, .int .i64 nu, .string nm, .string mo, .string it, kv] 78)) := (Below.refl _ _).alloc (Nat.le_refl _) _
  have hK1 := hK.stays hb
  have HB := hide hb
  clear hK hb
  obtain ⟨ao, c, rfl, hc⟩ := hK1
  by_cases h : i < ks.length
  · obtain ⟨a, rfl, ha, hx⟩ := hc i h
    have e : ks.getD i (-1) = ks[i] := by simp [List.getD_eq_getElem?_getD, List.getElem?_eq_getElem h]
    rw [e]
    obtain ⟨x, ex⟩ : ∃ x, ks[i] = x := ⟨_, rfl⟩
    rw [ex] at hx ⊢
    clear hc e ex
    obtain ⟨n, hn⟩ : ∃ n, ks.length = n := ⟨_, rfl⟩
    rw [hn] at HB hx h ⊢
    have h1 : ¬ (n : Int) ≤ (i : Int) := by omega
    have h2 : (i : Int) < (n : Int) := by omega
    have h0 : (0 : Int) ≤ (i : Int) := by omega
    clear hn
    go_enter Tryz.func97, Tryz.ntmps97
    go_wp2
    go_ret
    exact ⟨rfl, HB.out⟩
  · have e : ks.getD i (-1) = -1 := by simp [List.getD_eq_getElem?_getD, List.getElem?_eq_none (Nat.le_of_not_lt h)]
    rw [e]
    clear hc e
    obtain ⟨n, hn⟩ : ∃ n, ks.length = n := ⟨_, rfl⟩
    rw [hn] at HB h ⊢
    have h1 : (n : Int) ≤ (i : Int) := by omega
    clear hn
    go_enter Tryz.func97, Tryz.ntmps97
    go_wp2
    go_ret
    exact ⟨rfl, HB.out⟩
/-- The same, the place told as a number that a statement names. -/
theorem kid_at (kd nu : Int) (nm mo it : ByteArray) (kv : Value) (ks : List Int) (i : Int) (w : World) (hi : 0 ≤ i) (hK : IntsAt w kv ks) :
    Calls Tryz.prog 97 #[.agg #[.int .i64 kd, .int .i64 nu, .string nm, .string mo, .string it, kv], .int .i64 i] w fun e w' => e = .returned (.int .i64 (ks.getD i.toNat (-1))) ∧ Below w.heap.size w w' := by
  obtain ⟨j, rfl⟩ : ∃ j : Nat, i = (j : Int) := ⟨i.toNat, by omega⟩
  exact kid_any kd nu nm mo it kv ks j w hK
end Go.Proofs.YtdfahpachbhglaaGreatDoor

namespace Go.Proofs.YtdfahpachbhglaaGreatDoor
open Go.RowKit

/-- A node in a box of its own, its cells alone. -/
structure NdBox (B : Nat) (w : World) (kd nu : Int) (nm mo it : ByteArray) (kv : Value) : Prop where
  c0 : w.cell? ⟨B, 0, none⟩ = some (.int .i64 kd)
  c1 : w.cell? ⟨B, 1, none⟩ = some (.int .i64 nu)
  c2 : w.cell? ⟨B, 2, none⟩ = some (.string nm)
  c3 : w.cell? ⟨B, 3, none⟩ = some (.string mo)
  c4 : w.cell? ⟨B, 4, none⟩ = some (.string it)
  c5 : w.cell? ⟨B, 5, none⟩ = some kv
  lt : B < w.heap.size
theorem NdBox.made (w : World) (kd nu : Int) (nm mo it : ByteArray) (kv : Value) (t : TypeId) :
    NdBox w.heap.size (w.alloc (.cells #[.int .i64 kd, .int .i64 nu, .string nm, .string mo, .string it, kv] t)) kd nu nm mo it kv := by
  refine ⟨?_, ?_, ?_, ?_, ?_, ?_, ?_⟩
  · rw [World.cell?_alloc_new]; rfl
  · rw [World.cell?_alloc_new]; rfl
  · rw [World.cell?_alloc_new]; rfl
  · rw [World.cell?_alloc_new]; rfl
  · rw [World.cell?_alloc_new]; rfl
  · rw [World.cell?_alloc_new]; rfl
  · simp
theorem NdBox.stays {B : Nat} {w w' : World} {kd nu : Int} {nm mo it : ByteArray} {kv : Value} (h : NdBox B w kd nu nm mo it kv) (hb : Below w.heap.size w w') : NdBox B w' kd nu nm mo it kv :=
  ⟨(hb.cell (p := ⟨B, 0, none⟩) h.lt).trans h.c0, (hb.cell (p := ⟨B, 1, none⟩) h.lt).trans h.c1, (hb.cell (p := ⟨B, 2, none⟩) h.lt).trans h.c2,
    (hb.cell (p := ⟨B, 3, none⟩) h.lt).trans h.c3, (hb.cell (p := ⟨B, 4, none⟩) h.lt).trans h.c4, (hb.cell (p := ⟨B, 5, none⟩) h.lt).trans h.c5,
    Nat.lt_of_lt_of_le h.lt hb.size⟩

/-- A node as what its kind says. -/
def typedV (kd nu : Int) (nm mo it : ByteArray) (kv : Value) (ks : List Int) : Value :=
  if kd = 1 then .iface 138 (.agg #[.int .i64 nu])
  else if kd = 2 then .iface 140 (.agg #[.string nm])
  else if kd = 3 then .iface 143 (.agg #[.int .i64 nu, .int .i64 (ks[0]?.getD (-1)), .int .i64 (ks[1]?.getD (-1))])
  else if kd = 4 then .iface 145 (.agg #[.int .i64 (ks[0]?.getD (-1))])
  else if kd = 5 then .iface 146 (.agg #[.int .i64 (ks[0]?.getD (-1))])
  else if kd = 11 then .iface 148 (.agg #[.string nm, .int .i64 (ks[0]?.getD (-1))])
  else if kd = 12 then .iface 150 (.agg #[.int .i64 (ks[0]?.getD (-1)), .int .i64 (ks[1]?.getD (-1)), .int .i64 (ks[2]?.getD (-1))])
  else if kd = 13 then .iface 152 (.agg #[.int .i64 (ks[0]?.getD (-1)), .int .i64 (ks[1]?.getD (-1))])
  else if kd = 14 then .iface 154 (.agg #[.string nm, .string mo, .string it, .int .i64 (ks[0]?.getD (-1))])
  else if kd = 15 then .iface 156 (.agg #[.int .i64 (ks[0]?.getD (-1))])
  else if kd = 16 then .iface 157 (.agg #[.string nm])
  else if kd = 17 then .iface 158 (.agg #[.string nm])
  else if kd = 18 then .iface 159 (.agg #[.string nm])
  else if kd = 19 then .iface 161 (.agg #[])
  else if kd = 20 then .iface 130 (.agg #[kv])
  else .nilIface

/-- What holds of the world while a node's type is found. -/
abbrev TyS (W : World) (B : Nat) (kd nu : Int) (nm mo it : ByteArray) (kv : Value) (ks : List Int) (w' : World) : Prop :=
  w'.cell? ⟨B, 0, none⟩ = some (.int .i64 kd) ∧ w'.cell? ⟨B, 1, none⟩ = some (.int .i64 nu) ∧ w'.cell? ⟨B, 2, none⟩ = some (.string nm) ∧ w'.cell? ⟨B, 3, none⟩ = some (.string mo) ∧ w'.cell? ⟨B, 4, none⟩ = some (.string it) ∧ w'.cell? ⟨B, 5, none⟩ = some kv
    ∧ Hid (B < w'.heap.size ∧ IntsAt w' kv ks ∧ Below W.heap.size W w')
theorem TyS.stays {W : World} {B : Nat} {kd nu : Int} {nm mo it : ByteArray} {kv : Value} {ks : List Int} {w w' : World} (h : TyS W B kd nu nm mo it kv ks w) (hb : Below w.heap.size w w') : TyS W B kd nu nm mo it kv ks w' := by
  obtain ⟨c0, c1, c2, c3, c4, c5, l, hk, hbw⟩ := h
  exact ⟨(hb.cell (p := ⟨B, 0, none⟩) l).trans c0, (hb.cell (p := ⟨B, 1, none⟩) l).trans c1, (hb.cell (p := ⟨B, 2, none⟩) l).trans c2, (hb.cell (p := ⟨B, 3, none⟩) l).trans c3, (hb.cell (p := ⟨B, 4, none⟩) l).trans c4, (hb.cell (p := ⟨B, 5, none⟩) l).trans c5, Nat.lt_of_lt_of_le l hb.size, hk.stays hb, hbw.trans (hb.mono hbw.size)⟩

theorem TyS.kids {W : World} {B : Nat} {kd nu : Int} {nm mo it : ByteArray} {kv : Value} {ks : List Int} {w : World} (h : TyS W B kd nu nm mo it kv ks w) : IntsAt w kv ks := h.2.2.2.2.2.2.out.2.1
theorem TyS.below {W : World} {B : Nat} {kd nu : Int} {nm mo it : ByteArray} {kv : Value} {ks : List Int} {w : World} (h : TyS W B kd nu nm mo it kv ks w) : Below W.heap.size W w := h.2.2.2.2.2.2.out.2.2
theorem TyS.drew {W : World} {B : Nat} {kd nu : Int} {nm mo it : ByteArray} {kv : Value} {ks : List Int} {w : World} (h : TyS W B kd nu nm mo it kv ks w) : TyS W B kd nu nm mo it kv ks w.drew := h.stays (Below.refl _ _).drew

set_option maxRecDepth 100000 in
set_option maxHeartbeats 4000000 in
theorem typed_any (kd nu : Int) (nm mo it : ByteArray) (kv : Value) (ks : List Int) (w : World) (hK : IntsAt w kv ks) :
    Calls Tryz.prog 80 #[.agg #[.int .i64 kd, .int .i64 nu, .string nm, .string mo, .string it, kv]] w fun e w' => e = .returned (typedV kd nu nm mo it kv ks) ∧ Below w.heap.size w w' := by
  have hb : Below w.heap.size w (w.alloc (.cells #[.int .i64 kd, .int .i64 nu, .string nm, .string mo, .string it, kv] 78)) := (Below.refl _ _).alloc (Nat.le_refl _) _
  have hx := NdBox.made w kd nu nm mo it kv 78
  have hS : Hid (TyS w w.heap.size kd nu nm mo it kv ks (w.alloc (.cells #[.int .i64 kd, .int .i64 nu, .string nm, .string mo, .string it, kv] 78))) := ⟨hx.c0, hx.c1, hx.c2, hx.c3, hx.c4, hx.c5, hx.lt, hK.stays hb, hb⟩
  have HB := hide hb
  have CK := fun (i : Int) w hi h => hide (kid_at kd nu nm mo it kv ks i w hi h)
  clear hK hb hx
  by_cases h1 : kd = 1
  · subst h1
    have HE : Hid (typedV 1 nu nm mo it kv ks = .iface 138 (.agg #[.int .i64 nu])) := rfl
    (
  go_enter Tryz.func80, Tryz.ntmps80;
  go_wp2;
  go_ret;
  exact ⟨by rw [HE.out]; rfl, HB.out⟩)
  by_cases h2 : kd = 2
  · subst h2
    have HE : Hid (typedV 2 nu nm mo it kv ks = .iface 140 (.agg #[.string nm])) := rfl
    (
  go_enter Tryz.func80, Tryz.ntmps80;
  go_wp2;
  go_ret;
  exact ⟨by rw [HE.out]; rfl, HB.out⟩)
  by_cases h3 : kd = 3
  · subst h3
    have HE : Hid (typedV 3 nu nm mo it kv ks = .iface 143 (.agg #[.int .i64 nu, .int .i64 (ks[0]?.getD (-1)), .int .i64 (ks[1]?.getD (-1))])) := rfl
    (
  (
  go_enter Tryz.func80, Tryz.ntmps80;
  go_wp2;
  obtain ⟨W1, hW⟩ : ∃ W1, w.alloc (.cells #[.int .i64 3, .int .i64 nu, .string nm, .string mo, .string it, kv] 78) = W1 := ⟨_, rfl⟩;
  rw [hW] at hS ⊢;
  have hS1 := hS.out;
  obtain ⟨c0, c1, c2, c3, c4, c5, hh⟩ := hS1;
  clear hS hW HB);
  go_region_held3 (fun w' => w'.cell? ⟨w.heap.size, 0, none⟩ = some (.int .i64 3) ∧ w'.cell? ⟨w.heap.size, 1, none⟩ = some (.int .i64 nu) ∧ w'.cell? ⟨w.heap.size, 2, none⟩ = some (.string nm) ∧ w'.cell? ⟨w.heap.size, 3, none⟩ = some (.string mo) ∧ w'.cell? ⟨w.heap.size, 4, none⟩ = some (.string it) ∧ w'.cell? ⟨w.heap.size, 5, none⟩ = some kv
    ∧ Hid (w.heap.size < w'.heap.size ∧ IntsAt w' kv ks ∧ Below w.heap.size w w')) (first | exact TyS.drew ⟨c0, c1, c2, c3, c4, c5, hh⟩ | exact TyS.stays (by assumption) hb2)
    ((go_at_call 97; refine (unhide (CK _ _ ?_ (TyS.kids (by assumption)))).mono ?_; (decide); rintro e w2 ⟨rfl, hb2⟩));
  all_goals go_wp2;
  all_goals go_ret;
  all_goals exact ⟨by rw [HE.out]; rfl, TyS.below (by assumption)⟩)
  by_cases h4 : kd = 4
  · subst h4
    have HE : Hid (typedV 4 nu nm mo it kv ks = .iface 145 (.agg #[.int .i64 (ks[0]?.getD (-1))])) := rfl
    (
  go_enter Tryz.func80, Tryz.ntmps80;
  go_wp2_with (go_at_call 97; refine (unhide (CK _ _ ?_ (TyS.kids hS.out))).mono ?_; (decide); rintro e w2 ⟨rfl, hb2⟩; have HB := hide (HB.out.trans (hb2.mono HB.out.size)); clear hb2);
  go_ret;
  exact ⟨by rw [HE.out]; rfl, HB.out⟩)
  by_cases h5 : kd = 5
  · subst h5
    have HE : Hid (typedV 5 nu nm mo it kv ks = .iface 146 (.agg #[.int .i64 (ks[0]?.getD (-1))])) := rfl
    (
  go_enter Tryz.func80, Tryz.ntmps80;
  go_wp2_with (go_at_call 97; refine (unhide (CK _ _ ?_ (TyS.kids hS.out))).mono ?_; (decide); rintro e w2 ⟨rfl, hb2⟩; have HB := hide (HB.out.trans (hb2.mono HB.out.size)); clear hb2);
  go_ret;
  exact ⟨by rw [HE.out]; rfl, HB.out⟩)
  by_cases h11 : kd = 11
  · subst h11
    have HE : Hid (typedV 11 nu nm mo it kv ks = .iface 148 (.agg #[.string nm, .int .i64 (ks[0]?.getD (-1))])) := rfl
    (
  (
  go_enter Tryz.func80, Tryz.ntmps80;
  go_wp2;
  obtain ⟨W1, hW⟩ : ∃ W1, w.alloc (.cells #[.int .i64 11, .int .i64 nu, .string nm, .string mo, .string it, kv] 78) = W1 := ⟨_, rfl⟩;
  rw [hW] at hS ⊢;
  have hS1 := hS.out;
  obtain ⟨c0, c1, c2, c3, c4, c5, hh⟩ := hS1;
  clear hS hW HB);
  go_region_held3 (fun w' => w'.cell? ⟨w.heap.size, 0, none⟩ = some (.int .i64 11) ∧ w'.cell? ⟨w.heap.size, 1, none⟩ = some (.int .i64 nu) ∧ w'.cell? ⟨w.heap.size, 2, none⟩ = some (.string nm) ∧ w'.cell? ⟨w.heap.size, 3, none⟩ = some (.string mo) ∧ w'.cell? ⟨w.heap.size, 4, none⟩ = some (.string it) ∧ w'.cell? ⟨w.heap.size, 5, none⟩ = some kv
    ∧ Hid (w.heap.size < w'.heap.size ∧ IntsAt w' kv ks ∧ Below w.heap.size w w')) (first | exact TyS.drew ⟨c0, c1, c2, c3, c4, c5, hh⟩ | exact TyS.stays (by assumption) hb2)
    ((go_at_call 97; refine (unhide (CK _ _ ?_ (TyS.kids (by assumption)))).mono ?_; (decide); rintro e w2 ⟨rfl, hb2⟩));
  all_goals go_wp2;
  all_goals go_ret;
  all_goals exact ⟨by rw [HE.out]; rfl, TyS.below (by assumption)⟩)
  by_cases h12 : kd = 12
  · subst h12
    have HE : Hid (typedV 12 nu nm mo it kv ks = .iface 150 (.agg #[.int .i64 (ks[0]?.getD (-1)), .int .i64 (ks[1]?.getD (-1)), .int .i64 (ks[2]?.getD (-1))])) := rfl
    (
  (
  go_enter Tryz.func80, Tryz.ntmps80;
  go_wp2;
  obtain ⟨W1, hW⟩ : ∃ W1, w.alloc (.cells #[.int .i64 12, .int .i64 nu, .string nm, .string mo, .string it, kv] 78) = W1 := ⟨_, rfl⟩;
  rw [hW] at hS ⊢;
  have hS1 := hS.out;
  obtain ⟨c0, c1, c2, c3, c4, c5, hh⟩ := hS1;
  clear hS hW HB);
  go_region_held3 (fun w' => w'.cell? ⟨w.heap.size, 0, none⟩ = some (.int .i64 12) ∧ w'.cell? ⟨w.heap.size, 1, none⟩ = some (.int .i64 nu) ∧ w'.cell? ⟨w.heap.size, 2, none⟩ = some (.string nm) ∧ w'.cell? ⟨w.heap.size, 3, none⟩ = some (.string mo) ∧ w'.cell? ⟨w.heap.size, 4, none⟩ = some (.string it) ∧ w'.cell? ⟨w.heap.size, 5, none⟩ = some kv
    ∧ Hid (w.heap.size < w'.heap.size ∧ IntsAt w' kv ks ∧ Below w.heap.size w w')) (first | exact TyS.drew ⟨c0, c1, c2, c3, c4, c5, hh⟩ | exact TyS.stays (by assumption) hb2)
    ((go_at_call 97; refine (unhide (CK _ _ ?_ (TyS.kids (by assumption)))).mono ?_; (decide); rintro e w2 ⟨rfl, hb2⟩));
  all_goals go_wp2;
  all_goals go_ret;
  all_goals exact ⟨by rw [HE.out]; rfl, TyS.below (by assumption)⟩)
  by_cases h13 : kd = 13
  · subst h13
    have HE : Hid (typedV 13 nu nm mo it kv ks = .iface 152 (.agg #[.int .i64 (ks[0]?.getD (-1)), .int .i64 (ks[1]?.getD (-1))])) := rfl
    (
  (
  go_enter Tryz.func80, Tryz.ntmps80;
  go_wp2;
  obtain ⟨W1, hW⟩ : ∃ W1, w.alloc (.cells #[.int .i64 13, .int .i64 nu, .string nm, .string mo, .string it, kv] 78) = W1 := ⟨_, rfl⟩;
  rw [hW] at hS ⊢;
  have hS1 := hS.out;
  obtain ⟨c0, c1, c2, c3, c4, c5, hh⟩ := hS1;
  clear hS hW HB);
  go_region_held3 (fun w' => w'.cell? ⟨w.heap.size, 0, none⟩ = some (.int .i64 13) ∧ w'.cell? ⟨w.heap.size, 1, none⟩ = some (.int .i64 nu) ∧ w'.cell? ⟨w.heap.size, 2, none⟩ = some (.string nm) ∧ w'.cell? ⟨w.heap.size, 3, none⟩ = some (.string mo) ∧ w'.cell? ⟨w.heap.size, 4, none⟩ = some (.string it) ∧ w'.cell? ⟨w.heap.size, 5, none⟩ = some kv
    ∧ Hid (w.heap.size < w'.heap.size ∧ IntsAt w' kv ks ∧ Below w.heap.size w w')) (first | exact TyS.drew ⟨c0, c1, c2, c3, c4, c5, hh⟩ | exact TyS.stays (by assumption) hb2)
    ((go_at_call 97; refine (unhide (CK _ _ ?_ (TyS.kids (by assumption)))).mono ?_; (decide); rintro e w2 ⟨rfl, hb2⟩));
  all_goals go_wp2;
  all_goals go_ret;
  all_goals exact ⟨by rw [HE.out]; rfl, TyS.below (by assumption)⟩)
  by_cases h14 : kd = 14
  · subst h14
    have HE : Hid (typedV 14 nu nm mo it kv ks = .iface 154 (.agg #[.string nm, .string mo, .string it, .int .i64 (ks[0]?.getD (-1))])) := rfl
    (
  (
  go_enter Tryz.func80, Tryz.ntmps80;
  go_wp2;
  obtain ⟨W1, hW⟩ : ∃ W1, w.alloc (.cells #[.int .i64 14, .int .i64 nu, .string nm, .string mo, .string it, kv] 78) = W1 := ⟨_, rfl⟩;
  rw [hW] at hS ⊢;
  have hS1 := hS.out;
  obtain ⟨c0, c1, c2, c3, c4, c5, hh⟩ := hS1;
  clear hS hW HB);
  go_region_held3 (fun w' => w'.cell? ⟨w.heap.size, 0, none⟩ = some (.int .i64 14) ∧ w'.cell? ⟨w.heap.size, 1, none⟩ = some (.int .i64 nu) ∧ w'.cell? ⟨w.heap.size, 2, none⟩ = some (.string nm) ∧ w'.cell? ⟨w.heap.size, 3, none⟩ = some (.string mo) ∧ w'.cell? ⟨w.heap.size, 4, none⟩ = some (.string it) ∧ w'.cell? ⟨w.heap.size, 5, none⟩ = some kv
    ∧ Hid (w.heap.size < w'.heap.size ∧ IntsAt w' kv ks ∧ Below w.heap.size w w')) (first | exact TyS.drew ⟨c0, c1, c2, c3, c4, c5, hh⟩ | exact TyS.stays (by assumption) hb2)
    ((go_at_call 97; refine (unhide (CK _ _ ?_ (TyS.kids (by assumption)))).mono ?_; (decide); rintro e w2 ⟨rfl, hb2⟩));
  all_goals go_wp2;
  all_goals go_ret;
  all_goals exact ⟨by rw [HE.out]; rfl, TyS.below (by assumption)⟩)
  by_cases h15 : kd = 15
  · subst h15
    have HE : Hid (typedV 15 nu nm mo it kv ks = .iface 156 (.agg #[.int .i64 (ks[0]?.getD (-1))])) := rfl
    (
  go_enter Tryz.func80, Tryz.ntmps80;
  go_wp2_with (go_at_call 97; refine (unhide (CK _ _ ?_ (TyS.kids hS.out))).mono ?_; (decide); rintro e w2 ⟨rfl, hb2⟩; have HB := hide (HB.out.trans (hb2.mono HB.out.size)); clear hb2);
  go_ret;
  exact ⟨by rw [HE.out]; rfl, HB.out⟩)
  by_cases h16 : kd = 16
  · subst h16
    have HE : Hid (typedV 16 nu nm mo it kv ks = .iface 157 (.agg #[.string nm])) := rfl
    (
  go_enter Tryz.func80, Tryz.ntmps80;
  go_wp2;
  go_ret;
  exact ⟨by rw [HE.out]; rfl, HB.out⟩)
  by_cases h17 : kd = 17
  · subst h17
    have HE : Hid (typedV 17 nu nm mo it kv ks = .iface 158 (.agg #[.string nm])) := rfl
    (
  go_enter Tryz.func80, Tryz.ntmps80;
  go_wp2;
  go_ret;
  exact ⟨by rw [HE.out]; rfl, HB.out⟩)
  by_cases h18 : kd = 18
  · subst h18
    have HE : Hid (typedV 18 nu nm mo it kv ks = .iface 159 (.agg #[.string nm])) := rfl
    (
  go_enter Tryz.func80, Tryz.ntmps80;
  go_wp2;
  go_ret;
  exact ⟨by rw [HE.out]; rfl, HB.out⟩)
  by_cases h19 : kd = 19
  · subst h19
    have HE : Hid (typedV 19 nu nm mo it kv ks = .iface 161 (.agg #[])) := rfl
    (
  go_enter Tryz.func80, Tryz.ntmps80;
  go_wp2;
  go_ret;
  exact ⟨by rw [HE.out]; rfl, HB.out⟩)
  by_cases h20 : kd = 20
  · subst h20
    have HE : Hid (typedV 20 nu nm mo it kv ks = .iface 130 (.agg #[kv])) := rfl
    obtain ⟨ao, c, rfl, _⟩ := hS.out.kids
    (
  go_enter Tryz.func80, Tryz.ntmps80;
  go_wp2;
  go_ret;
  exact ⟨by rw [HE.out]; rfl, HB.out⟩)
  have HE : Hid (typedV kd nu nm mo it kv ks = .nilIface) := by
    show _ = _
    simp only [typedV, if_neg h1, if_neg h2, if_neg h3, if_neg h4, if_neg h5, if_neg h11, if_neg h12, if_neg h13, if_neg h14, if_neg h15, if_neg h16, if_neg h17, if_neg h18, if_neg h19, if_neg h20]
  (
  go_enter Tryz.func80, Tryz.ntmps80;
  go_wp2;
  go_ret;
  exact ⟨by rw [HE.out]; rfl, HB.out⟩)
end Go.Proofs.YtdfahpachbhglaaGreatDoor

namespace Go.Proofs.YtdfahpachbhglaaGreatDoor
open Go.RowKit

def EqlR (w : World) (xs ys : List Int) (iv : Value) (wr : World) : Prop :=
  ∃ i : Nat, i ≤ xs.length ∧ iv = .int .i64 i ∧ Hid (Below w.heap.size w wr) ∧ Hid (∀ j, j < i → xs[j]? = ys[j]?)

set_option maxHeartbeats 1000000 in
theorem equal_any (v1 v2 : Value) (xs ys : List Int) (w : World) (h1 : IntsAt w v1 xs) (h2 : IntsAt w v2 ys) (hl : xs.length ≤ 1048576) (_hm : ys.length ≤ 1048576) :
    Calls Tryz.prog 98 #[v1, v2] w fun e w' => e = .returned (.bool (decide (xs = ys))) ∧ Below w.heap.size w w' := by
  have H1 := hide h1
  have H2 := hide h2
  obtain ⟨ao, c, rfl, _⟩ := h1
  obtain ⟨bo, d, rfl, _⟩ := h2
  by_cases hn : xs.length = ys.length
  · obtain ⟨n, en⟩ : ∃ n, xs.length = n := ⟨_, rfl⟩
    have EN := hide en
    have EM := hide (hn.symm.trans en)
    rw [en] at H1 hl ⊢
    rw [hn.symm.trans en] at H2 ⊢
    clear hn en _hm
    go_enter Tryz.func98, Tryz.ntmps98
    go_wp2
    go_loopw [13] (EqlR w xs ys) (fun iv _ => n - (intOf iv).toNat)
    case atStart => exact ⟨0, by omega, rfl, Below.refl _ _, fun j hj => absurd hj (Nat.not_lt_zero j)⟩
    case round =>
      obtain ⟨i, hi, rfl, HB2, HA⟩ := hrel
      rw [EN.out] at hi
      by_cases hlt : i < n
      · have hlt' : (i : Int) < (n : Int) := by omega
        have hi0 : (0 : Int) ≤ (i : Int) := by omega
        have hix : i < xs.length := by rw [EN.out]; exact hlt
        have hiy : i < ys.length := by rw [EM.out]; exact hlt
        obtain ⟨ao', c', e1, hc1⟩ := H1.out.stays HB2.out
        injection e1 with e2 e3 e4
        subst e2
        obtain ⟨bo', d', e1, hc2⟩ := H2.out.stays HB2.out
        injection e1 with e2 e5 e6
        subst e2
        obtain ⟨a, rfl, _, hx⟩ := hc1 i hix
        obtain ⟨b, rfl, _, hy⟩ := hc2 i hiy
        have EX : Hid (xs[i]? = some xs[i]) := List.getElem?_eq_getElem hix
        have EY : Hid (ys[i]? = some ys[i]) := List.getElem?_eq_getElem hiy
        obtain ⟨x, ex⟩ : ∃ x, xs[i] = x := ⟨_, rfl⟩
        obtain ⟨y, ey⟩ : ∃ y, ys[i] = y := ⟨_, rfl⟩
        rw [ex] at hx EX
        rw [ey] at hy EY
        clear ex ey hc1 hc2 e3 e4 e5 e6
        by_cases hxy : x = y
        · subst hxy
          go_wp2
          go_region
          all_goals go_wp2
          go_roundw
          case rel => exact ⟨i + 1, by rw [EN.out]; omega, by go_num, HB2.out.drew, fun j hj => by
            rcases Nat.lt_succ_iff_lt_or_eq.1 hj with h | h
            · exact HA.out j h
            · subst h; rw [EX.out, EY.out]⟩
          case measure => simp [intOf]; omega
        · have HF : Hid (decide (xs = ys) = false) := by
            show _ = _
            rw [decide_eq_false_iff_not]
            intro h
            have hx2 := EX.out
            rw [h, EY.out] at hx2
            exact hxy (Option.some.inj hx2).symm
          go_wp2
          go_region
          all_goals go_wp2
          all_goals go_ret
          all_goals exact ⟨by rw [HF.out]; rfl, HB2.out.drew⟩
      · have hlt' : ¬ (i : Int) < (n : Int) := by omega
        have HF : Hid (decide (xs = ys) = true) := by
          show _ = _
          rw [decide_eq_true_eq]
          refine List.ext_getElem? fun j => ?_
          by_cases hj : j < i
          · exact HA.out j hj
          · rw [List.getElem?_eq_none (by rw [EN.out]; omega), List.getElem?_eq_none (by rw [EM.out]; omega)]
        go_wp2
        go_ret
        exact ⟨by rw [HF.out]; rfl, HB2.out⟩
  · have hn' : ¬ (xs.length : Int) = (ys.length : Int) := by omega
    have HF : Hid (decide (xs = ys) = false) := by
      show _ = _
      rw [decide_eq_false_iff_not]
      intro h
      exact hn (by rw [h])
    obtain ⟨n, en⟩ : ∃ n, xs.length = n := ⟨_, rfl⟩
    obtain ⟨m, em⟩ : ∃ m, ys.length = m := ⟨_, rfl⟩
    rw [en, em] at hn'
    rw [en] at H1 ⊢
    rw [em] at H2 ⊢
    clear en em hn hl _hm
    go_enter Tryz.func98, Tryz.ntmps98
    go_wp2
    go_ret
    exact ⟨by rw [HF.out]; rfl, Below.refl _ _⟩

def IdxR (w : World) (xs : List Int) (y : Int) (iv : Value) (wr : World) : Prop :=
  ∃ i : Nat, i ≤ xs.length ∧ iv = .int .i64 i ∧ wr = w ∧ Hid (∀ j x, j < i → xs[j]? = some x → y ≠ x)

set_option maxHeartbeats 1000000 in
theorem index_any (v : Value) (xs : List Int) (y : Int) (w : World) (h1 : IntsAt w v xs) (hl : xs.length ≤ 1048576) :
    Calls Tryz.prog 108 #[v, .int .i64 y] w fun e w' => ∃ i : Int, e = .returned (.int .i64 i) ∧ w' = w ∧ (0 ≤ i ↔ y ∈ xs) := by
  have H1 := hide h1
  obtain ⟨ao, c, rfl, _⟩ := h1
  obtain ⟨n, en⟩ : ∃ n, xs.length = n := ⟨_, rfl⟩
  have EN := hide en
  rw [en] at H1 hl ⊢
  clear en
  go_enter Tryz.func108, Tryz.ntmps108
  go_wp2
  go_loopw [8] (IdxR w xs y) (fun iv _ => n - (intOf iv).toNat)
  case atStart => exact ⟨0, by omega, rfl, rfl, fun j x hj => absurd hj (Nat.not_lt_zero j)⟩
  case round =>
    obtain ⟨i, hi, rfl, rfl, HA⟩ := hrel
    rw [EN.out] at hi
    by_cases hlt : i < n
    · have hlt' : (i : Int) < (n : Int) := by omega
      have hi0 : (0 : Int) ≤ (i : Int) := by omega
      have hix : i < xs.length := by rw [EN.out]; exact hlt
      obtain ⟨ao', c', e1, hc1⟩ := H1.out
      injection e1 with e2 e3 e4
      subst e2
      obtain ⟨a, rfl, _, hx⟩ := hc1 i hix
      have EX : Hid (xs[i]? = some xs[i]) := List.getElem?_eq_getElem hix
      obtain ⟨x, ex⟩ : ∃ x, xs[i] = x := ⟨_, rfl⟩
      rw [ex] at hx EX
      clear ex hc1 e3 e4
      by_cases hxy : y = x
      · subst hxy
        go_wp2
        go_ret
        exact ⟨_, rfl, rfl, ⟨fun _ => List.mem_iff_getElem?.2 ⟨i, EX.out⟩, fun _ => by omega⟩⟩
      · go_wp2
        go_roundw
        case rel => exact ⟨i + 1, by rw [EN.out]; omega, by go_num, rfl, fun j z hj hz => by
          rcases Nat.lt_succ_iff_lt_or_eq.1 hj with h | h
          · exact HA.out j z h hz
          · subst h; rw [EX.out] at hz; cases hz; exact hxy⟩
        case measure => simp [intOf]; omega
    · have hlt' : ¬ (i : Int) < (n : Int) := by omega
      go_wp2
      go_ret
      exact ⟨_, rfl, rfl, ⟨fun h => absurd h (by decide), fun h => by
        obtain ⟨j, hj⟩ := List.mem_iff_getElem?.1 h
        have hj2 := (List.getElem?_eq_some_iff.1 hj).1
        rw [EN.out] at hj2
        exact absurd rfl (HA.out j y (by omega) hj)⟩⟩

theorem contains_any (v : Value) (xs : List Int) (y : Int) (w : World) (h1 : IntsAt w v xs) (hl : xs.length ≤ 1048576) :
    Calls Tryz.prog 99 #[v, .int .i64 y] w fun e w' => e = .returned (.bool (decide (y ∈ xs))) ∧ w' = w := by
  have C := fun w h => hide (index_any v xs y w h hl)
  obtain ⟨b, hb⟩ : ∃ b, decide (y ∈ xs) = b := ⟨_, rfl⟩
  rw [hb]
  have HB := hide hb
  have H1 := hide h1
  clear hb h1
  go_enter Tryz.func99, Tryz.ntmps99
  go_wp2_with (go_at_call 108; refine (unhide (C _ H1.out)).mono ?_; rintro e w1 ⟨i, rfl, rfl, hi⟩; have HI := hide hi; clear hi)
  go_ret
  refine ⟨?_, rfl⟩
  rw [← HB.out]
  by_cases h : y ∈ xs
  · simp [h, HI.out.2 h]
  · have : ¬ 0 ≤ i := fun h2 => h (HI.out.1 h2)
    simp [h, this]
end Go.Proofs.YtdfahpachbhglaaGreatDoor
