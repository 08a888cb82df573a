/-
  Walks: a node as what its kind says, by the program.
-/
import Derived.Test.YthlbboppdmdceaaImpA
import Derived.Test.YthlbboppdmdceaaTreeO
namespace Go.Proofs.Ythlbboppdmdceaa
open Go.RowKit

/-- A node in a box of its own, its cells alone. -/
structure NdBox (B : Nat) (w : World) (kd nu : Int) (nm mo it : ByteArray) (kv : Value) : Prop where
  c0 : w.cell? ⟨B, 0, none⟩ = some (.int .i64 kd)
  c1 : w.cell? ⟨B, 1, none⟩ = some (.int .i64 nu)
  c2 : w.cell? ⟨B, 2, none⟩ = some (.string nm)
  c3 : w.cell? ⟨B, 3, none⟩ = some (.string mo)
  c4 : w.cell? ⟨B, 4, none⟩ = some (.string it)
  c5 : w.cell? ⟨B, 5, none⟩ = some kv
  lt : B < w.heap.size
theorem NdBox.made (w : World) (kd nu : Int) (nm mo it : ByteArray) (kv : Value) (t : TypeId) :
    NdBox w.heap.size (w.alloc (.cells #[.int .i64 kd, .int .i64 nu, .string nm, .string mo, .string it, kv] t)) kd nu nm mo it kv := by
  refine ⟨?_, ?_, ?_, ?_, ?_, ?_, ?_⟩
  · rw [World.cell?_alloc_new]; rfl
  · rw [World.cell?_alloc_new]; rfl
  · rw [World.cell?_alloc_new]; rfl
  · rw [World.cell?_alloc_new]; rfl
  · rw [World.cell?_alloc_new]; rfl
  · rw [World.cell?_alloc_new]; rfl
  · simp
theorem NdBox.stays {B : Nat} {w w' : World} {kd nu : Int} {nm mo it : ByteArray} {kv : Value} (h : NdBox B w kd nu nm mo it kv) (hb : Below w.heap.size w w') : NdBox B w' kd nu nm mo it kv :=
  ⟨(hb.cell (p := ⟨B, 0, none⟩) h.lt).trans h.c0, (hb.cell (p := ⟨B, 1, none⟩) h.lt).trans h.c1, (hb.cell (p := ⟨B, 2, none⟩) h.lt).trans h.c2,
    (hb.cell (p := ⟨B, 3, none⟩) h.lt).trans h.c3, (hb.cell (p := ⟨B, 4, none⟩) h.lt).trans h.c4, (hb.cell (p := ⟨B, 5, none⟩) h.lt).trans h.c5,
    Nat.lt_of_lt_of_le h.lt hb.size⟩

/-- A node as what its kind says. -/
def typedV (kd nu : Int) (nm mo it : ByteArray) (kv : Value) (ks : List Int) : Value :=
  if kd = 1 then .iface 82 (.agg #[.int .i64 nu])
  else if kd = 2 then .iface 84 (.agg #[.string nm])
  else if kd = 3 then .iface 87 (.agg #[.int .i64 nu, .int .i64 (ks[0]?.getD (-1)), .int .i64 (ks[1]?.getD (-1))])
  else if kd = 4 then .iface 89 (.agg #[.int .i64 (ks[0]?.getD (-1))])
  else if kd = 5 then .iface 90 (.agg #[.int .i64 (ks[0]?.getD (-1))])
  else if kd = 11 then .iface 92 (.agg #[.string nm, .int .i64 (ks[0]?.getD (-1))])
  else if kd = 12 then .iface 94 (.agg #[.int .i64 (ks[0]?.getD (-1)), .int .i64 (ks[1]?.getD (-1)), .int .i64 (ks[2]?.getD (-1))])
  else if kd = 13 then .iface 96 (.agg #[.int .i64 (ks[0]?.getD (-1)), .int .i64 (ks[1]?.getD (-1))])
  else if kd = 14 then .iface 98 (.agg #[.string nm, .string mo, .string it, .int .i64 (ks[0]?.getD (-1))])
  else if kd = 15 then .iface 100 (.agg #[.int .i64 (ks[0]?.getD (-1))])
  else if kd = 16 then .iface 101 (.agg #[.string nm])
  else if kd = 17 then .iface 102 (.agg #[.string nm])
  else if kd = 18 then .iface 103 (.agg #[.string nm])
  else if kd = 19 then .iface 105 (.agg #[])
  else if kd = 20 then .iface 107 (.agg #[kv])
  else .nilIface

/-- What holds of the world while a node's type is found. -/
abbrev TyS (W : World) (B : Nat) (kd nu : Int) (nm mo it : ByteArray) (kv : Value) (ks : List Int) (w' : World) : Prop :=
  w'.cell? ⟨B, 0, none⟩ = some (.int .i64 kd) ∧ w'.cell? ⟨B, 1, none⟩ = some (.int .i64 nu) ∧ w'.cell? ⟨B, 2, none⟩ = some (.string nm) ∧ w'.cell? ⟨B, 3, none⟩ = some (.string mo) ∧ w'.cell? ⟨B, 4, none⟩ = some (.string it) ∧ w'.cell? ⟨B, 5, none⟩ = some kv
    ∧ Hid (B < w'.heap.size ∧ IntsAt w' kv ks ∧ Below W.heap.size W w')
theorem TyS.stays {W : World} {B : Nat} {kd nu : Int} {nm mo it : ByteArray} {kv : Value} {ks : List Int} {w w' : World} (h : TyS W B kd nu nm mo it kv ks w) (hb : Below w.heap.size w w') : TyS W B kd nu nm mo it kv ks w' := by
  obtain ⟨c0, c1, c2, c3, c4, c5, l, hk, hbw⟩ := h
  exact ⟨(hb.cell (p := ⟨B, 0, none⟩) l).trans c0, (hb.cell (p := ⟨B, 1, none⟩) l).trans c1, (hb.cell (p := ⟨B, 2, none⟩) l).trans c2, (hb.cell (p := ⟨B, 3, none⟩) l).trans c3, (hb.cell (p := ⟨B, 4, none⟩) l).trans c4, (hb.cell (p := ⟨B, 5, none⟩) l).trans c5, Nat.lt_of_lt_of_le l hb.size, hk.stays hb, hbw.trans (hb.mono hbw.size)⟩

theorem TyS.kids {W : World} {B : Nat} {kd nu : Int} {nm mo it : ByteArray} {kv : Value} {ks : List Int} {w : World} (h : TyS W B kd nu nm mo it kv ks w) : IntsAt w kv ks := h.2.2.2.2.2.2.out.2.1
theorem TyS.below {W : World} {B : Nat} {kd nu : Int} {nm mo it : ByteArray} {kv : Value} {ks : List Int} {w : World} (h : TyS W B kd nu nm mo it kv ks w) : Below W.heap.size W w := h.2.2.2.2.2.2.out.2.2
theorem TyS.drew {W : World} {B : Nat} {kd nu : Int} {nm mo it : ByteArray} {kv : Value} {ks : List Int} {w : World} (h : TyS W B kd nu nm mo it kv ks w) : TyS W B kd nu nm mo it kv ks w.drew := h.stays (Below.refl _ _).drew

set_option maxRecDepth 100000 in
set_option maxHeartbeats 4000000 in
theorem typed_any (kd nu : Int) (nm mo it : ByteArray) (kv : Value) (ks : List Int) (w : World) (hK : IntsAt w kv ks) :
    Calls Try.prog 24 #[.agg #[.int .i64 kd, .int .i64 nu, .string nm, .string mo, .string it, kv]] w fun e w' => e = .returned (typedV kd nu nm mo it kv ks) ∧ Below w.heap.size w w' := by
  have hb : Below w.heap.size w (w.alloc (.cells #[.int .i64 kd, .int .i64 nu, .string nm, .string mo, .string it, kv] 45)) := (Below.refl _ _).alloc (Nat.le_refl _) _
  have hx := NdBox.made w kd nu nm mo it kv 45
  have hS : Hid (TyS w w.heap.size kd nu nm mo it kv ks (w.alloc (.cells #[.int .i64 kd, .int .i64 nu, .string nm, .string mo, .string it, kv] 45))) := ⟨hx.c0, hx.c1, hx.c2, hx.c3, hx.c4, hx.c5, hx.lt, hK.stays hb, hb⟩
  have HB := hide hb
  have CK := fun (i : Int) w hi h => hide (kid_at kd nu nm mo it kv ks i w hi h)
  clear hK hb hx
  by_cases h1 : kd = 1
  · subst h1
    have HE : Hid (typedV 1 nu nm mo it kv ks = .iface 82 (.agg #[.int .i64 nu])) := rfl
    (
  go_enter Try.func24, Try.ntmps24;
  go_wp2;
  go_ret;
  exact ⟨by rw [HE.out]; rfl, HB.out⟩)
  by_cases h2 : kd = 2
  · subst h2
    have HE : Hid (typedV 2 nu nm mo it kv ks = .iface 84 (.agg #[.string nm])) := rfl
    (
  go_enter Try.func24, Try.ntmps24;
  go_wp2;
  go_ret;
  exact ⟨by rw [HE.out]; rfl, HB.out⟩)
  by_cases h3 : kd = 3
  · subst h3
    have HE : Hid (typedV 3 nu nm mo it kv ks = .iface 87 (.agg #[.int .i64 nu, .int .i64 (ks[0]?.getD (-1)), .int .i64 (ks[1]?.getD (-1))])) := rfl
    (
  (
  go_enter Try.func24, Try.ntmps24;
  go_wp2;
  obtain ⟨W1, hW⟩ : ∃ W1, w.alloc (.cells #[.int .i64 3, .int .i64 nu, .string nm, .string mo, .string it, kv] 45) = W1 := ⟨_, rfl⟩;
  rw [hW] at hS ⊢;
  have hS1 := hS.out;
  obtain ⟨c0, c1, c2, c3, c4, c5, hh⟩ := hS1;
  clear hS hW HB);
  go_region_held3 (fun w' => w'.cell? ⟨w.heap.size, 0, none⟩ = some (.int .i64 3) ∧ w'.cell? ⟨w.heap.size, 1, none⟩ = some (.int .i64 nu) ∧ w'.cell? ⟨w.heap.size, 2, none⟩ = some (.string nm) ∧ w'.cell? ⟨w.heap.size, 3, none⟩ = some (.string mo) ∧ w'.cell? ⟨w.heap.size, 4, none⟩ = some (.string it) ∧ w'.cell? ⟨w.heap.size, 5, none⟩ = some kv
    ∧ Hid (w.heap.size < w'.heap.size ∧ IntsAt w' kv ks ∧ Below w.heap.size w w')) (first | exact TyS.drew ⟨c0, c1, c2, c3, c4, c5, hh⟩ | exact TyS.stays (by assumption) hb2)
    ((go_at_call 49; refine (unhide (CK _ _ ?_ (TyS.kids (by assumption)))).mono ?_; (decide); rintro e w2 ⟨rfl, hb2⟩));
  all_goals go_wp2;
  all_goals go_ret;
  all_goals exact ⟨by rw [HE.out]; rfl, TyS.below (by assumption)⟩)
  by_cases h4 : kd = 4
  · subst h4
    have HE : Hid (typedV 4 nu nm mo it kv ks = .iface 89 (.agg #[.int .i64 (ks[0]?.getD (-1))])) := rfl
    (
  go_enter Try.func24, Try.ntmps24;
  go_wp2_with (go_at_call 49; refine (unhide (CK _ _ ?_ (TyS.kids hS.out))).mono ?_; (decide); rintro e w2 ⟨rfl, hb2⟩; have HB := hide (HB.out.trans (hb2.mono HB.out.size)); clear hb2);
  go_ret;
  exact ⟨by rw [HE.out]; rfl, HB.out⟩)
  by_cases h5 : kd = 5
  · subst h5
    have HE : Hid (typedV 5 nu nm mo it kv ks = .iface 90 (.agg #[.int .i64 (ks[0]?.getD (-1))])) := rfl
    (
  go_enter Try.func24, Try.ntmps24;
  go_wp2_with (go_at_call 49; refine (unhide (CK _ _ ?_ (TyS.kids hS.out))).mono ?_; (decide); rintro e w2 ⟨rfl, hb2⟩; have HB := hide (HB.out.trans (hb2.mono HB.out.size)); clear hb2);
  go_ret;
  exact ⟨by rw [HE.out]; rfl, HB.out⟩)
  by_cases h11 : kd = 11
  · subst h11
    have HE : Hid (typedV 11 nu nm mo it kv ks = .iface 92 (.agg #[.string nm, .int .i64 (ks[0]?.getD (-1))])) := rfl
    (
  (
  go_enter Try.func24, Try.ntmps24;
  go_wp2;
  obtain ⟨W1, hW⟩ : ∃ W1, w.alloc (.cells #[.int .i64 11, .int .i64 nu, .string nm, .string mo, .string it, kv] 45) = W1 := ⟨_, rfl⟩;
  rw [hW] at hS ⊢;
  have hS1 := hS.out;
  obtain ⟨c0, c1, c2, c3, c4, c5, hh⟩ := hS1;
  clear hS hW HB);
  go_region_held3 (fun w' => w'.cell? ⟨w.heap.size, 0, none⟩ = some (.int .i64 11) ∧ w'.cell? ⟨w.heap.size, 1, none⟩ = some (.int .i64 nu) ∧ w'.cell? ⟨w.heap.size, 2, none⟩ = some (.string nm) ∧ w'.cell? ⟨w.heap.size, 3, none⟩ = some (.string mo) ∧ w'.cell? ⟨w.heap.size, 4, none⟩ = some (.string it) ∧ w'.cell? ⟨w.heap.size, 5, none⟩ = some kv
    ∧ Hid (w.heap.size < w'.heap.size ∧ IntsAt w' kv ks ∧ Below w.heap.size w w')) (first | exact TyS.drew ⟨c0, c1, c2, c3, c4, c5, hh⟩ | exact TyS.stays (by assumption) hb2)
    ((go_at_call 49; refine (unhide (CK _ _ ?_ (TyS.kids (by assumption)))).mono ?_; (decide); rintro e w2 ⟨rfl, hb2⟩));
  all_goals go_wp2;
  all_goals go_ret;
  all_goals exact ⟨by rw [HE.out]; rfl, TyS.below (by assumption)⟩)
  by_cases h12 : kd = 12
  · subst h12
    have HE : Hid (typedV 12 nu nm mo it kv ks = .iface 94 (.agg #[.int .i64 (ks[0]?.getD (-1)), .int .i64 (ks[1]?.getD (-1)), .int .i64 (ks[2]?.getD (-1))])) := rfl
    (
  (
  go_enter Try.func24, Try.ntmps24;
  go_wp2;
  obtain ⟨W1, hW⟩ : ∃ W1, w.alloc (.cells #[.int .i64 12, .int .i64 nu, .string nm, .string mo, .string it, kv] 45) = W1 := ⟨_, rfl⟩;
  rw [hW] at hS ⊢;
  have hS1 := hS.out;
  obtain ⟨c0, c1, c2, c3, c4, c5, hh⟩ := hS1;
  clear hS hW HB);
  go_region_held3 (fun w' => w'.cell? ⟨w.heap.size, 0, none⟩ = some (.int .i64 12) ∧ w'.cell? ⟨w.heap.size, 1, none⟩ = some (.int .i64 nu) ∧ w'.cell? ⟨w.heap.size, 2, none⟩ = some (.string nm) ∧ w'.cell? ⟨w.heap.size, 3, none⟩ = some (.string mo) ∧ w'.cell? ⟨w.heap.size, 4, none⟩ = some (.string it) ∧ w'.cell? ⟨w.heap.size, 5, none⟩ = some kv
    ∧ Hid (w.heap.size < w'.heap.size ∧ IntsAt w' kv ks ∧ Below w.heap.size w w')) (first | exact TyS.drew ⟨c0, c1, c2, c3, c4, c5, hh⟩ | exact TyS.stays (by assumption) hb2)
    ((go_at_call 49; refine (unhide (CK _ _ ?_ (TyS.kids (by assumption)))).mono ?_; (decide); rintro e w2 ⟨rfl, hb2⟩));
  all_goals go_wp2;
  all_goals go_ret;
  all_goals exact ⟨by rw [HE.out]; rfl, TyS.below (by assumption)⟩)
  by_cases h13 : kd = 13
  · subst h13
    have HE : Hid (typedV 13 nu nm mo it kv ks = .iface 96 (.agg #[.int .i64 (ks[0]?.getD (-1)), .int .i64 (ks[1]?.getD (-1))])) := rfl
    (
  (
  go_enter Try.func24, Try.ntmps24;
  go_wp2;
  obtain ⟨W1, hW⟩ : ∃ W1, w.alloc (.cells #[.int .i64 13, .int .i64 nu, .string nm, .string mo, .string it, kv] 45) = W1 := ⟨_, rfl⟩;
  rw [hW] at hS ⊢;
  have hS1 := hS.out;
  obtain ⟨c0, c1, c2, c3, c4, c5, hh⟩ := hS1;
  clear hS hW HB);
  go_region_held3 (fun w' => w'.cell? ⟨w.heap.size, 0, none⟩ = some (.int .i64 13) ∧ w'.cell? ⟨w.heap.size, 1, none⟩ = some (.int .i64 nu) ∧ w'.cell? ⟨w.heap.size, 2, none⟩ = some (.string nm) ∧ w'.cell? ⟨w.heap.size, 3, none⟩ = some (.string mo) ∧ w'.cell? ⟨w.heap.size, 4, none⟩ = some (.string it) ∧ w'.cell? ⟨w.heap.size, 5, none⟩ = some kv
    ∧ Hid (w.heap.size < w'.heap.size ∧ IntsAt w' kv ks ∧ Below w.heap.size w w')) (first | exact TyS.drew ⟨c0, c1, c2, c3, c4, c5, hh⟩ | exact TyS.stays (by assumption) hb2)
    ((go_at_call 49; refine (unhide (CK _ _ ?_ (TyS.kids (by assumption)))).mono ?_; (decide); rintro e w2 ⟨rfl, hb2⟩));
  all_goals go_wp2;
  all_goals go_ret;
  all_goals exact ⟨by rw [HE.out]; rfl, TyS.below (by assumption)⟩)
  by_cases h14 : kd = 14
  · subst h14
    have HE : Hid (typedV 14 nu nm mo it kv ks = .iface 98 (.agg #[.string nm, .string mo, .string it, .int .i64 (ks[0]?.getD (-1))])) := rfl
    (
  (
  go_enter Try.func24, Try.ntmps24;
  go_wp2;
  obtain ⟨W1, hW⟩ : ∃ W1, w.alloc (.cells #[.int .i64 14, .int .i64 nu, .string nm, .string mo, .string it, kv] 45) = W1 := ⟨_, rfl⟩;
  rw [hW] at hS ⊢;
  have hS1 := hS.out;
  obtain ⟨c0, c1, c2, c3, c4, c5, hh⟩ := hS1;
  clear hS hW HB);
  go_region_held3 (fun w' => w'.cell? ⟨w.heap.size, 0, none⟩ = some (.int .i64 14) ∧ w'.cell? ⟨w.heap.size, 1, none⟩ = some (.int .i64 nu) ∧ w'.cell? ⟨w.heap.size, 2, none⟩ = some (.string nm) ∧ w'.cell? ⟨w.heap.size, 3, none⟩ = some (.string mo) ∧ w'.cell? ⟨w.heap.size, 4, none⟩ = some (.string it) ∧ w'.cell? ⟨w.heap.size, 5, none⟩ = some kv
    ∧ Hid (w.heap.size < w'.heap.size ∧ IntsAt w' kv ks ∧ Below w.heap.size w w')) (first | exact TyS.drew ⟨c0, c1, c2, c3, c4, c5, hh⟩ | exact TyS.stays (by assumption) hb2)
    ((go_at_call 49; refine (unhide (CK _ _ ?_ (TyS.kids (by assumption)))).mono ?_; (decide); rintro e w2 ⟨rfl, hb2⟩));
  all_goals go_wp2;
  all_goals go_ret;
  all_goals exact ⟨by rw [HE.out]; rfl, TyS.below (by assumption)⟩)
  by_cases h15 : kd = 15
  · subst h15
    have HE : Hid (typedV 15 nu nm mo it kv ks = .iface 100 (.agg #[.int .i64 (ks[0]?.getD (-1))])) := rfl
    (
  go_enter Try.func24, Try.ntmps24;
  go_wp2_with (go_at_call 49; refine (unhide (CK _ _ ?_ (TyS.kids hS.out))).mono ?_; (decide); rintro e w2 ⟨rfl, hb2⟩; have HB := hide (HB.out.trans (hb2.mono HB.out.size)); clear hb2);
  go_ret;
  exact ⟨by rw [HE.out]; rfl, HB.out⟩)
  by_cases h16 : kd = 16
  · subst h16
    have HE : Hid (typedV 16 nu nm mo it kv ks = .iface 101 (.agg #[.string nm])) := rfl
    (
  go_enter Try.func24, Try.ntmps24;
  go_wp2;
  go_ret;
  exact ⟨by rw [HE.out]; rfl, HB.out⟩)
  by_cases h17 : kd = 17
  · subst h17
    have HE : Hid (typedV 17 nu nm mo it kv ks = .iface 102 (.agg #[.string nm])) := rfl
    (
  go_enter Try.func24, Try.ntmps24;
  go_wp2;
  go_ret;
  exact ⟨by rw [HE.out]; rfl, HB.out⟩)
  by_cases h18 : kd = 18
  · subst h18
    have HE : Hid (typedV 18 nu nm mo it kv ks = .iface 103 (.agg #[.string nm])) := rfl
    (
  go_enter Try.func24, Try.ntmps24;
  go_wp2;
  go_ret;
  exact ⟨by rw [HE.out]; rfl, HB.out⟩)
  by_cases h19 : kd = 19
  · subst h19
    have HE : Hid (typedV 19 nu nm mo it kv ks = .iface 105 (.agg #[])) := rfl
    (
  go_enter Try.func24, Try.ntmps24;
  go_wp2;
  go_ret;
  exact ⟨by rw [HE.out]; rfl, HB.out⟩)
  by_cases h20 : kd = 20
  · subst h20
    have HE : Hid (typedV 20 nu nm mo it kv ks = .iface 107 (.agg #[kv])) := rfl
    obtain ⟨ao, c, rfl, _⟩ := hS.out.kids
    (
  go_enter Try.func24, Try.ntmps24;
  go_wp2;
  go_ret;
  exact ⟨by rw [HE.out]; rfl, HB.out⟩)
  have HE : Hid (typedV kd nu nm mo it kv ks = .nilIface) := by
    show _ = _
    simp only [typedV, if_neg h1, if_neg h2, if_neg h3, if_neg h4, if_neg h5, if_neg h11, if_neg h12, if_neg h13, if_neg h14, if_neg h15, if_neg h16, if_neg h17, if_neg h18, if_neg h19, if_neg h20]
  (
  go_enter Try.func24, Try.ntmps24;
  go_wp2;
  go_ret;
  exact ⟨by rw [HE.out]; rfl, HB.out⟩)
end Go.Proofs.Ythlbboppdmdceaa
