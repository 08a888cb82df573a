/-
  Walks: the Envs that the laws draw; Envs that are the same.
-/
import Derived.Test.YtmckcbgdkjbpfaaDrwF
import Derived.Test.YtmckcbgdkjbpfaaBoxR
namespace Go.Proofs.Ytmckcbgdkjbpfaa
open Go.RowKit

theorem env_fin {w z : World} {R B : Nat} {r0 r1 : Value} {x : Ev} (hr : ∃ a b, Box z R #[a, b] 27) (ho : EvOwn B z r0 r1 x) (hb : Below w.heap.size w z) (h1 : w.heap.size ≤ R) (h2 : R < B) :
    ∃ W, (z.setCell ⟨R, 0, none⟩ r0).setCell ⟨R, 1, none⟩ r1 = W ∧ Box W R #[r0, r1] 27 ∧ EvOwn (R + 1) W r0 r1 x ∧ Below w.heap.size w W ∧ (∀ k, k ≠ R → W.heap[k]? = z.heap[k]?) := by
  obtain ⟨a, b, hr⟩ := hr
  have e : ∀ k, k ≠ R → ((z.setCell ⟨R, 0, none⟩ r0).setCell ⟨R, 1, none⟩ r1).heap[k]? = z.heap[k]? := fun k hk =>
    (Below.heap_setCell _ ⟨R, 1, none⟩ _ k (by show k ≠ R; exact hk)).trans (Below.heap_setCell _ ⟨R, 0, none⟩ _ k (by show k ≠ R; exact hk))
  refine ⟨_, rfl, by simpa using (hr.set 0 r0).set 1 r1, ⟨owns_lo (owns_eq ho.o0 fun k hk => e k (by have := (ho.o0.lt k hk).1; omega)) (by omega), owns_lo (owns_eq ho.o1 fun k hk => e k (by have := (ho.o1.lt k hk).1; omega)) (by omega), ho.ap⟩, (hb.setCell (p := ⟨R, 0, none⟩) h1 _).setCell (p := ⟨R, 1, none⟩) h1 _, e⟩

set_option maxRecDepth 100000 in
set_option maxHeartbeats 2000000 in
theorem drawEnv (w : World) (base : Nat) (v : Value) (n : Nat) (hn : n ≤ 1048576) (H : CodeAt w base v n) (hb : base ≤ w.heap.size) :
    Calls Try.prog 13 #[v] w fun e w' => ∃ r0 r1 x k, e = .returned (.agg #[r0, r1]) ∧ EvOwn w.heap.size w' r0 r1 x ∧ Dr5 x k ∧ 1 ≤ k ∧ Below w.heap.size w w' := by
  obtain ⟨W1, hW⟩ : ∃ W1, w.alloc (.cells #[.slice none 0 0, .slice none 0 0] 27) = W1 := ⟨_, rfl⟩
  have B1 : Hid (Below w.heap.size w W1) := by rw [← hW]; show Below w.heap.size w _; go_grown
  have BR : Hid (Box W1 w.heap.size #[.slice none 0 0, .slice none 0 0] 27) := by rw [← hW]; exact hide (Box.made _ _ _)
  have HS1 : Hid (W1.heap.size = w.heap.size + 1) := by rw [← hW]; show _ = _; simp
  have NW := hide (new_any W1 base v n hn (H.below (B1.out.mono hb)) (Nat.le_trans hb B1.out.size))
  have HW := hide hW
  clear hW H
  go_enter Try.func13, Try.ntmps13
  go_wp2_with fail
  rw [HW.out]
  refine NW.out.mono ?_
  rintro e z1 ⟨rfl, hb1, hc1⟩
  have HB1 := hide hb1
  have HC1 := hide hc1
  clear hb1 hc1
  go_wp2_with fail
  refine (l10Env_any z1 base W1.heap.size HC1.out).mono ?_
  rintro e z2 ⟨r0, r1, x, k, rfl, ho2, hd2, hk2, hf2, hc2⟩
  obtain ⟨p0, k0, rfl⟩ := form_own ho2.o0
  obtain ⟨p1, k1, rfl⟩ := form_own ho2.o1
  have hs1 := HS1.out
  have hs2 := HB1.out.size
  have hr2 : Box z2 w.heap.size #[.slice none 0 0, .slice none 0 0] 27 := box_far hf2 (BR.out.stays HB1.out) (by omega)
  have hbb : Below w.heap.size w z2 := (B1.out.trans (HB1.out.mono B1.out.size)).trans (hf2.below (by omega) (by omega))
  have s4 := Lib.cell_of_heap hr2 0
  have s5 := Lib.cell_of_heap hr2 1
  have g4 := Lib.frozen_of_heap hr2 0
  have g5 := Lib.frozen_of_heap hr2 1
  simp at s4 s5
  obtain ⟨W, eW, hB, hO, hF, _⟩ := env_fin (w := w) ⟨_, _, hr2⟩ ho2 hbb (Nat.le_refl _) (by omega)
  have HR := hide (And.intro hB (And.intro hO (And.intro hF (And.intro hd2 hc2))))
  have EW := hide eW
  clear hB hO hF eW ho2 hd2 hf2 hc2 hr2 hbb hs1 hs2
  go_wp2
  rw [EW.out]
  refine box_ret (g := w.heap.size) (t := 27) (cs := #[.slice p0 x.names.length k0, .slice p1 x.vals.length k1]) rfl rfl ?_ _ Try.underlying27 rfl (by kernel_rfl) rfl ?_
  · exact HR.out.1
  · obtain ⟨_, hO, hF, hd2, _⟩ := HR.out
    exact ⟨_, _, _, k, rfl, hO.lo (by omega), hd2, hk2, hF⟩

set_option maxRecDepth 100000 in
set_option maxHeartbeats 2000000 in
theorem drawEnvOk (w : World) (base : Nat) (v : Value) (n : Nat) (hn : n ≤ 1048576) (H : CodeAt w base v n) (hb : base ≤ w.heap.size) :
    Calls Try.prog 18 #[v] w fun e w' => ∃ r0 r1 x, e = .returned (.agg #[r0, r1]) ∧ EvOwn w.heap.size w' r0 r1 x ∧ Sm6 x ∧ Below w.heap.size w w' := by
  obtain ⟨W1, hW⟩ : ∃ W1, w.alloc (.cells #[.slice none 0 0, .slice none 0 0] 27) = W1 := ⟨_, rfl⟩
  have B1 : Hid (Below w.heap.size w W1) := by rw [← hW]; show Below w.heap.size w _; go_grown
  have BR : Hid (Box W1 w.heap.size #[.slice none 0 0, .slice none 0 0] 27) := by rw [← hW]; exact hide (Box.made _ _ _)
  have HS1 : Hid (W1.heap.size = w.heap.size + 1) := by rw [← hW]; show _ = _; simp
  have NW := hide (new_any W1 base v n hn (H.below (B1.out.mono hb)) (Nat.le_trans hb B1.out.size))
  have HW := hide hW
  clear hW H
  go_enter Try.func18, Try.ntmps18
  go_wp2_with fail
  rw [HW.out]
  refine NW.out.mono ?_
  rintro e z1 ⟨rfl, hb1, hc1⟩
  have HB1 := hide hb1
  have HC1 := hide hc1
  clear hb1 hc1
  go_wp2_with fail
  refine (l10Any_any z1 base W1.heap.size HC1.out).mono ?_
  rintro e z2 ⟨r0, r1, x, rfl, ho2, hd2, hf2, hc2⟩
  obtain ⟨p0, k0, rfl⟩ := form_own ho2.o0
  obtain ⟨p1, k1, rfl⟩ := form_own ho2.o1
  have hs1 := HS1.out
  have hs2 := HB1.out.size
  have hr2 : Box z2 w.heap.size #[.slice none 0 0, .slice none 0 0] 27 := box_far hf2 (BR.out.stays HB1.out) (by omega)
  have hbb : Below w.heap.size w z2 := (B1.out.trans (HB1.out.mono B1.out.size)).trans (hf2.below (by omega) (by omega))
  have s4 := Lib.cell_of_heap hr2 0
  have s5 := Lib.cell_of_heap hr2 1
  have g4 := Lib.frozen_of_heap hr2 0
  have g5 := Lib.frozen_of_heap hr2 1
  simp at s4 s5
  obtain ⟨W, eW, hB, hO, hF, _⟩ := env_fin (w := w) ⟨_, _, hr2⟩ ho2 hbb (Nat.le_refl _) (by omega)
  have HR := hide (And.intro hB (And.intro hO (And.intro hF (And.intro hd2 hc2))))
  have EW := hide eW
  clear hB hO hF eW ho2 hd2 hf2 hc2 hr2 hbb hs1 hs2
  go_wp2
  rw [EW.out]
  refine box_ret (g := w.heap.size) (t := 27) (cs := #[.slice p0 x.names.length k0, .slice p1 x.vals.length k1]) rfl rfl ?_ _ Try.underlying27 rfl (by kernel_rfl) rfl ?_
  · exact HR.out.1
  · obtain ⟨_, hO, hF, hd2, _⟩ := HR.out
    exact ⟨_, _, _, rfl, hO.lo (by omega), hd2, hF⟩

set_option maxRecDepth 100000 in
set_option maxHeartbeats 2000000 in
theorem drawPutIn (w : World) (base : Nat) (v : Value) (n : Nat) (hn : n ≤ 1048576) (H : CodeAt w base v n) (hb : base ≤ w.heap.size) :
    Calls Try.prog 19 #[v] w fun e w' => ∃ r0 r1 x s u, e = .returned (.tuple #[.agg #[r0, r1], .string s, .int .i64 u]) ∧ EvOwn w.heap.size w' r0 r1 x ∧ Sm6 x ∧ s.size ≤ 6 ∧ Below w.heap.size w w' := by
  obtain ⟨W1, hW⟩ : ∃ W1, w.alloc (.cells #[.slice none 0 0, .slice none 0 0] 27) = W1 := ⟨_, rfl⟩
  have B1 : Hid (Below w.heap.size w W1) := by rw [← hW]; show Below w.heap.size w _; go_grown
  have BR : Hid (Box W1 w.heap.size #[.slice none 0 0, .slice none 0 0] 27) := by rw [← hW]; exact hide (Box.made _ _ _)
  have HS1 : Hid (W1.heap.size = w.heap.size + 1) := by rw [← hW]; show _ = _; simp
  have NW := hide (new_any W1 base v n hn (H.below (B1.out.mono hb)) (Nat.le_trans hb B1.out.size))
  have HW := hide hW
  clear hW H
  go_enter Try.func19, Try.ntmps19
  go_wp2_with fail
  rw [HW.out]
  refine NW.out.mono ?_
  rintro e z1 ⟨rfl, hb1, hc1⟩
  have HB1 := hide hb1
  have HC1 := hide hc1
  clear hb1 hc1
  have PV : Hid (∀ W, Below (z1.heap.size + 1) (z1.alloc (.cells #[.string ⟨#[118]⟩, .string ⟨#[110]⟩, .string ⟨#[114, 101, 115, 117, 108, 116]⟩, .string ⟨#[110, 111, 110, 101]⟩] 9)) W → Calls Try.prog 47 #[.pointer (some ⟨W1.heap.size, 0, none⟩), .slice (some ⟨z1.heap.size, 0, none⟩) 4 4] W fun e w' => ∃ x, x ∈ ([⟨#[118]⟩, ⟨#[110]⟩, ⟨#[114, 101, 115, 117, 108, 116]⟩, ⟨#[110, 111, 110, 101]⟩] : List ByteArray) ∧ e = .returned (.string x) ∧ Far W1.heap.size z1 w' ∧ Cur w' base W1.heap.size) := fun W h => pickStr_in z1 W base W1.heap.size [⟨#[118]⟩, ⟨#[110]⟩, ⟨#[114, 101, 115, 117, 108, 116]⟩, ⟨#[110, 111, 110, 101]⟩] 9 (by decide) (by decide) HC1.out h
  go_wp2_with fail
  refine (PV.out _ (Below.refl _ _)).mono ?_
  rintro e z2 ⟨s, hs2, rfl, hf2, hc2⟩
  have HSS : Hid (s.size ≤ 6) := (by decide : ∀ v ∈ ([⟨#[118]⟩, ⟨#[110]⟩, ⟨#[114, 101, 115, 117, 108, 116]⟩, ⟨#[110, 111, 110, 101]⟩] : List ByteArray), v.size ≤ 6) s hs2
  have HF2 := hide hf2
  have HC2 := hide hc2
  clear hs2 hf2 hc2 PV
  go_wp2_with fail
  refine (val_any z2 base W1.heap.size HC2.out).mono ?_
  rintro e z3 ⟨u, rfl, hf3, hc3⟩
  have HF3 := hide hf3
  have HC3 := hide hc3
  clear hf3 hc3
  go_wp2_with fail
  refine (l10Any_any z3 base W1.heap.size HC3.out).mono ?_
  rintro e z4 ⟨r0, r1, x, rfl, ho4, hd4, hf4, hc4⟩
  obtain ⟨p0, k0, rfl⟩ := form_own ho4.o0
  obtain ⟨p1, k1, rfl⟩ := form_own ho4.o1
  have hs1 := HS1.out
  have hs2 := HB1.out.size
  have hs3 := HF2.out.size
  have hs4 := HF3.out.size
  have FF := (HF2.out.trans HF3.out).trans hf4
  have hr2 : Box z4 w.heap.size #[.slice none 0 0, .slice none 0 0] 27 := box_far FF (BR.out.stays HB1.out) (by omega)
  have hbb : Below w.heap.size w z4 := (B1.out.trans (HB1.out.mono B1.out.size)).trans (FF.below (by omega) (by omega))
  have s4 := Lib.cell_of_heap hr2 0
  have s5 := Lib.cell_of_heap hr2 1
  have g4 := Lib.frozen_of_heap hr2 0
  have g5 := Lib.frozen_of_heap hr2 1
  simp at s4 s5
  obtain ⟨W, eW, hB, hO, hF, _⟩ := env_fin (w := w) ⟨_, _, hr2⟩ ho4 hbb (Nat.le_refl _) (by omega)
  have HR := hide (And.intro hB (And.intro hO (And.intro hF hd4)))
  have EW := hide eW
  clear hB hO hF eW ho4 hd4 hf4 hc4 hr2 hbb hs1 hs2 hs3 hs4 FF
  go_wp2
  rw [EW.out]
  refine box_retVV (g := w.heap.size) (t := 27) (cs := #[.slice p0 x.names.length k0, .slice p1 x.vals.length k1]) rfl rfl ?_ _ Try.underlying27 rfl (by kernel_rfl) rfl ?_
  · exact HR.out.1
  · obtain ⟨_, hO, hF, hd4⟩ := HR.out
    exact ⟨_, _, _, s, u, rfl, hO.lo (by omega), hd4, HSS.out, hF⟩

set_option maxRecDepth 100000 in
set_option maxHeartbeats 2000000 in
theorem drawTogether (w : World) (base : Nat) (v : Value) (n : Nat) (hn : n ≤ 1048576) (H : CodeAt w base v n) (hb : base ≤ w.heap.size) :
    Calls Try.prog 16 #[v] w fun e w' => ∃ r0 r1 x t0 t1 y, e = .returned (.tuple #[.agg #[r0, r1], .agg #[t0, t1]]) ∧ EvOwn w.heap.size w' r0 r1 x ∧ Sm6 x ∧ EvOwn w.heap.size w' t0 t1 y ∧ Sm6 y ∧ Below w.heap.size w w' := by
  obtain ⟨W1, hW⟩ : ∃ W1, (w.alloc (.cells #[.slice none 0 0, .slice none 0 0] 27)).alloc (.cells #[.slice none 0 0, .slice none 0 0] 27) = W1 := ⟨_, rfl⟩
  have B1 : Hid (Below w.heap.size w W1) := by rw [← hW]; show Below w.heap.size w _; go_grown
  have BR : Hid (Box W1 w.heap.size #[.slice none 0 0, .slice none 0 0] 27) := by rw [← hW]; exact hide ((Box.made _ _ _).stays ((Below.refl _ _).alloc (Nat.le_refl _) _))
  have BS : Hid (Box W1 (w.heap.size + 1) #[.slice none 0 0, .slice none 0 0] 27) := by rw [← hW]; exact hide (Box.madeAt (by simp) _ _)
  have HS1 : Hid (W1.heap.size = w.heap.size + 2) := by rw [← hW]; show _ = _; simp
  have NW := hide (new_any W1 base v n hn (H.below (B1.out.mono hb)) (Nat.le_trans hb B1.out.size))
  have HW := hide hW
  clear hW H
  go_enter Try.func16, Try.ntmps16
  go_wp2_with fail
  rw [HW.out]
  refine NW.out.mono ?_
  rintro e z1 ⟨rfl, hb1, hc1⟩
  have HB1 := hide hb1
  have HC1 := hide hc1
  clear hb1 hc1
  go_wp2_with fail
  refine (l10Any_any z1 base W1.heap.size HC1.out).mono ?_
  rintro e z2 ⟨r0, r1, x, rfl, ho2, hd2, hf2, hc2⟩
  obtain ⟨p0, k0, rfl⟩ := form_own ho2.o0
  obtain ⟨p1, k1, rfl⟩ := form_own ho2.o1
  have hs1 := HS1.out
  have hs2 := HB1.out.size
  have hba : Below z2.heap.size z2 (z2.alloc (.cells #[.slice p0 x.names.length k0, .slice p1 x.vals.length k1] 27)) := (Below.refl _ _).alloc (Nat.le_refl _) _
  have hs3 := hf2.size
  have A2 : Hid (Box (z2.alloc (.cells #[.slice p0 x.names.length k0, .slice p1 x.vals.length k1] 27)) z2.heap.size #[.slice p0 x.names.length k0, .slice p1 x.vals.length k1] 27 ∧ Box (z2.alloc (.cells #[.slice p0 x.names.length k0, .slice p1 x.vals.length k1] 27)) w.heap.size #[.slice none 0 0, .slice none 0 0] 27 ∧ Box (z2.alloc (.cells #[.slice p0 x.names.length k0, .slice p1 x.vals.length k1] 27)) (w.heap.size + 1) #[.slice none 0 0, .slice none 0 0] 27 ∧ EvOwn z1.heap.size (z2.alloc (.cells #[.slice p0 x.names.length k0, .slice p1 x.vals.length k1] 27)) (.slice p0 x.names.length k0) (.slice p1 x.vals.length k1) x ∧ Cur (z2.alloc (.cells #[.slice p0 x.names.length k0, .slice p1 x.vals.length k1] 27)) base W1.heap.size ∧ Below w.heap.size w (z2.alloc (.cells #[.slice p0 x.names.length k0, .slice p1 x.vals.length k1] 27))) :=
    ⟨Box.made _ _ _, (box_far hf2 (BR.out.stays HB1.out) (by omega)).stays hba, (box_far hf2 (BS.out.stays HB1.out) (by omega)).stays hba, ho2.stays hba, hc2.below (hba.mono (by have := hc2.lt; omega)), ((B1.out.trans (HB1.out.mono B1.out.size)).trans (hf2.below (by omega) (by omega))).trans (hba.mono (by omega))⟩
  have HSM := hide hd2
  have HZ3 : Hid (z1.heap.size ≤ z2.heap.size) := hs3
  clear ho2 hd2 hf2 hc2 hba hs1 hs2 hs3
  obtain ⟨Z, hZ⟩ : ∃ Z, z2.alloc (.cells #[.slice p0 x.names.length k0, .slice p1 x.vals.length k1] 27) = Z := ⟨_, rfl⟩
  have HZ := hide hZ
  rw [hZ] at A2
  clear hZ
  have t0 := Lib.cell_of_heap A2.out.1 0
  have t1 := Lib.cell_of_heap A2.out.1 1
  simp at t0 t1
  have PV := hide fun W h => l10Any_any W base W1.heap.size (A2.out.2.2.2.2.1.below (w' := W) h)
  go_wp2_with fail
  rw [HZ.out]
  have HCL := hide HC1.out.lt
  have N1 : Hid (z2.heap.size ≠ W1.heap.size) := by have h1 := HCL.out; have h2 := HZ3.out; show _ ≠ _; omega
  have N2 : Hid (w.heap.size ≠ W1.heap.size) := by have h1 := HS1.out; show _ ≠ _; omega
  have N3 : Hid (w.heap.size + 1 ≠ W1.heap.size) := by have h1 := HS1.out; show _ ≠ _; omega
  go_region_law (refine step_call rfl 43 #[.pointer (some ⟨W1.heap.size, 0, none⟩)] ?_ (PV.out _ ?_) ?_; (kernel_rfl); (exact (Below.refl _ _).drew); rintro e w2 ⟨u0, u1, y, rfl, ho3, hd3, hf3, hc3⟩; refine ⟨_, rfl, ?_⟩; obtain ⟨q0, j0, e8⟩ := form_own ho3.o0; subst e8; obtain ⟨q1, j1, e9⟩ := form_own ho3.o1; subst e9; have FX : Hid (Far W1.heap.size Z w2) := (Far.ofBelow ((Below.refl _ _).drew)).trans hf3; have HO3 := hide ho3; have HD3 := hide hd3; clear ho3 hd3 hf3 hc3; have X1 := hide (box_far FX.out A2.out.1 N1.out); have X2 := hide (box_far FX.out A2.out.2.1 N2.out); have X3 := hide (box_far FX.out A2.out.2.2.1 N3.out); have r0 := Lib.cell_of_heap X1.out 0; have r1 := Lib.cell_of_heap X1.out 1; have r2 := Lib.cell_of_heap X2.out 0; have r3 := Lib.cell_of_heap X2.out 1; have r4 := Lib.cell_of_heap X3.out 0; have r5 := Lib.cell_of_heap X3.out 1; have c2 := Lib.frozen_of_heap X2.out 0; have c3 := Lib.frozen_of_heap X2.out 1; have c4 := Lib.frozen_of_heap X3.out 0; have c5 := Lib.frozen_of_heap X3.out 1; simp at r0 r1 r2 r3 r4 r5)
  all_goals
    have hs1 := HS1.out
    have hcl := HCL.out
    have hz3 := HZ3.out
    have hzz : Z.heap.size = z2.heap.size + 1 := by rw [← HZ.out]; simp
    have hzd : Z.drew.heap.size = Z.heap.size := rfl
    have OX := A2.out.2.2.2.1.far FX.out hcl
    have OY := HO3.out
    have BW : Below w.heap.size w w2 := A2.out.2.2.2.2.2.trans (FX.out.below (by omega) (by omega))
    obtain ⟨Wa, eWa, hBa, hOa, hFa, hka⟩ := env_fin (w := w) ⟨_, _, X2.out⟩ OX BW (Nat.le_refl _) (by omega)
    have hSa : Box Wa (w.heap.size + 1) #[.slice none 0 0, .slice none 0 0] 27 := (hka _ (by omega)).trans X3.out
    have OYa : EvOwn Z.drew.heap.size Wa _ _ y := ⟨owns_eq OY.o0 fun k hk => hka k (by have := (OY.o0.lt k hk).1; omega), owns_eq OY.o1 fun k hk => hka k (by have := (OY.o1.lt k hk).1; omega), OY.ap⟩
    obtain ⟨Wb, eWb, hBb, hOb, hFb, hkb⟩ := env_fin (w := w) ⟨_, _, hSa⟩ OYa hFa (Nat.le_succ _) (by omega)
    have hBa2 : Box Wb w.heap.size _ 27 := (hkb _ (by omega)).trans hBa
    have OXa : EvOwn z1.heap.size Wa _ _ x := ⟨owns_eq OX.o0 fun k hk => hka k (by have := (OX.o0.lt k hk).1; omega), owns_eq OX.o1 fun k hk => hka k (by have := (OX.o1.lt k hk).1; omega), OX.ap⟩
    have OXb : EvOwn z1.heap.size Wb _ _ x := ⟨owns_eq OXa.o0 fun k hk => hkb k (by have := (OXa.o0.lt k hk).1; omega), owns_eq OXa.o1 fun k hk => hkb k (by have := (OXa.o1.lt k hk).1; omega), OXa.ap⟩
    have R1 := hide (OXb.lo (show w.heap.size ≤ z1.heap.size by omega))
    have R2 := hide (hOb.lo (show w.heap.size ≤ w.heap.size + 1 + 1 by omega))
    have R3 := hide hFb
    have R4 := hide hBa2
    have R5 := hide hBb
    rw [← eWa] at eWb
    have EW := hide eWb
    clear hs1 hcl hz3 hzz hzd OX OY BW eWa hBa hOa hFa hka hSa OYa eWb hBb hOb hFb hkb hBa2 OXa OXb
  all_goals go_wp2
  all_goals rw [EW.out]
  all_goals
    refine box_retBB (g := w.heap.size) (g' := w.heap.size + 1) (t := 27) (t' := 27) (cs := #[.slice p0 x.names.length k0, .slice p1 x.vals.length k1]) (cs' := #[.slice q0 y.names.length j0, .slice q1 y.vals.length j1]) rfl rfl rfl R4.out R5.out _ _ Try.underlying27 Try.underlying27 rfl rfl (by kernel_rfl) (by kernel_rfl) rfl ?_
    exact ⟨_, _, _, _, _, _, rfl, R1.out, HSM.out, R2.out, HD3.out, R3.out⟩

set_option maxRecDepth 100000 in
set_option maxHeartbeats 1000000 in
theorem sameInts_same (p q : Value) (xs : List Int) (w : World) (h : IntsAt w p xs) (k : IntsAt w q xs) (hl : xs.length ≤ 1048576) :
    Calls Try.prog 53 #[p, q] w fun e w' => e = .returned (.bool true) ∧ Below w.heap.size w w' := by
  have H1 := hide h
  have H2 := hide k
  obtain ⟨ao, c, rfl, _⟩ := h
  obtain ⟨bo, d, rfl, _⟩ := k
  obtain ⟨n, en⟩ : ∃ n, xs.length = n := ⟨_, rfl⟩
  have EN := hide en
  rw [en] at H1 H2 hl ⊢
  clear en
  go_enter Try.func53, Try.ntmps53
  go_wp2
  go_loopw [5] (fun iv wr => ∃ i : Nat, i ≤ n ∧ iv = .int .i64 i ∧ Hid (Below w.heap.size w wr)) (fun iv _ => n - (intOf iv).toNat)
  case atStart => exact ⟨0, by omega, rfl, Below.refl _ _⟩
  case round =>
    obtain ⟨i, hi, rfl, HB⟩ := hrel
    by_cases hlt : i < n
    · have hlt' : (i : Int) < (n : Int) := by omega
      have hi0 : (0 : Int) ≤ (i : Int) := by omega
      have hix : i < xs.length := by rw [EN.out]; exact hlt
      obtain ⟨ao', c', e1, hc1⟩ := H1.out
      injection e1 with e2 e3 e4
      subst e2
      obtain ⟨a, rfl, ha, hx⟩ := hc1 i hix
      obtain ⟨bo', d', e1, hc2⟩ := H2.out
      injection e1 with e2 e5 e6
      subst e2
      obtain ⟨b, rfl, hb, hy⟩ := hc2 i hix
      have hx2 := (HB.out.cell (p := a.add i) (by rw [block_add]; exact ha)).trans hx
      have hy2 := (HB.out.cell (p := b.add i) (by rw [block_add]; exact hb)).trans hy
      obtain ⟨x, ex⟩ : ∃ x, xs[i] = x := ⟨_, rfl⟩
      rw [ex] at hx2 hy2
      clear hc1 hc2 e3 e4 e5 e6 ex hx hy ha hb
      go_wp2_with fail
      go_region
      all_goals go_wp2
      all_goals go_roundw
      all_goals first | (exact ⟨i + 1, by omega, by go_num, HB.out.trans (by go_grown)⟩) | (simp [intOf]; omega)
    · have hlt' : ¬ (i : Int) < (n : Int) := by omega
      go_wp2
      go_ret
      exact ⟨rfl, HB.out⟩

set_option maxRecDepth 100000 in
set_option maxHeartbeats 1000000 in
theorem sameTexts_same (p q : Value) (xs : List ByteArray) (w : World) (h : StrsAt w p xs) (k : StrsAt w q xs) (hl : xs.length ≤ 1048576) :
    Calls Try.prog 52 #[p, q] w fun e w' => e = .returned (.bool true) ∧ Below w.heap.size w w' := by
  have H1 := hide h
  have H2 := hide k
  obtain ⟨ao, c, rfl, _⟩ := h
  obtain ⟨bo, d, rfl, _⟩ := k
  obtain ⟨n, en⟩ : ∃ n, xs.length = n := ⟨_, rfl⟩
  have EN := hide en
  rw [en] at H1 H2 hl ⊢
  clear en
  go_enter Try.func52, Try.ntmps52
  go_wp2
  go_loopw [5] (fun iv wr => ∃ i : Nat, i ≤ n ∧ iv = .int .i64 i ∧ Hid (Below w.heap.size w wr)) (fun iv _ => n - (intOf iv).toNat)
  case atStart => exact ⟨0, by omega, rfl, Below.refl _ _⟩
  case round =>
    obtain ⟨i, hi, rfl, HB⟩ := hrel
    by_cases hlt : i < n
    · have hlt' : (i : Int) < (n : Int) := by omega
      have hi0 : (0 : Int) ≤ (i : Int) := by omega
      have hix : i < xs.length := by rw [EN.out]; exact hlt
      obtain ⟨ao', c', e1, hc1⟩ := H1.out
      injection e1 with e2 e3 e4
      subst e2
      obtain ⟨a, rfl, ha, hx⟩ := hc1 i hix
      obtain ⟨bo', d', e1, hc2⟩ := H2.out
      injection e1 with e2 e5 e6
      subst e2
      obtain ⟨b, rfl, hb, hy⟩ := hc2 i hix
      have hx2 := (HB.out.cell (p := a.add i) (by rw [block_add]; exact ha)).trans hx
      have hy2 := (HB.out.cell (p := b.add i) (by rw [block_add]; exact hb)).trans hy
      obtain ⟨x, ex⟩ : ∃ x, xs[i] = x := ⟨_, rfl⟩
      rw [ex] at hx2 hy2
      clear hc1 hc2 e3 e4 e5 e6 ex hx hy ha hb
      go_wp2_with fail
      go_region
      all_goals go_wp2
      all_goals go_roundw
      all_goals first | (exact ⟨i + 1, by omega, by go_num, HB.out.trans (by go_grown)⟩) | (simp [intOf]; omega)
    · have hlt' : ¬ (i : Int) < (n : Int) := by omega
      go_wp2
      go_ret
      exact ⟨rfl, HB.out⟩

set_option maxRecDepth 100000 in
set_option maxHeartbeats 1000000 in
theorem sameEnv_same (p0 p1 q0 q1 : Value) (x : Ev) (w : World) (h : EvAt w p0 p1 x) (k : EvAt w q0 q1 x) (hl : EvLen x) :
    Calls Try.prog 21 #[.agg #[p0, p1], .agg #[q0, q1]] w fun e w' => e = .returned (.bool true) ∧ Below w.heap.size w w' := by
  obtain ⟨W1, hW⟩ : ∃ W1, (w.alloc (.cells #[p0, p1] 27)).alloc (.cells #[q0, q1] 27) = W1 := ⟨_, rfl⟩
  have B1 : Hid (Below w.heap.size w W1) := by rw [← hW]; show Below w.heap.size w _; go_grown
  have BA : Hid (Box W1 w.heap.size #[p0, p1] 27) := by rw [← hW]; exact hide ((Box.made _ _ _).stays ((Below.refl _ _).alloc (Nat.le_refl _) _))
  have BB : Hid (Box W1 (w.heap.size + 1) #[q0, q1] 27) := by rw [← hW]; exact hide (Box.madeAt (by simp) _ _)
  have HA := hide h
  have HK := hide k
  have L0 := hl.l0
  have L1 := hl.l1
  have C0 := fun z h k => hide (sameTexts_same p0 q0 x.names z h k L0)
  have C1 := fun z h k => hide (sameInts_same p1 q1 x.vals z h k L1)
  obtain ⟨a0, c0, rfl, _⟩ := h.a0
  obtain ⟨a1, c1, rfl, _⟩ := h.a1
  obtain ⟨b0, d0, rfl, _⟩ := k.a0
  obtain ⟨b1, d1, rfl, _⟩ := k.a1
  have HW := hide hW
  clear hW h k hl
  have t0 := Lib.cell_of_heap BA.out 0
  have t1 := Lib.cell_of_heap BB.out 0
  simp at t0 t1
  rw [← HW.out] at t0 t1
  go_enter Try.func21, Try.ntmps21
  go_wp2_with (first | (go_at_call 52; rw [HW.out]; refine (unhide (C0 _ (HA.out.stays B1.out).a0 (HK.out.stays B1.out).a0)).mono ?_; rintro e z ⟨rfl, hb⟩; have HB := hide hb; clear hb t0 t1; have X1 := hide (BA.out.stays HB.out); have X2 := hide (BB.out.stays HB.out); have t2 := Lib.cell_of_heap X1.out 1; have t3 := Lib.cell_of_heap X2.out 1; simp at t2 t3; have B2 := hide (B1.out.trans (HB.out.mono B1.out.size))) | (go_at_call 53; refine (unhide (C1 _ (HA.out.stays B2.out).a1 (HK.out.stays B2.out).a1)).mono ?_; rintro e z9 ⟨rfl, hb9⟩; have HB9 := hide hb9; clear hb9))
  go_ret
  exact ⟨rfl, B2.out.trans (HB9.out.mono B2.out.size)⟩

end Go.Proofs.Ytmckcbgdkjbpfaa
