/-
  Walks: a value put in an Env, by the program.
-/
import Derived.Test.YtmckcbgdkjbpfaaEniB
namespace Go.Proofs.Ytmckcbgdkjbpfaa
open Go.RowKit

theorem putE_eq (x : Ev) (s : ByteArray) (nv : Int) : putE x s nv = if vok nv = true ∧ 0 ≤ firstAt (eqS s) x.names ∧ firstAt (eqS s) x.names < (x.vals.length : Int) then { x with vals := x.vals.set (firstAt (eqS s) x.names).toNat nv } else x := by
  rw [putE, atE_eq]
  by_cases hq : 0 ≤ firstAt (eqS s) x.names ∧ firstAt (eqS s) x.names < (x.vals.length : Int)
  · rw [if_pos hq]
    by_cases hv : vok nv = true
    · rw [if_pos ⟨hv, hq.1⟩, if_pos ⟨hv, hq⟩]
    · rw [if_neg (fun h => hv h.1), if_neg (fun h => hv h.1)]
  · rw [if_neg hq, if_neg (by omega), if_neg (fun h => hq h.2)]

/-- What a put leaves. -/
structure PtE (B : Nat) (z : World) (r0 r1 : Value) (y : Ev) (w' : World) : Prop where
  own : EvOwn B w' r0 r1 y
  bel : Below B z w'
  box : ∀ g cs T, T ≠ 3 → Box z g cs T → Box w' g cs T

set_option maxRecDepth 100000 in
set_option maxHeartbeats 4000000 in
theorem envPut_any (B b o : Nat) (r0 r1 : Value) (cs : Array Value) (T : TypeId) (x : Ev) (s : ByteArray) (nv : Int) (w : World) (hb : Box w b cs T) (h0 : cs[o]? = some r0) (h1 : cs[o + 1]? = some r1) (ho : EvOwn B w r0 r1 x) (hB : B ≤ w.heap.size) (hl : EvLen x) :
    Calls Try.prog 31 #[.pointer (some ⟨b, o, none⟩), .string s, .int .i64 nv] w fun e w' => e = .returned (.tuple #[]) ∧ PtE B w r0 r1 (putE x s nv) w' := by
  have L0 := hl.l0
  have L1 := hl.l1
  have HPE := hide (putE_eq x s nv)
  have CP := fun z h => hide (placeOf_any r0 r1 x s z h hl)
  have CV := fun z => hide (implValOk nv z)
  have HO := hide ho
  have HB := hide hb
  have HB1 := hide h1
  obtain ⟨p0, k0, rfl⟩ := form_own ho.o0
  obtain ⟨p1, k1, rfl⟩ := form_own ho.o1
  have c0 := (Lib.cell_of_heap hb o).trans h0
  have c1 := (Lib.cell_of_heap hb (o + 1)).trans h1
  clear ho hb h0 h1
  obtain ⟨y, ey⟩ : ∃ y, putE x s nv = y := ⟨_, rfl⟩
  rw [ey] at HPE ⊢
  clear ey
  obtain ⟨k, ek⟩ : ∃ k, firstAt (eqS s) x.names = k := ⟨_, rfl⟩
  simp only [ek] at CP
  rw [ek] at HPE
  clear ek
  obtain ⟨bv, eb⟩ : ∃ b, vok nv = b := ⟨_, rfl⟩
  simp only [eb] at CV
  rw [eb] at HPE
  clear eb
  obtain ⟨bf, ef⟩ : ∃ b, (decide (0 ≤ k) && decide (k < (x.vals.length : Int))) = b := ⟨_, rfl⟩
  simp only [ef] at CP
  have HBF := hide ef
  clear ef
  have FIN : Hid (∀ z, Below w.heap.size w z → PtE B w (.slice p0 x.names.length k0) (.slice p1 x.vals.length k1) x z) := fun z hz => ⟨HO.out.stays hz, hz.mono hB, fun _ _ _ _ h => h.stays hz⟩
  by_cases hyes : bf = true ∧ bv = true
  case neg =>
    have eyx : y = x := by
      rw [HPE.out, if_neg]
      rintro ⟨h1, h2, h3⟩
      exact hyes ⟨by rw [← HBF.out, decide_eq_true h2, decide_eq_true h3]; rfl, h1⟩
    subst eyx
    clear HPE
    have HNO := hide hyes
    clear hyes
    cases bf with
    | false =>
      clear HNO
      go_enter Try.func31, Try.ntmps31
      go_wp2_with (go_at_call 42; refine (unhide (CP _ HO.out.at)).mono ?_; rintro e z2 ⟨rfl, hb⟩)
      go_end0
      exact ⟨rfl, FIN.out _ hb⟩
    | true =>
      have eb2 : bv = false := by cases bv with
        | false => rfl
        | true => exact absurd ⟨rfl, rfl⟩ HNO.out
      subst eb2
      clear HNO
      go_enter Try.func31, Try.ntmps31
      go_wp2_with (first | (go_at_call 51; refine (unhide (CV _)).mono ?_; rintro e z ⟨rfl, rfl⟩) | (go_at_call 42; refine (unhide (CP _ HO.out.at)).mono ?_; rintro e z2 ⟨rfl, hb⟩))
      go_end0
      exact ⟨rfl, FIN.out _ hb⟩
  obtain ⟨rfl, rfl⟩ := hyes
  have hq : 0 ≤ k ∧ k < (x.vals.length : Int) := by
    have h := HBF.out
    rw [Bool.and_eq_true, decide_eq_true_eq, decide_eq_true_eq] at h
    exact h
  obtain ⟨i, rfl⟩ : ∃ i : Nat, k = (i : Int) := ⟨k.toNat, by omega⟩
  have him : i < x.vals.length := by omega
  have HPE2 : Hid (y = { x with vals := x.vals.set i nv }) := by
    show _ = _
    rw [HPE.out, if_pos ⟨rfl, hq⟩, Int.toNat_natCast]
  clear HPE HBF
  obtain ⟨g1, rfl⟩ : ∃ g, p1 = some ⟨g, 0, none⟩ := by
    rcases HO.out.o1.2 with ⟨e, h0⟩ | ⟨g, cap, cur, e, _⟩
    · omega
    · injection e with e1 _ _
      exact ⟨g, e1⟩
  have hgl := (HO.out.o1.lt g1 rfl).1
  have hi1 := hq.1
  have hi2 := hq.2
  have HST : Hid (∀ z, Below w.heap.size w z → PtE B w (.slice p0 x.names.length k0) (.slice (some ⟨g1, 0, none⟩) x.vals.length k1) y (z.setCell ⟨g1, i, none⟩ (.int .i64 nv))) := by
    intro z hz
    have hz9 := FIN.out z hz
    rw [HPE2.out]
    refine ⟨⟨?_, ?_, hz9.own.ap⟩, hz9.bel.setCell (p := ⟨g1, i, none⟩) hgl _, fun g cs T hT h => ?_⟩
    · exact owns_eq hz9.own.o0 fun g hg => Below.heap_setCell _ ⟨g1, i, none⟩ _ g (fun e => hz9.own.ap g hg (by show some g1 = some g; rw [e]))
    · have h9 := (hz9.own.o1.stored i (.int .i64 nv)).1
      show World.ownsRow _ _ _ _ _ (x.vals.set i nv).length ((x.vals.set i nv).map I64)
      rw [List.length_set, List.map_set]
      exact h9
    · refine (h.stays hz).other _ _ fun e => ?_
      have e' : g = g1 := e
      subst e'
      exact Lib.ownBlock_ne hz9.own.o1 (h.stays hz) hT rfl
  have HB2 : Hid (∀ z, Below w.heap.size w z → z.cell? ⟨b, o + 1, none⟩ = some (.slice (some ⟨g1, 0, none⟩) x.vals.length k1)) := fun z hz => (Lib.cell_of_heap (HB.out.stays hz) (o + 1)).trans HB1.out
  have HU : Hid (∀ z, Below w.heap.size w z → (∃ u, z.cell? ⟨g1, i, none⟩ = some u) ∧ z.frozen? ⟨g1, i, none⟩ = false) := fun z hz => by
    have := own_there (FIN.out z hz).own.o1 i him 0 (by decide)
    rw [Nat.mul_one, Nat.add_zero] at this
    exact this
  clear FIN HB HB1 hq
  go_enter Try.func31, Try.ntmps31
  go_wp2_with (first | (go_at_call 51; refine (unhide (CV _)).mono ?_; rintro e z ⟨rfl, rfl⟩) | (go_at_call 42; refine (unhide (CP _ HO.out.at)).mono ?_; rintro e z2 ⟨rfl, hb⟩; have d1 := HB2.out _ hb; obtain ⟨⟨uo, hu⟩, hf⟩ := HU.out _ hb; have Z3 := hide (HST.out _ hb)))
  go_end0
  exact ⟨rfl, Z3.out⟩

set_option maxRecDepth 100000 in
set_option maxHeartbeats 4000000 in
theorem implPutIn_any (v0 v1 : Value) (x : Ev) (s : ByteArray) (nv : Int) (w : World) (h : EvAt w v0 v1 x) (hl : EvLen x) :
    Calls Try.prog 8 #[.agg #[v0, v1], .string s, .int .i64 nv] w fun e w' => ∃ r0 r1, e = .returned (.agg #[r0, r1]) ∧ EvOwn w.heap.size w' r0 r1 (putE x s nv) ∧ Below w.heap.size w w' := by
  have HAW := hide h
  have HL := hide hl
  have CC := fun z h => hide (copied_any v0 v1 x z h hl)
  obtain ⟨W1, hW⟩ : ∃ W1, (w.alloc (.cells #[v0, v1] 27)).alloc (.cells #[.slice none 0 0, .slice none 0 0] 27) = W1 := ⟨_, rfl⟩
  have B1 : Hid (Below w.heap.size w W1) := by rw [← hW]; show Below w.heap.size w _; go_grown
  have BA1 : Hid (Box W1 w.heap.size #[v0, v1] 27) := by rw [← hW]; exact hide ((Box.made w _ _).stays ((Below.refl _ _).alloc (Nat.le_refl _) _))
  have BR1 : Hid (Box W1 (w.heap.size + 1) #[.slice none 0 0, .slice none 0 0] 27) := by rw [← hW]; exact hide (Box.madeAt (by simp) _ _)
  have HZ1 : Hid (W1.heap.size = w.heap.size + 2) := by rw [← hW]; show _ = _; simp
  have HW := hide hW
  obtain ⟨o0, c0, rfl, _⟩ := h.a0
  obtain ⟨o1, c1, rfl, _⟩ := h.a1
  clear h hl hW
  have q0 := Lib.cell_of_heap BA1.out 0
  have q1 := Lib.cell_of_heap BA1.out 1
  simp at q0 q1
  rw [← HW.out] at q0 q1
  go_enter Try.func8, Try.ntmps8
  go_wp2_with fail
  rw [HW.out]
  refine (unhide (CC _ (HAW.out.stays B1.out))).mono ?_
  rintro e zc ⟨r0, r1, rfl, ho, hb⟩
  obtain ⟨p0, k0, rfl⟩ := form_own ho.o0
  obtain ⟨p1, k1, rfl⟩ := form_own ho.o1
  have hba : Below zc.heap.size zc (zc.alloc (.cells #[.slice p0 x.names.length k0, .slice p1 x.vals.length k1] 27)) := (Below.refl _ _).alloc (Nat.le_refl _) _
  have hs1 := HZ1.out
  have hs2 := hb.size
  have Z1 : Hid (EvOwn (w.heap.size + 2) (zc.alloc (.cells #[.slice p0 x.names.length k0, .slice p1 x.vals.length k1] 27)) (.slice p0 x.names.length k0) (.slice p1 x.vals.length k1) x) := (ho.lo (by omega)).stays hba
  have BO : Hid (Box (zc.alloc (.cells #[.slice p0 x.names.length k0, .slice p1 x.vals.length k1] 27)) zc.heap.size #[.slice p0 x.names.length k0, .slice p1 x.vals.length k1] 27) := Box.made _ _ _
  have BR2 : Hid (Box (zc.alloc (.cells #[.slice p0 x.names.length k0, .slice p1 x.vals.length k1] 27)) (w.heap.size + 1) #[.slice none 0 0, .slice none 0 0] 27) := (BR1.out.stays hb).stays hba
  have B2 : Hid (Below w.heap.size w (zc.alloc (.cells #[.slice p0 x.names.length k0, .slice p1 x.vals.length k1] 27))) := (B1.out.trans (hb.mono B1.out.size)).trans (hba.mono (Nat.le_trans B1.out.size hb.size))
  have hle : Hid (w.heap.size + 2 ≤ (zc.alloc (.cells #[.slice p0 x.names.length k0, .slice p1 x.vals.length k1] 27)).heap.size) := by show _ ≤ _; simp; omega
  obtain ⟨G, eG⟩ : ∃ G, zc.heap.size = G := ⟨_, rfl⟩
  rw [eG] at BO
  obtain ⟨Z, hZ⟩ : ∃ Z, zc.alloc (.cells #[.slice p0 x.names.length k0, .slice p1 x.vals.length k1] 27) = Z := ⟨_, rfl⟩
  have HZ := hide hZ
  have EG := hide eG
  rw [hZ] at Z1 BO BR2 B2 hle
  clear hb ho hba q0 q1 hZ eG hs1 hs2 BR1 BA1 B1 CC
  go_wp2_with fail
  rw [HZ.out, EG.out]
  refine (envPut_any (w.heap.size + 2) G 0 _ _ _ _ x s nv Z BO.out rfl rfl Z1.out hle.out HL.out).mono ?_
  rintro e z2 ⟨rfl, hp⟩
  have O2 := hide hp.own
  have BO2 := hide (hp.box _ _ _ (by decide) BO.out)
  have BR3 := hide (hp.box _ _ _ (by decide) BR2.out)
  have B3 := hide (B2.out.trans (hp.bel.mono (by omega)))
  clear hp Z1 BO BR2 B2 hle HZ
  have t0 := Lib.cell_of_heap BO2.out 0
  have t1 := Lib.cell_of_heap BO2.out 1
  have s0 := Lib.cell_of_heap BR3.out 0
  have s1 := Lib.cell_of_heap BR3.out 1
  have f0 := Lib.frozen_of_heap BR3.out 0
  have f1 := Lib.frozen_of_heap BR3.out 1
  simp at t0 t1 s0 s1
  have RES : Hid (Box ((z2.setCell ⟨w.heap.size + 1, 0, none⟩ (.slice p0 x.names.length k0)).setCell ⟨w.heap.size + 1, 1, none⟩ (.slice p1 x.vals.length k1)) (w.heap.size + 1) #[.slice p0 x.names.length k0, .slice p1 x.vals.length k1] 27 ∧ EvOwn w.heap.size ((z2.setCell ⟨w.heap.size + 1, 0, none⟩ (.slice p0 x.names.length k0)).setCell ⟨w.heap.size + 1, 1, none⟩ (.slice p1 x.vals.length k1)) (.slice p0 x.names.length k0) (.slice p1 x.vals.length k1) (putE x s nv) ∧ Below w.heap.size w ((z2.setCell ⟨w.heap.size + 1, 0, none⟩ (.slice p0 x.names.length k0)).setCell ⟨w.heap.size + 1, 1, none⟩ (.slice p1 x.vals.length k1))) := by
    have hb1 := BR3.out.set 0 (.slice p0 x.names.length k0)
    exact hide ⟨by simpa using hb1.set 1 (.slice p1 x.vals.length k1), ((O2.out.boxed BR3.out (by decide) (by decide) _).boxed hb1 (by decide) (by decide) _).lo (by omega), (B3.out.setCell (p := ⟨w.heap.size + 1, 0, none⟩) (by show w.heap.size ≤ w.heap.size + 1; omega) _).setCell (p := ⟨w.heap.size + 1, 1, none⟩) (by show w.heap.size ≤ w.heap.size + 1; omega) _⟩
  clear O2 BO2 B3
  go_wp2
  refine box_ret (g := w.heap.size + 1) (t := 27) (cs := #[.slice p0 x.names.length k0, .slice p1 x.vals.length k1]) rfl rfl ?_ _ Try.underlying27 rfl (by kernel_rfl) rfl ?_
  · exact RES.out.1
  · exact ⟨_, _, rfl, RES.out.2.1, RES.out.2.2⟩
end Go.Proofs.Ytmckcbgdkjbpfaa
