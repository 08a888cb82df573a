/-
  Walks: a value put in an Env, by the specification.
-/
import Derived.Test.YtmckcbgdkjbpfaaCopE
namespace Go.Proofs.Ytmckcbgdkjbpfaa
open Go.RowKit

/-- While an Env is put together: what came in, the result, the copy under way. -/
structure PuZ (w : World) (v0 v1 : Value) (G : Nat) (r0 r1 : Value) (x : Ev) (z : World) : Prop where
  bA : Box z w.heap.size #[v0, v1] 27
  bR : ∃ a b, Box z (w.heap.size + 1) #[a, b] 27
  bO : Box z G #[r0, r1] 27
  own : EvOwn (w.heap.size + 2) z r0 r1 x
  bel : Below w.heap.size w z
theorem PuZ.fin {w : World} {v0 v1 : Value} {G : Nat} {r0 r1 : Value} {x : Ev} {z : World} (h : PuZ w v0 v1 G r0 r1 x z) :
    Box ((z.setCell ⟨w.heap.size + 1, 0, none⟩ r0).setCell ⟨w.heap.size + 1, 1, none⟩ r1) (w.heap.size + 1) #[r0, r1] 27 ∧ EvOwn w.heap.size ((z.setCell ⟨w.heap.size + 1, 0, none⟩ r0).setCell ⟨w.heap.size + 1, 1, none⟩ r1) r0 r1 x ∧ Below w.heap.size w ((z.setCell ⟨w.heap.size + 1, 0, none⟩ r0).setCell ⟨w.heap.size + 1, 1, none⟩ r1) := by
  obtain ⟨a, b, hr⟩ := h.bR
  have e : ∀ g, w.heap.size + 2 ≤ g → ((z.setCell ⟨w.heap.size + 1, 0, none⟩ r0).setCell ⟨w.heap.size + 1, 1, none⟩ r1).heap[g]? = z.heap[g]? := fun g hg =>
    (Below.heap_setCell _ ⟨w.heap.size + 1, 1, none⟩ _ g (by show g ≠ w.heap.size + 1; omega)).trans (Below.heap_setCell _ ⟨w.heap.size + 1, 0, none⟩ _ g (by show g ≠ w.heap.size + 1; omega))
  refine ⟨by simpa using (hr.set 0 r0).set 1 r1, ⟨owns_lo (owns_eq h.own.o0 fun g hg => e g (h.own.o0.lt g hg).1) (by omega), owns_lo (owns_eq h.own.o1 fun g hg => e g (h.own.o1.lt g hg).1) (by omega), h.own.ap⟩, (h.bel.setCell (p := ⟨w.heap.size + 1, 0, none⟩) (by show w.heap.size ≤ w.heap.size + 1; omega) r0).setCell (p := ⟨w.heap.size + 1, 1, none⟩) (by show w.heap.size ≤ w.heap.size + 1; omega) r1⟩
def PuR (W : World) (x : Ev) (F : Nat → Prop) (iv : Value) (wr : World) : Prop := ∃ i : Nat, i ≤ (x.names.take x.vals.length).length ∧ iv = .int .i64 i ∧ wr = W ∧ Hid (F i)

set_option maxRecDepth 100000 in
set_option maxHeartbeats 4000000 in
theorem specPutIn_any (v0 v1 : Value) (x : Ev) (s : ByteArray) (nv : Int) (w : World) (h : EvAt w v0 v1 x) (hl : EvLen x) :
    Calls Try.prog 6 #[.agg #[v0, v1], .string s, .int .i64 nv] w fun e w' => ∃ r0 r1, e = .returned (.agg #[r0, r1]) ∧ EvOwn w.heap.size w' r0 r1 (putE x s nv) ∧ Below w.heap.size w w' := by
  have L0 := hl.l0
  have L1 := hl.l1
  have HAW := hide h
  have CC := fun z h => hide (copyEv_any v0 v1 x z h hl)
  have CV := fun z => hide (specValOk nv z)
  obtain ⟨W1, hW⟩ : ∃ W1, (w.alloc (.cells #[v0, v1] 27)).alloc (.cells #[.slice none 0 0, .slice none 0 0] 27) = W1 := ⟨_, rfl⟩
  have B1 : Hid (Below w.heap.size w W1) := by rw [← hW]; show Below w.heap.size w _; go_grown
  have BA1 : Hid (Box W1 w.heap.size #[v0, v1] 27) := by rw [← hW]; exact hide ((Box.made w _ _).stays ((Below.refl _ _).alloc (Nat.le_refl _) _))
  have BR1 : Hid (Box W1 (w.heap.size + 1) #[.slice none 0 0, .slice none 0 0] 27) := by rw [← hW]; exact hide (Box.madeAt (by simp) _ _)
  have HZ1 : Hid (W1.heap.size = w.heap.size + 2) := by rw [← hW]; show _ = _; simp
  have HW := hide hW
  obtain ⟨o0, c0, rfl, _⟩ := h.a0
  obtain ⟨o1, c1, rfl, _⟩ := h.a1
  clear h hl hW
  have q0 := Lib.cell_of_heap BA1.out 0
  have q1 := Lib.cell_of_heap BA1.out 1
  simp at q0 q1
  rw [← HW.out] at q0 q1
  go_enter Try.func6, Try.ntmps6
  go_wp2_with fail
  rw [HW.out]
  refine (unhide (CC _ (HAW.out.stays B1.out))).mono ?_
  rintro e zc ⟨r0, r1, rfl, ho, hb⟩
  obtain ⟨p0, k0, rfl⟩ := form_own ho.o0
  obtain ⟨p1, k1, rfl⟩ := form_own ho.o1
  have hba : Below zc.heap.size zc (zc.alloc (.cells #[.slice p0 x.names.length k0, .slice p1 x.vals.length k1] 27)) := (Below.refl _ _).alloc (Nat.le_refl _) _
  have Z1 : Hid (PuZ w (.slice o0 x.names.length c0) (.slice o1 x.vals.length c1) zc.heap.size (.slice p0 x.names.length k0) (.slice p1 x.vals.length k1) x (zc.alloc (.cells #[.slice p0 x.names.length k0, .slice p1 x.vals.length k1] 27))) :=
    ⟨(BA1.out.stays hb).stays hba, ⟨_, _, (BR1.out.stays hb).stays hba⟩, Box.made _ _ _, (ho.lo (by have := HZ1.out; omega)).stays hba, (B1.out.trans (hb.mono B1.out.size)).trans (hba.mono (Nat.le_trans B1.out.size hb.size))⟩
  have OG : Hid (∀ i, (Value.slice p1 x.vals.length k1).ownBlock = some i → i < zc.heap.size) := fun i hi => (ho.o1.lt i hi).2
  clear hb ho hba q0 q1
  obtain ⟨Z, hZ⟩ : ∃ Z, zc.alloc (.cells #[.slice p0 x.names.length k0, .slice p1 x.vals.length k1] 27) = Z := ⟨_, rfl⟩
  have HZ := hide hZ
  rw [hZ] at Z1
  clear hZ
  have HA := hide (HAW.out.stays Z1.out.bel)
  have t0 := Lib.cell_of_heap Z1.out.bA 0
  have t1 := Lib.cell_of_heap Z1.out.bA 1
  have t2 := Lib.cell_of_heap Z1.out.bO 0
  have t3 := Lib.cell_of_heap Z1.out.bO 1
  obtain ⟨ra, rb, hrr⟩ := Z1.out.bR
  have t4 := Lib.cell_of_heap hrr 0
  have t5 := Lib.cell_of_heap hrr 1
  have f4 := Lib.frozen_of_heap hrr 0
  have f5 := Lib.frozen_of_heap hrr 1
  simp at t0 t1 t2 t3 t4 t5
  clear hrr
  have HML : Hid ((x.names.take x.vals.length).length = min x.vals.length x.names.length) := List.length_take
  go_wp2
  rw [HZ.out]
  go_loopw [8] (fun iv wr => PuR Z x (fun i => vok nv = true → NoneTo (eqS s) (x.names.take x.vals.length) i) iv wr) (fun iv _ => x.names.length - (intOf iv).toNat)
  case atStart => exact ⟨0, by omega, rfl, rfl, fun _ => NoneTo.zero _ _⟩
  case round =>
    obtain ⟨i, hi, rfl, rfl, HN⟩ := hrel
    rw [HML.out] at hi
    have HFIN : Hid (x.vals.length ≤ i ∨ x.names.length ≤ i → putE x s nv = x) := fun hd => by
      unfold putE
      rw [if_neg]
      rintro ⟨hv, ha⟩
      have h2 := (HN.out hv).none (by rw [HML.out]; omega)
      have h3 : atE x s = -1 := h2
      omega
    obtain ⟨n, en⟩ : ∃ n, x.names.length = n := ⟨_, rfl⟩
    obtain ⟨m, em⟩ : ∃ m, x.vals.length = m := ⟨_, rfl⟩
    have EN := hide en
    have EM := hide em
    rw [en] at L0 t0 t2 hi HFIN ⊢
    rw [em] at L1 t1 t3 hi HFIN ⊢
    clear en em
    by_cases hlt : i < n
    · by_cases hlm : i < m
      · have hlt' : (i : Int) < (n : Int) := by omega
        have hlm' : (i : Int) < (m : Int) := by omega
        have hi0 : (0 : Int) ≤ (i : Int) := by omega
        have hin : i < x.names.length := by rw [EN.out]; exact hlt
        have him : i < x.vals.length := by rw [EM.out]; exact hlm
        have hit : i < (x.names.take x.vals.length).length := by rw [HML.out, EM.out, EN.out]; omega
        have HTK : Hid ((x.names.take x.vals.length)[i] = x.names[i]) := List.getElem_take
        obtain ⟨ao', c', e1, hc1⟩ := HA.out.a0
        injection e1 with e2 e3 e4
        subst e2
        obtain ⟨a, rfl, _, hx⟩ := hc1 i hin
        have HST := hide fun hq => fun hv => (HN.out hv).step (i := i) hq
        have HHT := hide fun hv hq => (HN.out hv).hit hit hq
        have hcmp := str_cmp x.names[i] s
        obtain ⟨y, ey⟩ : ∃ y, x.names[i] = y := ⟨_, rfl⟩
        rw [ey] at hx HTK hcmp
        clear hc1 e3 e4 ey
        obtain ⟨q, eq⟩ : ∃ q, eqS s y = q := ⟨_, rfl⟩
        rw [eq] at hcmp
        cases q with
        | false =>
          have HS2 := hide (HST.out (fun _ => by rw [HTK.out]; exact eq))
          clear eq HHT HST CV
          go_wp2
          go_roundw
          case rel => exact ⟨i + 1, by rw [HML.out, EM.out, EN.out]; omega, by go_num, rfl, by have h9 := HS2.out; rw [EM.out] at h9; exact h9⟩
          case measure => simp [intOf]; omega
        | true =>
          obtain ⟨b, eb⟩ : ∃ b, vok nv = b := ⟨_, rfl⟩
          rw [eb] at CV
          cases b with
          | false =>
            have HS2 : Hid (vok nv = true → NoneTo (eqS s) (x.names.take x.vals.length) (i + 1)) := fun hv => by rw [eb] at hv; cases hv
            clear eq HHT HST eb
            go_wp2_with (go_at_call 27; refine (unhide (CV _)).mono ?_; rintro e z ⟨rfl, rfl⟩)
            go_roundw
            case rel => exact ⟨i + 1, by rw [HML.out, EM.out, EN.out]; omega, by go_num, rfl, by have h9 := HS2.out; rw [EM.out] at h9; exact h9⟩
            case measure => simp [intOf]; omega
          | true =>
            have HPE : Hid (putE x s nv = { x with vals := x.vals.set i nv }) := by
              have h2 := HHT.out eb (by rw [HTK.out]; exact eq)
              have h3 : atE x s = (i : Int) := h2
              unfold putE
              rw [if_pos ⟨eb, by rw [h3]; exact hi0⟩, h3, Int.toNat_natCast]
              exact hide rfl
            obtain ⟨g1, rfl⟩ : ∃ g, p1 = some ⟨g, 0, none⟩ := by
              rcases Z1.out.own.o1.2 with ⟨e, h0⟩ | ⟨g, cap, cur, e, _⟩
              · omega
              · injection e with e1 _ _
                exact ⟨g, e1⟩
            have hOW := Z1.out.own.o1
            obtain ⟨⟨uo, hu⟩, hf⟩ := own_there hOW i him 0 (by decide)
            have hgl := (hOW.lt g1 rfl).1
            have hgu := OG.out g1 rfl
            rw [Nat.mul_one, Nat.add_zero] at hu hf
            have Z2 : Hid (PuZ w (.slice (some a) x.names.length c0) (.slice o1 x.vals.length c1) zc.heap.size (.slice p0 x.names.length k0) (.slice (some ⟨g1, 0, none⟩) x.vals.length k1) (putE x s nv) (wr.setCell ⟨g1, i, none⟩ (.int .i64 nv))) := by
              rw [HPE.out]
              refine ⟨Z1.out.bA.other _ _ (by show w.heap.size ≠ g1; omega), ?_, Z1.out.bO.other _ _ (by show zc.heap.size ≠ g1; omega), ⟨?_, ?_, Z1.out.own.ap⟩, Z1.out.bel.setCell (p := ⟨g1, i, none⟩) (by show w.heap.size ≤ g1; omega) _⟩
              · obtain ⟨ra, rb, hrr⟩ := Z1.out.bR
                exact ⟨ra, rb, hrr.other _ _ (by show w.heap.size + 1 ≠ g1; omega)⟩
              · exact owns_eq Z1.out.own.o0 fun g hg => Below.heap_setCell _ ⟨g1, i, none⟩ _ g (fun e => Z1.out.own.ap g hg (by show some g1 = some g; rw [e]))
              · have h9 := (hOW.stored i (.int .i64 nv)).1
                show World.ownsRow _ _ _ _ _ (x.vals.set i nv).length ((x.vals.set i nv).map I64)
                rw [List.length_set, List.map_set]
                exact h9
            rw [EN.out, EM.out] at Z2
            have s0 := Lib.cell_of_heap Z2.out.bA 0
            have s2 := Lib.cell_of_heap Z2.out.bO 0
            have s3 := Lib.cell_of_heap Z2.out.bO 1
            obtain ⟨sa, sb, hss⟩ := Z2.out.bR
            have s4 := Lib.cell_of_heap hss 0
            have s5 := Lib.cell_of_heap hss 1
            have g4 := Lib.frozen_of_heap hss 0
            have g5 := Lib.frozen_of_heap hss 1
            simp at s0 s2 s3 s4 s5
            clear hss eq HHT HST eb hOW
            go_wp2_with (go_at_call 27; refine (unhide (CV _)).mono ?_; rintro e z ⟨rfl, rfl⟩)
            refine box_ret (g := w.heap.size + 1) (t := 27) (cs := #[.slice p0 n k0, .slice (some ⟨g1, 0, none⟩) m k1]) rfl rfl ?_ _ Try.underlying27 rfl (by kernel_rfl) rfl ?_
            · exact Z2.out.fin.1
            · exact ⟨_, _, rfl, Z2.out.fin.2.1, Z2.out.fin.2.2⟩
      · have hlt' : (i : Int) < (n : Int) := by omega
        have hlm' : ¬ (i : Int) < (m : Int) := by omega
        have HPE := hide (HFIN.out (.inl (by omega)))
        rw [EN.out, EM.out] at Z1
        go_wp2
        refine box_ret (g := w.heap.size + 1) (t := 27) (cs := #[.slice p0 n k0, .slice p1 m k1]) rfl rfl ?_ _ Try.underlying27 rfl (by kernel_rfl) rfl ?_
        · exact Z1.out.fin.1
        · exact ⟨_, _, rfl, by rw [HPE.out]; exact Z1.out.fin.2.1, Z1.out.fin.2.2⟩
    · have hlt' : ¬ (i : Int) < (n : Int) := by omega
      have HPE := hide (HFIN.out (.inr (by omega)))
      rw [EN.out, EM.out] at Z1
      go_wp2
      refine box_ret (g := w.heap.size + 1) (t := 27) (cs := #[.slice p0 n k0, .slice p1 m k1]) rfl rfl ?_ _ Try.underlying27 rfl (by kernel_rfl) rfl ?_
      · exact Z1.out.fin.1
      · exact ⟨_, _, rfl, by rw [HPE.out]; exact Z1.out.fin.2.1, Z1.out.fin.2.2⟩
end Go.Proofs.Ytmckcbgdkjbpfaa
