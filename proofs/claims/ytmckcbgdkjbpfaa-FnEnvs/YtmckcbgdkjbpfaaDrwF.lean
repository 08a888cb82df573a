/-
  Walks: Envs that are drawn, right or not.
-/
import Derived.Test.YtmckcbgdkjbpfaaDrwE
import Derived.Test.YtmckcbgdkjbpfaaCopE
namespace Go.Proofs.Ytmckcbgdkjbpfaa
open Go.RowKit

theorem wpList_more1 {P : Program} {W : World} {ops : Array Oper} {rest : List Oper} {o : Oper} {a : Act} {Q : Exit → Act → World → Prop} (hgd : o.guard = none) (s x : Operand) (t : TypeId)
    (ho : o.op = .call { callee := .builtin .append, args := #[s, x], argTypes := #[t, t] })
    (B : Nat) (e : TypeId) (z : Value) (bytes : Nat) (ht : P.underlying t = some (.slice e)) (hi : (P.info? e).map (fun i => (i.zero, i.size, i.bytes)) = some (some z, 1, bytes)) (hzs : z.cells.size = 1)
    (v : Value) (xs : List Value) (hs : a.eval s = v) (hown : W.ownsRow B e 1 v xs.length xs) (g : Nat) (u : Value) (hx : a.eval x = .slice (some ⟨g, 0, none⟩) 1 1) (hu : W.cell? ⟨g, 0, none⟩ = some u) (h1 : u.oneCell' = true)
    (h63 : xs.length + 1 ≤ maxLen) (hbytes : (xs.length + 1) * bytes ≤ 140737488355328) (hB : B ≤ W.heap.size)
    (h : ∀ v' w', MoreR B e W v xs u v' w' → wpList P ops Q rest (a.put o.dst v') w') : wpList P ops Q (o :: rest) a W :=
  wpList_step fun _ hK => step_more hgd s x t ho B e z bytes ht hi hzs v xs hs hown g u hx hu h1 h63 hbytes hB fun v' w' hm => hK _ _ (h v' w' hm)

/-- One of a row of texts is drawn; the row lies in another block than the cursor. -/
theorem pickStr_any (w : World) (base g q n c : Nat) (f : Nat → ByteArray) (h0 : 0 < n) (hn : n ≤ 1000) (hq : q ≠ g) (hl : q < w.heap.size) (hr : ∀ j, j < n → w.cell? ⟨q, j, none⟩ = some (.string (f j))) (C : Cur w base g) :
    Calls Try.prog 47 #[.pointer (some ⟨g, 0, none⟩), .slice (some ⟨q, 0, none⟩) n c] w fun e w' => ∃ j, j < n ∧ e = .returned (.string (f j)) ∧ Far g w w' ∧ Cur w' base g := by
  have HC := hide C
  have HR := hide hr
  clear C hr
  go_enter Try.func47, Try.ntmps47
  go_wp2_with (go_at_call 41; refine (below_any _ base g n (by omega) HC.out).mono ?_; rintro e w1 ⟨j, hj, rfl, hf, hc⟩; have hj' : j < n := (by omega); have hcell : w1.cell? ⟨q, j, none⟩ = some (.string (f j)) := (by unfold World.cell?; rw [hf.far q hq hl]; exact HR.out j hj'); clear hj)
  go_ret
  exact ⟨j, hj', rfl, hf, hc⟩
theorem row_strs (w : World) (xs : List ByteArray) (t : TypeId) (j : Nat) (hj : j < xs.length) : (w.alloc (.cells (xs.map Value.string).toArray t)).cell? ⟨w.heap.size, j, none⟩ = some (.string (xs.getD j default)) := by
  have e := heap_alloc_new w (.cells (xs.map Value.string).toArray t)
  unfold World.cell?
  rw [e]
  simp [hj, List.getD]
theorem pickStr_in (w W : World) (base g : Nat) (xs : List ByteArray) (t : TypeId) (h0 : 0 < xs.length) (hn : xs.length ≤ 1000) (C : Cur w base g) (hb : Below (w.heap.size + 1) (w.alloc (.cells (xs.map Value.string).toArray t)) W) :
    Calls Try.prog 47 #[.pointer (some ⟨g, 0, none⟩), .slice (some ⟨w.heap.size, 0, none⟩) xs.length xs.length] W fun e w' => ∃ x, x ∈ xs ∧ e = .returned (.string x) ∧ Far g w w' ∧ Cur w' base g := by
  have hsz : (w.alloc (.cells (xs.map Value.string).toArray t)).heap.size = w.heap.size + 1 := by simp
  have hlt := C.lt
  have hbw : Below w.heap.size w W := ((Below.refl _ _).alloc (Nat.le_refl _) _).trans (hb.mono (by omega))
  refine (pickStr_any _ base g w.heap.size xs.length xs.length (fun j => xs.getD j default) h0 hn (by omega) (by have := hb.size; omega) (fun j hj => (hb.cell (p := ⟨w.heap.size, j, none⟩) (by show w.heap.size < w.heap.size + 1; omega)).trans (row_strs w xs t j hj)) (C.below (hbw.mono hlt))).mono ?_
  rintro e w' ⟨j, hj, rfl, hf, hc⟩
  exact ⟨_, by simp [List.getD, hj], rfl, (Far.ofBelow hbw).trans hf, hc⟩

/-- While an Env is changed: the result at R, the Env at G, rows from B on; the cursor g. -/
structure DzE (w : World) (base g R G B : Nat) (r0 r1 : Value) (y : Ev) (z : World) : Prop where
  bR : ∃ a b, Box z R #[a, b] 27
  bO : Box z G #[r0, r1] 27
  own : EvOwn B z r0 r1 y
  far : Far g w z
  cur : Cur z base g
  lt : g < w.heap.size
  hR : w.heap.size ≤ R
  hG : R < G
  hB : R < B
  le : B ≤ z.heap.size
theorem DzE.stays {w : World} {base g R G B : Nat} {r0 r1 : Value} {y : Ev} {z z' : World} (h : DzE w base g R G B r0 r1 y z) (hb : Below z.heap.size z z') : DzE w base g R G B r0 r1 y z' := by
  obtain ⟨a, b, hr⟩ := h.bR
  have := h.lt
  have := h.le
  have := h.hR
  have := h.hB
  exact ⟨⟨a, b, hr.stays hb⟩, h.bO.stays hb, h.own.stays hb, Below.far' h.far (by omega) hb, h.cur.below (hb.mono (by omega)), h.lt, h.hR, h.hG, h.hB, Nat.le_trans h.le hb.size⟩
theorem DzE.draws {w : World} {base g R G B : Nat} {r0 r1 : Value} {y : Ev} {z z' : World} (h : DzE w base g R G B r0 r1 y z) (hf : Far g z z') (hc : Cur z' base g) : DzE w base g R G B r0 r1 y z' := by
  obtain ⟨a, b, hr⟩ := h.bR
  have := h.lt
  have := h.hR
  have := h.hB
  have := h.hG
  exact ⟨⟨a, b, box_far hf hr (by omega)⟩, box_far hf h.bO (by omega), h.own.far hf (by omega), h.far.trans hf, hc, h.lt, h.hR, h.hG, h.hB, Nat.le_trans h.le hf.size⟩
/-- A name more. -/
theorem DzE.name {w : World} {base g R G B : Nat} {r0 r1 : Value} {y : Ev} {W w' : World} {s : ByteArray} {v' : Value} (h : DzE w base g R G B r0 r1 y W) (hm : MoreR B 9 W r0 (y.names.map S) (.string s) v' w') :
    DzE w base g R G B v' r1 ⟨y.names ++ [s], y.vals⟩ (w'.setCell ⟨G, 0, none⟩ v') := by
  have ho : W.ownsRow B 9 1 r0 (y.names.map S).length (y.names.map S) := by rw [List.length_map]; exact h.own.o0
  have hG := box_more hm ho h.bO (by decide)
  have hl := h.lt
  have h1 := h.hR
  have h2 := h.hG
  have h3 := h.hB
  have e1 : EvOwn B w' v' r1 ⟨y.names ++ [s], y.vals⟩ := by
    refine ⟨?_, owns_eq h.own.o1 fun g hg => hm.oth g (fun e => h.own.ap g e hg) (h.own.o1.lt g hg).2, fun i hi hi1 => ?_⟩
    · have := hm.own
      rw [List.length_map] at this
      show World.ownsRow _ _ _ _ _ (y.names ++ [s]).length ((y.names ++ [s]).map S)
      rw [List.length_append, List.map_append]
      exact this
    · rcases hm.pos with e | e
      · exact h.own.ap i (by rw [← e]; exact hi) hi1
      · rw [hi] at e
        injection e with e
        have := (h.own.o1.lt i hi1).2
        omega
  have hbel : Below (R + 1) W (w'.setCell ⟨G, 0, none⟩ v') := (hm.bel.mono (show R + 1 ≤ B by omega)).setCell (p := ⟨G, 0, none⟩) (show R + 1 ≤ G by omega) _
  refine ⟨?_, ?_, e1.boxed hG (by decide) (by decide) _, Below.far' h.far (by omega) hbel, h.cur.below (hbel.mono (by omega)), hl, h1, h2, h3, Nat.le_trans h.le hbel.size⟩
  · obtain ⟨a, b, hr⟩ := h.bR
    exact ⟨a, b, (box_more hm ho hr (by decide)).other _ _ (by show R ≠ G; omega)⟩
  · have := hG.set 0 v'
    rw [set_fst] at this
    exact this
/-- A value is put at a place. -/
theorem DzE.setv {w : World} {base g R G B q c i : Nat} {r0 : Value} {y : Ev} {z : World} (h : DzE w base g R G B r0 (.slice (some ⟨q, 0, none⟩) y.vals.length c) y z) (n : Int) :
    DzE w base g R G B r0 (.slice (some ⟨q, 0, none⟩) y.vals.length c) ⟨y.names, y.vals.set i n⟩ (z.setCell ⟨q, i, none⟩ (.int .i64 n)) := by
  have hq := (h.own.o1.lt q rfl).1
  have hl := h.lt
  have h1 := h.hR
  have h2 := h.hG
  have h3 := h.hB
  have hGq : G ≠ q := fun e => Lib.ownBlock_ne h.own.o1 h.bO (by decide) (by rw [e]; rfl)
  have hbel : Below (R + 1) z (z.setCell ⟨q, i, none⟩ (.int .i64 n)) := (Below.refl _ _).setCell (p := ⟨q, i, none⟩) (show R + 1 ≤ q by omega) _
  refine ⟨?_, h.bO.other _ _ (by show G ≠ q; exact hGq), ⟨?_, ?_, h.own.ap⟩, Below.far' h.far (by omega) hbel, h.cur.below (hbel.mono (by omega)), hl, h1, h2, h3, Nat.le_trans h.le hbel.size⟩
  · obtain ⟨a, b, hr⟩ := h.bR
    exact ⟨a, b, hr.other _ _ (by show R ≠ q; omega)⟩
  · exact owns_eq h.own.o0 fun k hk => Below.heap_setCell _ ⟨q, i, none⟩ _ k (fun e => h.own.ap k hk (by show some q = some k; rw [e]))
  · have h9 := (h.own.o1.stored i (.int .i64 n)).1
    show World.ownsRow _ _ _ _ _ (y.vals.set i n).length ((y.vals.set i n).map I64)
    rw [List.length_set, List.map_set]
    exact h9
/-- A name is put at a place. -/
theorem DzE.setn {w : World} {base g R G B q c i : Nat} {r1 : Value} {y : Ev} {z : World} (h : DzE w base g R G B (.slice (some ⟨q, 0, none⟩) y.names.length c) r1 y z) (s : ByteArray) :
    DzE w base g R G B (.slice (some ⟨q, 0, none⟩) y.names.length c) r1 ⟨y.names.set i s, y.vals⟩ (z.setCell ⟨q, i, none⟩ (.string s)) := by
  have hq := (h.own.o0.lt q rfl).1
  have hl := h.lt
  have h1 := h.hR
  have h2 := h.hG
  have h3 := h.hB
  have hGq : G ≠ q := fun e => Lib.ownBlock_ne h.own.o0 h.bO (by decide) (by rw [e]; rfl)
  have hbel : Below (R + 1) z (z.setCell ⟨q, i, none⟩ (.string s)) := (Below.refl _ _).setCell (p := ⟨q, i, none⟩) (show R + 1 ≤ q by omega) _
  refine ⟨?_, h.bO.other _ _ (by show G ≠ q; exact hGq), ⟨?_, ?_, h.own.ap⟩, Below.far' h.far (by omega) hbel, h.cur.below (hbel.mono (by omega)), hl, h1, h2, h3, Nat.le_trans h.le hbel.size⟩
  · obtain ⟨a, b, hr⟩ := h.bR
    exact ⟨a, b, hr.other _ _ (by show R ≠ q; omega)⟩
  · have h9 := (h.own.o0.stored i (.string s)).1
    show World.ownsRow _ _ _ _ _ (y.names.set i s).length ((y.names.set i s).map S)
    rw [List.length_set, List.map_set]
    exact h9
  · exact owns_eq h.own.o1 fun k hk => Below.heap_setCell _ ⟨q, i, none⟩ _ k (fun e => h.own.ap q rfl (by rw [hk, show k = q from e]))
/-- What is handed back. -/
theorem DzE.fin {w : World} {base g R G B : Nat} {r0 r1 : Value} {y : Ev} {z : World} (h : DzE w base g R G B r0 r1 y z) :
    ∃ W, (z.setCell ⟨R, 0, none⟩ r0).setCell ⟨R, 1, none⟩ r1 = W ∧ Box W R #[r0, r1] 27 ∧ EvOwn w.heap.size W r0 r1 y ∧ Far g w W ∧ Cur W base g := by
  obtain ⟨a, b, hr⟩ := h.bR
  have hl := h.lt
  have h1 := h.hR
  have h3 := h.hB
  have hb : Below w.heap.size z ((z.setCell ⟨R, 0, none⟩ r0).setCell ⟨R, 1, none⟩ r1) := ((Below.refl _ _).setCell (p := ⟨R, 0, none⟩) h1 _).setCell (p := ⟨R, 1, none⟩) h1 _
  have e : ∀ k, B ≤ k → ((z.setCell ⟨R, 0, none⟩ r0).setCell ⟨R, 1, none⟩ r1).heap[k]? = z.heap[k]? := fun k hk =>
    (Below.heap_setCell _ ⟨R, 1, none⟩ _ k (by show k ≠ R; omega)).trans (Below.heap_setCell _ ⟨R, 0, none⟩ _ k (by show k ≠ R; omega))
  exact ⟨_, rfl, by simpa using (hr.set 0 r0).set 1 r1, ⟨owns_lo (owns_eq h.own.o0 fun k hk => e k (h.own.o0.lt k hk).1) (by omega), owns_lo (owns_eq h.own.o1 fun k hk => e k (h.own.o1.lt k hk).1) (by omega), h.own.ap⟩, Below.far' h.far (Nat.le_refl _) hb, h.cur.below (hb.mono hl)⟩
/-- The Envs that are drawn, right or not: few names, none long. -/
structure Sm6 (x : Ev) : Prop where
  n : x.names.length ≤ 6
  v : x.vals.length ≤ 5
  s : ∀ y ∈ x.names, y.size ≤ 6
theorem nm5_size : ∀ y ∈ nm5, y.size ≤ 6 := by decide
theorem Dr5.sm {x : Ev} {k : Nat} (h : Dr5 x k) : Sm6 x := by
  have hl := h.le
  refine ⟨by rw [h.n, List.length_take]; show min k 5 ≤ 6; omega, by rw [h.v]; exact hl, fun y hy => ?_⟩
  rw [h.n] at hy
  exact nm5_size y (List.mem_of_mem_take hy)
theorem Dr5.names_pos {x : Ev} {k : Nat} (h : Dr5 x k) (hk : 1 ≤ k) : 0 < x.names.length := by rw [h.n, List.length_take]; show 0 < min k 5; have := h.le; omega

set_option maxRecDepth 100000 in
set_option maxHeartbeats 8000000 in
theorem l10Any_any (w : World) (base g : Nat) (C : Cur w base g) :
    Calls Try.prog 43 #[.pointer (some ⟨g, 0, none⟩)] w fun e w' => ∃ r0 r1 x, e = .returned (.agg #[r0, r1]) ∧ EvOwn w.heap.size w' r0 r1 x ∧ Sm6 x ∧ Far g w w' ∧ Cur w' base g := by
  obtain ⟨W1, hW⟩ : ∃ W1, w.alloc (.cells #[.slice none 0 0, .slice none 0 0] 27) = W1 := ⟨_, rfl⟩
  have hb1 : Below w.heap.size w W1 := by rw [← hW]; go_grown
  have F1 : Hid (Far g w W1) := Far.ofBelow hb1
  have C1 : Hid (Cur W1 base g) := C.below (hb1.mono C.lt)
  have BR : Hid (Box W1 w.heap.size #[.slice none 0 0, .slice none 0 0] 27) := by rw [← hW]; exact hide (Box.made _ _ _)
  have HS1 : Hid (W1.heap.size = w.heap.size + 1) := by rw [← hW]; show _ = _; simp
  have hlt := C.lt
  have HW := hide hW
  clear hW C hb1
  go_enter Try.func43, Try.ntmps43
  go_wp2_with fail
  rw [HW.out]
  refine (below_any _ base g 10 (by omega) C1.out).mono ?_
  rintro e z1 ⟨k, hk, rfl, hf1, hc1⟩
  have HF1 := hide hf1
  have HC1 := hide hc1
  clear hf1 hc1
  go_wp2_with fail
  refine (l10Env_any z1 base g HC1.out).mono ?_
  rintro e z2 ⟨r0, r1, x, q, rfl, ho2, hd2, hq2, hf2, hc2⟩
  have HO2 := hide ho2
  have HD2 := hide hd2
  have HF2 := hide hf2
  have HC2 := hide hc2
  clear ho2 hd2 hf2 hc2
  have hn9 := HD2.out.sm.n
  have hv9 := HD2.out.sm.v
  go_wp2_with fail
  refine (copyEv_any r0 r1 x z2 HO2.out.at ⟨by omega, by omega⟩).mono ?_
  rintro e z3 ⟨s0, s1, rfl, ho3, hb3⟩
  obtain ⟨p0, k0, rfl⟩ := form_own ho3.o0
  obtain ⟨p1, k1, rfl⟩ := form_own ho3.o1
  have hba : Below z3.heap.size z3 (z3.alloc (.cells #[.slice p0 x.names.length k0, .slice p1 x.vals.length k1] 27)) := (Below.refl _ _).alloc (Nat.le_refl _) _
  have Z0 : Hid (DzE w base g w.heap.size z3.heap.size (w.heap.size + 1) (.slice p0 x.names.length k0) (.slice p1 x.vals.length k1) x (z3.alloc (.cells #[.slice p0 x.names.length k0, .slice p1 x.vals.length k1] 27))) := by
    have h1 := HS1.out
    have h2 := HF1.out.size
    have h3 := HF2.out.size
    have h4 := hb3.size
    have hba1 := hba.size
    exact ⟨⟨_, _, ((box_far HF2.out (box_far HF1.out BR.out (by omega)) (by omega)).stays hb3).stays hba⟩, Box.made _ _ _, (ho3.lo (by omega)).stays hba, Below.far' (B := z2.heap.size) (((F1.out.trans HF1.out).trans HF2.out)) (by omega) (hb3.trans (hba.mono h4)), (HC2.out.below (hb3.mono (by omega))).below (hba.mono (by omega)), hlt, Nat.le_refl _, by omega, Nat.lt_succ_self _, by omega⟩
  have HP0 := hide (HD2.out.names_pos hq2)
  have HPV : Hid (0 < x.vals.length) := by rw [HD2.out.v]; exact hide hq2
  clear ho3 hb3 hba
  obtain ⟨Z, hZ⟩ : ∃ Z, z3.alloc (.cells #[.slice p0 x.names.length k0, .slice p1 x.vals.length k1] 27) = Z := ⟨_, rfl⟩
  have HZ := hide hZ
  rw [hZ] at Z0
  clear hZ
  obtain ⟨G, eG⟩ : ∃ G, z3.heap.size = G := ⟨_, rfl⟩
  have EG := hide eG
  rw [eG] at Z0
  clear eG
  have hk' : k < 10 := by omega
  clear hk
  have t0 := Lib.cell_of_heap Z0.out.bO 0
  have t1 := Lib.cell_of_heap Z0.out.bO 1
  simp at t0 t1
  have t0 := Lib.cell_of_heap Z0.out.bO 0
  have t1 := Lib.cell_of_heap Z0.out.bO 1
  simp at t0 t1
  have t0 := Lib.cell_of_heap Z0.out.bO 0
  have t1 := Lib.cell_of_heap Z0.out.bO 1
  simp at t0 t1
  by_cases e0 : k = 0
  · subst e0
    obtain ⟨q1, rfl⟩ : ∃ q, p1 = some ⟨q, 0, none⟩ := by
      rcases Z0.out.own.o1.2 with ⟨e, h0⟩ | ⟨g, cap, cur, e, _⟩
      · have := HPV.out; omega
      · injection e with e1 _ _
        exact ⟨g, e1⟩
    have hpv := HPV.out
    have PV := hide fun W h => val_any W base g (Z0.out.stays (z' := W) h).cur
    go_wp2_with fail
    rw [HZ.out, EG.out]
    go_region_law (refine step_call rfl 48 #[.pointer (some ⟨g, 0, none⟩)] ?_ (PV.out _ ?_) ?_; (kernel_rfl); (exact (Below.refl _ _).drew); rintro e w2 ⟨u, rfl, hf, hc⟩; refine ⟨_, rfl, ?_⟩; have Z2 := hide ((Z0.out.stays (Below.refl _ _).drew).draws hf hc); clear hf hc; have t3 := Lib.cell_of_heap Z2.out.bO 1; simp at t3; obtain ⟨⟨uo, hu⟩, hfz⟩ := own_there Z2.out.own.o1 0 HPV.out 0 (by decide); rw [Nat.zero_mul, Nat.add_zero] at hu hfz; have Z3 := hide (Z2.out.setv (i := 0) u); have s2 := Lib.cell_of_heap Z3.out.bO 0; have s3 := Lib.cell_of_heap Z3.out.bO 1; obtain ⟨sa, sb, hss⟩ := Z3.out.bR; have s4 := Lib.cell_of_heap hss 0; have s5 := Lib.cell_of_heap hss 1; have g4 := Lib.frozen_of_heap hss 0; have g5 := Lib.frozen_of_heap hss 1; simp at s2 s3 s4 s5; clear hss)
    all_goals go_wp2
    all_goals
      obtain ⟨W, eW, hB, hO, hF, hC⟩ := Z3.out.fin
      rw [eW]
      refine box_ret (g := w.heap.size) (t := 27) (cs := #[.slice p0 x.names.length k0, .slice (some ⟨q1, 0, none⟩) x.vals.length k1]) rfl rfl ?_ _ Try.underlying27 rfl (by kernel_rfl) rfl ?_
      · exact hB
      · exact ⟨_, _, _, rfl, hO, ⟨hn9, by show (x.vals.set 0 u).length ≤ 5; rw [List.length_set]; exact hv9, HD2.out.sm.s⟩, hF, hC⟩
  by_cases e1 : k = 1
  · subst e1
    have ZA := hide Z0.out
    rw [← HZ.out, ← EG.out] at ZA t0 t1
    have HV := hide (ZA.out.stays ((Below.refl _ _).alloc (Nat.le_refl _) (.cells #[.string ⟨#[118]⟩] 9)))
    have HUV : Hid (((z3.alloc (.cells #[.slice p0 x.names.length k0, .slice p1 x.vals.length k1] 27)).alloc (.cells #[.string ⟨#[118]⟩] 9)).cell? ⟨z3.heap.size + 1, 0, none⟩ = some (.string ⟨#[118]⟩)) := hide (Lib.cell_of_heap (Box.madeAt (by simp) #[.string ⟨#[118]⟩] 9) 0)
    have HOV : Hid (((z3.alloc (.cells #[.slice p0 x.names.length k0, .slice p1 x.vals.length k1] 27)).alloc (.cells #[.string ⟨#[118]⟩] 9)).ownsRow (w.heap.size + 1) 9 1 (.slice p0 x.names.length k0) (x.names.map S).length (x.names.map S)) := by rw [List.length_map]; exact hide HV.out.own.o0
    go_wp2_with (at_builtin; refine wpList_more1 rfl (.tmp 21) (.tmp 22) 22 rfl (w.heap.size + 1) 9 (.string ⟨#[]⟩) 16 Try.underlying22 Try.infoStr rfl (.slice p0 x.names.length k0) (x.names.map S) rfl HOV.out (z3.heap.size + 1) (.string ⟨#[118]⟩) rfl HUV.out rfl ?_ ?_ HV.out.le ?_; (rw [List.length_map]; unfold maxLen; omega); (rw [List.length_map]; omega); intro v' w' hm; have sh := form_own hm.own; obtain ⟨po, co, e9⟩ := sh; subst e9; have HBX := hide (box_more hm HOV.out HV.out.bO (by decide)); have Z3 := hide (DzE.name HV.out hm); rw [List.length_map] at Z3; have kc := (Lib.cell_of_heap HBX.out 0).trans rfl; have kf := Lib.frozen_of_heap HBX.out 0; have s2 := Lib.cell_of_heap Z3.out.bO 0; have s3 := Lib.cell_of_heap Z3.out.bO 1; obtain ⟨sa, sb, hss⟩ := Z3.out.bR; have s4 := Lib.cell_of_heap hss 0; have s5 := Lib.cell_of_heap hss 1; have g4 := Lib.frozen_of_heap hss 0; have g5 := Lib.frozen_of_heap hss 1; simp at s2 s3 s4 s5; clear hss; clear hm)
    obtain ⟨W, eW, hB, hO, hF, hC⟩ := Z3.out.fin
    rw [eW]
    refine box_ret (g := w.heap.size) (t := 27) (cs := #[.slice po (x.names.length + 1) co, .slice p1 x.vals.length k1]) rfl rfl ?_ _ Try.underlying27 rfl (by kernel_rfl) rfl ?_
    · exact hB
    · exact ⟨_, _, _, rfl, hO, ⟨by show (x.names ++ [_]).length ≤ 6; rw [List.length_append, HD2.out.n, List.length_take]; have := HD2.out.le; show min q 5 + 1 ≤ 6; omega, hv9, fun y hy => by
        rcases List.mem_append.1 hy with h | h
        · exact HD2.out.sm.s y h
        · rw [List.mem_singleton.1 h]; decide⟩, hF, hC⟩
  by_cases e2 : k = 2
  · subst e2
    obtain ⟨q1, rfl⟩ : ∃ q, p0 = some ⟨q, 0, none⟩ := by
      rcases Z0.out.own.o0.2 with ⟨e, h0⟩ | ⟨g, cap, cur, e, _⟩
      · have := HP0.out; omega
      · injection e with e1 _ _
        exact ⟨g, e1⟩
    have hpv := HP0.out
    have PV : Hid (∀ W, Below (Z.heap.size + 1) (Z.alloc (.cells #[.string ⟨#[]⟩, .string ⟨#[98, 101, 103, 105, 110]⟩, .string ⟨#[110]⟩] 9)) W → Calls Try.prog 47 #[.pointer (some ⟨g, 0, none⟩), .slice (some ⟨Z.heap.size, 0, none⟩) 3 3] W fun e w' => ∃ x, x ∈ ([⟨#[]⟩, ⟨#[98, 101, 103, 105, 110]⟩, ⟨#[110]⟩] : List ByteArray) ∧ e = .returned (.string x) ∧ Far g Z w' ∧ Cur w' base g) := fun W h => pickStr_in Z W base g [⟨#[]⟩, ⟨#[98, 101, 103, 105, 110]⟩, ⟨#[110]⟩] 9 (by decide) (by decide) Z0.out.cur h
    have td0 := fun o => Lib.cell_of_heap (Z0.out.bO.stays ((Below.refl _ _).alloc (Nat.le_refl _) o)) 0
    simp at td0
    go_wp2_with fail
    rw [HZ.out, EG.out]
    go_region_law (refine step_call rfl 47 #[.pointer (some ⟨g, 0, none⟩), .slice (some ⟨Z.heap.size, 0, none⟩) 3 3] ?_ (PV.out _ ?_) ?_; (kernel_rfl); (exact (Below.refl _ _).drew); rintro e w2 ⟨u, hu9, rfl, hf, hc⟩; refine ⟨_, rfl, ?_⟩; have HU9 := hide hu9; have Z2 := hide (Z0.out.draws hf hc); clear hf hc hu9; have t3 := Lib.cell_of_heap Z2.out.bO 0; simp at t3; obtain ⟨⟨uo, hu⟩, hfz⟩ := own_there Z2.out.own.o0 0 HP0.out 0 (by decide); rw [Nat.zero_mul, Nat.add_zero] at hu hfz; have Z3 := hide (Z2.out.setn (i := 0) u); have s2 := Lib.cell_of_heap Z3.out.bO 0; have s3 := Lib.cell_of_heap Z3.out.bO 1; obtain ⟨sa, sb, hss⟩ := Z3.out.bR; have s4 := Lib.cell_of_heap hss 0; have s5 := Lib.cell_of_heap hss 1; have g4 := Lib.frozen_of_heap hss 0; have g5 := Lib.frozen_of_heap hss 1; simp at s2 s3 s4 s5; clear hss)
    all_goals go_wp2
    all_goals
      obtain ⟨W, eW, hB, hO, hF, hC⟩ := Z3.out.fin
      rw [eW]
      refine box_ret (g := w.heap.size) (t := 27) (cs := #[.slice (some ⟨q1, 0, none⟩) x.names.length k0, .slice p1 x.vals.length k1]) rfl rfl ?_ _ Try.underlying27 rfl (by kernel_rfl) rfl ?_
      · exact hB
      · exact ⟨_, _, _, rfl, hO, ⟨by show (x.names.set 0 u).length ≤ 6; rw [List.length_set]; exact hn9, hv9, fun y hy => by rcases List.mem_or_eq_of_mem_set hy with h | h; (exact HD2.out.sm.s y h); (rw [h]; exact (by decide : ∀ v ∈ ([⟨#[]⟩, ⟨#[98, 101, 103, 105, 110]⟩, ⟨#[110]⟩] : List ByteArray), v.size ≤ 6) u HU9.out)⟩, hF, hC⟩
  have f0 : ((k : Int) == 0) = false := by simp; omega
  have f1 : ((k : Int) == 1) = false := by simp; omega
  have f2 : ((k : Int) == 2) = false := by simp; omega
  have Z3 := hide Z0.out
  obtain ⟨sa, sb, hss⟩ := Z3.out.bR
  have s4 := Lib.cell_of_heap hss 0
  have s5 := Lib.cell_of_heap hss 1
  have g4 := Lib.frozen_of_heap hss 0
  have g5 := Lib.frozen_of_heap hss 1
  simp at s4 s5
  clear hss
  rw [← HZ.out, ← EG.out] at t0 t1
  rw [← HZ.out] at s4 s5 g4 g5
  go_wp2
  rw [HZ.out]
  obtain ⟨W, eW, hB, hO, hF, hC⟩ := Z3.out.fin
  rw [eW]
  refine box_ret (g := w.heap.size) (t := 27) (cs := #[.slice p0 x.names.length k0, .slice p1 x.vals.length k1]) rfl rfl ?_ _ Try.underlying27 rfl (by kernel_rfl) rfl ?_
  · exact hB
  · exact ⟨_, _, _, rfl, hO, HD2.out.sm, hF, hC⟩
end Go.Proofs.Ytmckcbgdkjbpfaa
