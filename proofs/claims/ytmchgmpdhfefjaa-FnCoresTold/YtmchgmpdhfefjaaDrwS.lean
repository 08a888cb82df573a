/-
  Walks: a core is drawn, right or not.
-/
import Derived.Test.YtmchgmpdhfefjaaDrwR
import Derived.Test.YtmchgmpdhfefjaaCorQ
import Derived.Test.YtmchgmpdhfefjaaCorW
namespace Go.Proofs.Ytmchgmpdhfefjaa
open Go.RowKit

/-- A row of numbers in blocks from a base on, wherever in its block it begins. -/
def IntsFrom (base : Nat) (w : World) (v : Value) (xs : List Int) : Prop :=
  ∃ ao c, v = .slice ao xs.length c ∧ ∀ j (h : j < xs.length), ∃ a, ao = some a ∧ base ≤ a.block ∧ a.block < w.heap.size ∧ w.cell? (a.add j) = some (.int .i64 xs[j])
theorem IntsFrom.at {base : Nat} {w : World} {v : Value} {xs : List Int} (h : IntsFrom base w v xs) : IntsAt w v xs := by
  obtain ⟨ao, c, rfl, hx⟩ := h
  exact ⟨ao, c, rfl, fun j hj => by obtain ⟨a, h1, _, h2, h3⟩ := hx j hj; exact ⟨a, h1, h2, h3⟩⟩
theorem IntsFrom.far {base g : Nat} {w w' : World} {v : Value} {xs : List Int} (h : IntsFrom base w v xs) (hf : Far g w w') (hg : g < base) : IntsFrom base w' v xs := by
  obtain ⟨ao, c, rfl, hx⟩ := h
  refine ⟨ao, c, rfl, fun j hj => ?_⟩
  obtain ⟨a, rfl, h1, h2, h3⟩ := hx j hj
  refine ⟨a, rfl, h1, Nat.lt_of_lt_of_le h2 hf.size, ?_⟩
  rw [← h3]
  exact World.cell?_of_block (hf.far _ (by rw [block_add]; omega) (by rw [block_add]; exact h2))
theorem IntsFrom.mono {base b : Nat} {w : World} {v : Value} {xs : List Int} (h : IntsFrom base w v xs) (hb : b ≤ base) : IntsFrom b w v xs := by
  obtain ⟨ao, c, e, hx⟩ := h
  refine ⟨ao, c, e, fun j hj => ?_⟩
  obtain ⟨a, h1, h2, h3⟩ := hx j hj
  exact ⟨a, h1, Nat.le_trans hb h2, h3⟩
theorem IntsFrom.own {base n : Nat} {w : World} {v : Value} {xs : List Int} (h : w.ownsRow base 3 1 v n (xs.map I64)) : IntsFrom base w v xs := by
  obtain ⟨ao, c, e, _, hx⟩ := CellsIn.own h
  rw [List.length_map] at e
  refine ⟨ao, c, e, fun j hj => hx j _ ?_⟩
  rw [List.getElem?_map, List.getElem?_eq_getElem hj]
  rfl

/-- While a core is drawn: the result, the core in its box, its eight numbers; the cursor g. -/
structure CnZ (w : World) (base g G q c : Nat) (pc pr : Int) (z : World) : Prop where
  bR : ∃ a b d, Box z w.heap.size #[a, b, d] 26
  bO : Box z G #[.slice (some ⟨q, 0, none⟩) 8 c, .int .i64 pc, .int .i64 pr] 26
  ro : ∃ xs : List Int, xs.length = 8 ∧ z.ownsRow (w.heap.size + 1) 3 1 (.slice (some ⟨q, 0, none⟩) 8 c) 8 (xs.map I64)
  far : Far g w z
  cur : Cur z base g
  lt : g < w.heap.size
  le : w.heap.size < G
theorem CnZ.draws {w : World} {base g G q c : Nat} {pc pr : Int} {z z' : World} (h : CnZ w base g G q c pc pr z) (hf : Far g z z') (hc : Cur z' base g) : CnZ w base g G q c pc pr z' := by
  obtain ⟨a, b, d, hr⟩ := h.bR
  obtain ⟨xs, hx, ho⟩ := h.ro
  have := h.lt
  have := h.le
  exact ⟨⟨a, b, d, farBox hf hr (by omega)⟩, farBox hf h.bO (by omega), ⟨xs, hx, ownsRow_far ho hf (by omega)⟩, h.far.trans hf, hc, h.lt, h.le⟩
theorem CnZ.stays {w : World} {base g G q c : Nat} {pc pr : Int} {z z' : World} (h : CnZ w base g G q c pc pr z) (hb : Below z.heap.size z z') : CnZ w base g G q c pc pr z' :=
  h.draws (Far.ofBelow hb) (h.cur.below (hb.mono (by have := h.far.size; have := h.lt; omega)))
theorem CnZ.far' {w : World} {base g G q c : Nat} {pc pr : Int} {z z' : World} (h : CnZ w base g G q c pc pr z) {b o : Nat} {v : Value} (e : z' = z.setCell ⟨b, o, none⟩ v) (hb : w.heap.size ≤ b) : Far g w z' ∧ Cur z' base g := by
  have hk : Below w.heap.size z z' := by rw [e]; exact (Below.refl _ _).setCell (p := ⟨b, o, none⟩) hb _
  exact ⟨Below.far' h.far (Nat.le_refl _) hk, h.cur.below (hk.mono (by have := h.lt; omega))⟩
theorem CnZ.set {w : World} {base g G q c : Nat} {pc pr pc' pr' : Int} {z : World} (h : CnZ w base g G q c pc pr z) (i : Nat) (v : Value) (e : (#[Value.slice (some ⟨q, 0, none⟩) 8 c, .int .i64 pc, .int .i64 pr] : Array Value).setIfInBounds i v = #[.slice (some ⟨q, 0, none⟩) 8 c, .int .i64 pc', .int .i64 pr']) :
    CnZ w base g G q c pc' pr' (z.setCell ⟨G, i, none⟩ v) := by
  obtain ⟨a, b, d, hr⟩ := h.bR
  obtain ⟨xs, hx, ho⟩ := h.ro
  have hle := h.le
  obtain ⟨hf, hc⟩ := h.far' (b := G) (o := i) (v := v) rfl (by omega)
  refine ⟨⟨a, b, d, hr.other _ _ (by show w.heap.size ≠ G; omega)⟩, ?_, ⟨xs, hx, owns_eq ho fun k hk => Below.heap_setCell _ ⟨G, i, none⟩ _ k (fun e => Lib.ownBlock_ne ho h.bO (by decide) (by rw [hk, show k = G from e]))⟩, hf, hc, h.lt, h.le⟩
  have := h.bO.set i v
  rw [e] at this
  exact this
theorem CnZ.reg {w : World} {base g G q c : Nat} {pc pr : Int} {z : World} (h : CnZ w base g G q c pc pr z) (i : Nat) (n : Int) : CnZ w base g G q c pc pr (z.setCell ⟨q, i, none⟩ (.int .i64 n)) := by
  obtain ⟨a, b, d, hr⟩ := h.bR
  obtain ⟨xs, hx, ho⟩ := h.ro
  have hq := (ho.lt q rfl).1
  obtain ⟨hf, hc⟩ := h.far' (b := q) (o := i) (v := .int .i64 n) rfl (by omega)
  have hGq : G ≠ q := fun e => Lib.ownBlock_ne ho h.bO (by decide) (by rw [e]; rfl)
  refine ⟨⟨a, b, d, hr.other _ _ (by show w.heap.size ≠ q; omega)⟩, h.bO.other _ _ (by show G ≠ q; exact hGq), ⟨xs.set i n, by simpa using hx, ?_⟩, hf, hc, h.lt, h.le⟩
  have h9 := (ho.stored i (.int .i64 n)).1
  rw [List.map_set]
  exact h9
theorem CnZ.cell {w : World} {base g G q c : Nat} {pc pr : Int} {z : World} (h : CnZ w base g G q c pc pr z) {i : Nat} (hi : i < 8) : (∃ n : Int, z.cell? ⟨q, i, none⟩ = some (.int .i64 n)) ∧ z.frozen? ⟨q, i, none⟩ = false := by
  obtain ⟨xs, hx, ho⟩ := h.ro
  have := own_cell ho hi
  exact ⟨⟨_, this.1⟩, this.2⟩

theorem CnZ.cap {w : World} {base g G q c : Nat} {pc pr : Int} {z : World} (h : CnZ w base g G q c pc pr z) : 8 ≤ c := by
  obtain ⟨xs, hx, ho⟩ := h.ro
  obtain ⟨ao, c', e, hr, _⟩ := CellsIn.own ho
  injection e with _ _ e3
  rw [List.length_map, hx] at hr
  omega
/-- What is drawn is put into the result. -/
structure FnZ (w : World) (base g G : Nat) (v : Value) (x : Co) (z : World) : Prop where
  bR : ∃ a b d, Box z w.heap.size #[a, b, d] 26
  bO : Box z G #[v, .int .i64 x.pc, .int .i64 x.process] 26
  row : IntsFrom (w.heap.size + 1) z v x.regs
  len : x.regs.length ≤ 8
  far : Far g w z
  cur : Cur z base g
  lt : g < w.heap.size
theorem FnZ.fin {w : World} {base g G : Nat} {v : Value} {x : Co} {z : World} (h : FnZ w base g G v x z) : ∃ W, (((z.setCell ⟨w.heap.size, 0, none⟩ v).setCell ⟨w.heap.size, 1, none⟩ (.int .i64 x.pc)).setCell ⟨w.heap.size, 2, none⟩ (.int .i64 x.process)) = W ∧ Box W w.heap.size #[v, .int .i64 x.pc, .int .i64 x.process] 26 ∧ IntsFrom (w.heap.size + 1) W v x.regs ∧ x.regs.length ≤ 8 ∧ Far g w W ∧ Cur W base g := by
  obtain ⟨a, b, d, hr⟩ := h.bR
  have hk : Below w.heap.size z (((z.setCell ⟨w.heap.size, 0, none⟩ v).setCell ⟨w.heap.size, 1, none⟩ (.int .i64 x.pc)).setCell ⟨w.heap.size, 2, none⟩ (.int .i64 x.process)) :=
    (((Below.refl _ _).setCell (p := ⟨w.heap.size, 0, none⟩) (Nat.le_refl _) _).setCell (p := ⟨w.heap.size, 1, none⟩) (Nat.le_refl _) _).setCell (p := ⟨w.heap.size, 2, none⟩) (Nat.le_refl _) _
  have hf : Far w.heap.size z (((z.setCell ⟨w.heap.size, 0, none⟩ v).setCell ⟨w.heap.size, 1, none⟩ (.int .i64 x.pc)).setCell ⟨w.heap.size, 2, none⟩ (.int .i64 x.process)) :=
    ⟨hk.os, hk.tape, hk.output, hk.size, fun b hb _ => (Below.heap_setCell _ _ _ b hb).trans ((Below.heap_setCell _ _ _ b hb).trans (Below.heap_setCell _ _ _ b hb))⟩
  exact ⟨_, rfl, by simpa using ((hr.set 0 v).set 1 (.int .i64 x.pc)).set 2 (.int .i64 x.process), h.row.far hf (Nat.lt_succ_self _), h.len, Below.far' h.far (Nat.le_refl _) hk, h.cur.below (hk.mono h.lt)⟩
theorem CnZ.end {w : World} {base g G q c : Nat} {pc pr : Int} {z : World} (h : CnZ w base g G q c pc pr z) : ∃ xs, FnZ w base g G (.slice (some ⟨q, 0, none⟩) 8 c) ⟨xs, pc, pr⟩ z := by
  obtain ⟨xs, hx, ho⟩ := h.ro
  exact ⟨xs, h.bR, h.bO, by have := IntsFrom.own ho; exact this, by simp [hx], h.far, h.cur, h.lt⟩
theorem CnZ.cut {w : World} {base g G q c : Nat} {pc pr : Int} {z : World} (h : CnZ w base g G q (c + 2) pc pr z) : ∃ xs, FnZ w base g G (.slice (some ⟨q, 1, none⟩) 7 (c + 1)) ⟨xs, pc, pr⟩ (z.setCell ⟨G, 0, none⟩ (.slice (some ⟨q, 1, none⟩) 7 (c + 1))) := by
  obtain ⟨a, b, d, hr⟩ := h.bR
  obtain ⟨xs, hx, ho⟩ := h.ro
  have hle := h.le
  obtain ⟨hf, hc⟩ := h.far' (b := G) (o := 0) (v := .slice (some ⟨q, 1, none⟩) 7 (c + 1)) rfl (by omega)
  have ho2 := owns_eq (z' := z.setCell ⟨G, 0, none⟩ (.slice (some ⟨q, 1, none⟩) 7 (c + 1))) ho fun k hk => Below.heap_setCell _ ⟨G, 0, none⟩ _ k (fun e => Lib.ownBlock_ne ho h.bO (by decide) (by rw [hk, show k = G from e]))
  have hq := (ho2.lt q rfl)
  refine ⟨xs.tail, ⟨a, b, d, hr.other _ _ (by show w.heap.size ≠ G; omega)⟩, by simpa using h.bO.set 0 (.slice (some ⟨q, 1, none⟩) 7 (c + 1)), ⟨some ⟨q, 1, none⟩, c + 1, by simp [hx], fun j hj => ⟨_, rfl, hq.1, hq.2, ?_⟩⟩, by simp [hx], hf, hc, h.lt⟩
  have hj' : j + 1 < 8 := by simp [hx] at hj; omega
  have h9 := (own_cell ho2 hj').1
  have ea : (⟨q, 1, none⟩ : Addr).add j = ⟨q, j + 1, none⟩ := by
    simp only [Addr.add]
    split
    · next e => subst e; rfl
    · rw [Nat.add_comm 1 j]
  rw [ea, h9]
  simp [List.getD]
  rw [List.getElem?_eq_getElem (by omega)]
  rfl

set_option maxRecDepth 100000 in
set_option maxHeartbeats 4000000 in
theorem l15Any_any (w : World) (base g : Nat) (C : Cur w base g) :
    Calls Try.prog 24 #[.pointer (some ⟨g, 0, none⟩)] w fun e w' => ∃ (v : Value) (x : Co), e = .returned (.agg #[v, .int .i64 x.pc, .int .i64 x.process]) ∧ IntsFrom (w.heap.size + 1) w' v x.regs ∧ x.regs.length ≤ 8 ∧ Far g w w' ∧ Cur w' base g := by
  have hg := C.lt
  have CW := fun z => hide (specCoreNew_any z)
  obtain ⟨W1, hW⟩ : ∃ W1, w.alloc (.cells #[.slice none 0 0, .int .i64 0, .int .i64 0] 26) = W1 := ⟨_, rfl⟩
  have hb1 : Below w.heap.size w W1 := by rw [← hW]; exact (Below.refl _ _).alloc (Nat.le_refl _) _
  have F1 : Hid (Far g w W1) := hide (Far.ofBelow hb1)
  have C1 : Hid (Cur W1 base g) := hide (C.below (hb1.mono hg))
  have R1 : Hid (Box W1 w.heap.size #[.slice none 0 0, .int .i64 0, .int .i64 0] 26) := by rw [← hW]; exact hide (Box.made w _ _)
  have S1 : W1.heap.size = w.heap.size + 1 := by rw [← hW]; simp
  have HW := hide hW
  clear hW hb1 C
  go_enter Try.func24, Try.ntmps24
  go_wp2_with fail
  rw [HW.out]
  refine (unhide (CW _)).mono ?_
  rintro e z1 ⟨r0, rfl, ho, hb⟩
  obtain ⟨q, c, rfl, hq⟩ := own_form ho.o0 (by decide)
  have hz1 : w.heap.size + 1 ≤ z1.heap.size := by have := hb.size; omega
  have hG1 : Below z1.heap.size z1 (z1.alloc (.cells #[.slice (some ⟨q, 0, none⟩) 8 c, .int .i64 0, .int .i64 (-1)] 26)) := (Below.refl _ _).alloc (Nat.le_refl _) _
  have hbw := hb.trans (hG1.mono hb.size)
  have Z1 : Hid (CnZ w base g z1.heap.size q c 0 (-1) (z1.alloc (.cells #[.slice (some ⟨q, 0, none⟩) 8 c, .int .i64 0, .int .i64 (-1)] 26))) :=
    hide ⟨⟨_, _, _, R1.out.stays hbw⟩, Box.made _ _ _, ⟨List.replicate 8 0, by simp, by have := owns_eq ho.o0 (fun k hk => hG1.block k (ho.o0.lt k hk).2); rw [S1] at this; exact this⟩, F1.out.trans (Far.ofBelow hbw), C1.out.below (hbw.mono (by omega)), hg, by omega⟩
  obtain ⟨Z, hZ⟩ : ∃ Z, z1.alloc (.cells #[.slice (some ⟨q, 0, none⟩) 8 c, .int .i64 0, .int .i64 (-1)] 26) = Z := ⟨_, rfl⟩
  obtain ⟨G, eG⟩ : ∃ G, z1.heap.size = G := ⟨_, rfl⟩
  have HZ := hide hZ
  have EG := hide eG
  rw [hZ, eG] at Z1
  clear hZ eG F1 C1 R1 hbw hG1 ho hb hz1 hq CW
  have e8 : coreNewE.regs.length = 8 := rfl
  have ep : coreNewE.pc = 0 := rfl
  have er : coreNewE.process = -1 := rfl
  go_upto_region 2 with fail
  rw [HZ.out, EG.out]
  clear e8 ep er
  clear HZ EG HW S1
  have CP : ∀ z : World, Cur z base g → Hid (Calls Try.prog 23 #[.pointer (some ⟨g, 0, none⟩), .slice (some ⟨z.heap.size, 0, none⟩) 6 6] (z.alloc (.cells #[.int .i64 0, .int .i64 1, .int .i64 2, .int .i64 (-1), .int .i64 5, .int .i64 999999] 3)).drew fun e w' => ∃ n : Int, e = .returned (.int .i64 n) ∧ Far g z w' ∧ Cur w' base g) := fun z C => hide ((pickInt_in z (z.alloc (.cells #[.int .i64 0, .int .i64 1, .int .i64 2, .int .i64 (-1), .int .i64 5, .int .i64 999999] 3)).drew base g [0, 1, 2, -1, 5, 999999] 3 (by simp) (by simp) C ((Below.refl _ _).drew)).mono fun e w' ⟨n, _, h⟩ => ⟨n, h⟩)
  have CB := fun z (n : Nat) hn C => hide (below_any z base g n hn C)
  have CQ := fun z C => hide (pickInt_made z (z.alloc (.cells #[.int .i64 (-1), .int .i64 900, .int .i64 9223372036854775807] 3)) base g [-1, 900, 9223372036854775807] 3 (by simp) (by simp) C rfl)
  have KS : Hid (∀ z : World, CnZ w base g G q c 0 (-1) z → z.cell? ⟨G, 0, none⟩ = some (.slice (some ⟨q, 0, none⟩) 8 c) ∧ Hid (CnZ w base g G q c 0 (-1) z)) := hide fun z h => ⟨Lib.cell_of_heap h.bO 0, h⟩
  have KP : Hid (∀ z z' : World, (z.cell? ⟨G, 0, none⟩ = some (.slice (some ⟨q, 0, none⟩) 8 c) ∧ Hid (CnZ w base g G q c 0 (-1) z)) → Below z.heap.size z z' → (z'.cell? ⟨G, 0, none⟩ = some (.slice (some ⟨q, 0, none⟩) 8 c) ∧ Hid (CnZ w base g G q c 0 (-1) z'))) := hide fun z z' h hb => KS.out _ (h.2.out.stays hb)
  have KN : Hid (∀ z : World, (z.cell? ⟨G, 0, none⟩ = some (.slice (some ⟨q, 0, none⟩) 8 c) ∧ Hid (CnZ w base g G q c 0 (-1) z)) → CnZ w base g G q c 0 (-1) z) := hide fun z h => h.2.out
  go_wp2_with fail
  go_loopw [4] (fun i wr => ∃ k : Nat, k ≤ 8 ∧ i = .int .i64 (k : Int) ∧ Hid (CnZ w base g G q c 0 (-1) wr)) (fun i _ => 8 - (intOf i).toNat)
  case atStart => exact ⟨0, Nat.zero_le _, rfl, Z1⟩
  case round =>
    obtain ⟨k, hk, rfl, HZ⟩ := hrel
    clear Z1
    by_cases hlt : k < 8
    · have K0 := hide (KS.out _ HZ.out)
      have K1 := hide (KP.out _ _ K0.out ((Below.refl _ _).drew))
      have hlt' : (k : Int) < 8 := by omega
      clear HZ
      go_wp2_with fail
      go_region_held3 (fun z => z.cell? ⟨G, 0, none⟩ = some (.slice (some ⟨q, 0, none⟩) 8 c) ∧ Hid (CnZ w base g G q c 0 (-1) z)) (first | with_reducible exact K0.out | with_reducible exact K1.out | with_reducible exact KS.out _ (CW.out.reg _ _) | with_reducible exact KS.out _ CW.out | with_reducible exact KP.out _ _ (by assumption) ((Below.refl _ _).alloc (Nat.le_refl _) _))
        ((go_at_call 23; refine (unhide (CP _ (KN.out _ (by assumption)).cur)).mono ?_; rintro e w7 ⟨n, rfl, hf7, hc7⟩; have CW : Hid (CnZ w base g G q c 0 (-1) w7) := (hide ((KN.out _ (by assumption)).draws hf7 hc7)); have cq := CW.out.cell hlt; obtain ⟨⟨nq, y0⟩, f0⟩ := cq; clear hf7 hc7))
      have HN := hide (CW.out.reg k n)
      clear CW K0 K1 y0 f0 nq
      go_wp2
      go_roundw
      case rel => exact ⟨k + 1, by omega, by go_num, HN⟩
      case measure => simp [intOf]; omega
    · have hlt' : ¬ (k : Int) < 8 := by omega
      clear hlt hk KS KP KN CP
      go_wp2_with fail
      refine (unhide (CB _ 6 (by omega) HZ.out.cur)).mono ?_
      rintro e z2 ⟨p, hp, rfl, hf2, hc2⟩
      have Z2 := hide (HZ.out.draws hf2 hc2)
      have f1 := Lib.frozen_of_heap Z2.out.bO 1
      have c1 := Lib.cell_of_heap Z2.out.bO 1
      have Z3 := hide (Z2.out.set (pc' := (p : Int)) (pr' := -1) 1 (.int .i64 (p : Int)) (by simp))
      simp at c1
      clear HZ hf2 hc2 Z2
      go_wp2_with fail
      refine (unhide (CB _ 5 (by omega) Z3.out.cur)).mono ?_
      rintro e z3 ⟨m, hm, rfl, hf3, hc3⟩
      have hm5 : m < 5 := by omega
      have Z4 := hide (Z3.out.draws hf3 hc3)
      clear f1 c1 Z3 hf3 hc3
      have f2 := Lib.frozen_of_heap Z4.out.bO 2
      have c2 := Lib.cell_of_heap Z4.out.bO 2
      have Z5 := hide (Z4.out.set (pc' := (p : Int)) (pr' := (m : Int) - 1) 2 (.int .i64 ((m : Int) - 1)) (by simp))
      simp at c2
      clear Z4
      go_wp2_with fail
      refine (unhide (CB _ 12 (by omega) Z5.out.cur)).mono ?_
      rintro e z4 ⟨n, hn, rfl, hf4, hc4⟩
      have Z6 := hide (Z5.out.draws hf4 hc4)
      clear f2 c2 Z5 hf4 hc4 hn
      have hcase : n = 0 ∨ n = 1 ∨ n = 2 ∨ 3 ≤ n := by omega
      rcases hcase with rfl | rfl | rfl | hn3
      · have hc8 := Z6.out.cap
        obtain ⟨c', rfl⟩ : ∃ c', c = c' + 2 := ⟨c - 2, by omega⟩
        obtain ⟨xs, fz⟩ := Z6.out.cut
        have FZ := hide fz
        clear fz
        have x0 := Lib.cell_of_heap Z6.out.bO 0
        have g0 := Lib.frozen_of_heap Z6.out.bO 0
        simp at x0
        clear Z6
        obtain ⟨ra, rb, rd, hrr⟩ := FZ.out.bR
        have s0 := Lib.cell_of_heap hrr 0
        have f0 := Lib.frozen_of_heap hrr 0
        have d0 := Lib.cell_of_heap FZ.out.bO 0
        have s1 := Lib.cell_of_heap hrr 1
        have f1 := Lib.frozen_of_heap hrr 1
        have d1 := Lib.cell_of_heap FZ.out.bO 1
        have s2 := Lib.cell_of_heap hrr 2
        have f2 := Lib.frozen_of_heap hrr 2
        have d2 := Lib.cell_of_heap FZ.out.bO 2
        simp at s0 s1 s2 d0 d1 d2
        clear hrr
        go_wp2
        obtain ⟨W, eW, hB, hI, hL, hF, hC⟩ := FZ.out.fin
        rw [eW]
        refine box_ret (g := w.heap.size) (t := 26) (cs := #[.slice (some ⟨q, 1, none⟩) 7 (c' + 1), .int .i64 ((p : Nat) : Int), .int .i64 (((m : Nat) : Int) - 1)]) rfl rfl ?_ _ Try.underlying26 rfl (by kernel_rfl) rfl ?_
        · exact hB
        · exact ⟨_, ⟨xs, ((p : Nat) : Int), (((m : Nat) : Int) - 1)⟩, rfl, hI, hL, hF, hC⟩
      · obtain ⟨⟨n0, y0⟩, g0⟩ := Z6.out.cell (i := 0) (by omega)
        have x0 := Lib.cell_of_heap Z6.out.bO 0
        simp at x0
        obtain ⟨xs, fz⟩ := (Z6.out.reg 0 1000001).end
        have FZ := hide fz
        clear fz Z6
        obtain ⟨ra, rb, rd, hrr⟩ := FZ.out.bR
        have s0 := Lib.cell_of_heap hrr 0
        have f0 := Lib.frozen_of_heap hrr 0
        have d0 := Lib.cell_of_heap FZ.out.bO 0
        have s1 := Lib.cell_of_heap hrr 1
        have f1 := Lib.frozen_of_heap hrr 1
        have d1 := Lib.cell_of_heap FZ.out.bO 1
        have s2 := Lib.cell_of_heap hrr 2
        have f2 := Lib.frozen_of_heap hrr 2
        have d2 := Lib.cell_of_heap FZ.out.bO 2
        simp at s0 s1 s2 d0 d1 d2
        clear hrr
        go_wp2
        obtain ⟨W, eW, hB, hI, hL, hF, hC⟩ := FZ.out.fin
        rw [eW]
        refine box_ret (g := w.heap.size) (t := 26) (cs := #[.slice (some ⟨q, 0, none⟩) 8 c, .int .i64 ((p : Nat) : Int), .int .i64 (((m : Nat) : Int) - 1)]) rfl rfl ?_ _ Try.underlying26 rfl (by kernel_rfl) rfl ?_
        · exact hB
        · exact ⟨_, ⟨xs, ((p : Nat) : Int), (((m : Nat) : Int) - 1)⟩, rfl, hI, hL, hF, hC⟩
      · go_wp2_with fail
        refine (unhide (CQ _ Z6.out.cur)).mono ?_
        rintro e z5 ⟨t, _, rfl, hf5, hc5⟩
        have Z7 := hide (Z6.out.draws hf5 hc5)
        have c1 := Lib.cell_of_heap Z7.out.bO 1
        have g1 := Lib.frozen_of_heap Z7.out.bO 1
        simp at c1
        obtain ⟨xs, fz⟩ := (Z7.out.set (pc' := t) (pr' := (m : Int) - 1) 1 (.int .i64 t) (by simp)).end
        have FZ := hide fz
        clear fz Z6 Z7 hf5 hc5
        obtain ⟨ra, rb, rd, hrr⟩ := FZ.out.bR
        have s0 := Lib.cell_of_heap hrr 0
        have f0 := Lib.frozen_of_heap hrr 0
        have d0 := Lib.cell_of_heap FZ.out.bO 0
        have s1 := Lib.cell_of_heap hrr 1
        have f1 := Lib.frozen_of_heap hrr 1
        have d1 := Lib.cell_of_heap FZ.out.bO 1
        have s2 := Lib.cell_of_heap hrr 2
        have f2 := Lib.frozen_of_heap hrr 2
        have d2 := Lib.cell_of_heap FZ.out.bO 2
        simp at s0 s1 s2 d0 d1 d2
        clear hrr
        go_wp2
        obtain ⟨W, eW, hB, hI, hL, hF, hC⟩ := FZ.out.fin
        rw [eW]
        refine box_ret (g := w.heap.size) (t := 26) (cs := #[.slice (some ⟨q, 0, none⟩) 8 c, .int .i64 t, .int .i64 (((m : Nat) : Int) - 1)]) rfl rfl ?_ _ Try.underlying26 rfl (by kernel_rfl) rfl ?_
        · exact hB
        · exact ⟨_, ⟨xs, t, (((m : Nat) : Int) - 1)⟩, rfl, hI, hL, hF, hC⟩
      · obtain ⟨xs, fz⟩ := Z6.out.end
        have FZ := hide fz
        clear fz Z6
        obtain ⟨ra, rb, rd, hrr⟩ := FZ.out.bR
        have s0 := Lib.cell_of_heap hrr 0
        have f0 := Lib.frozen_of_heap hrr 0
        have d0 := Lib.cell_of_heap FZ.out.bO 0
        have s1 := Lib.cell_of_heap hrr 1
        have f1 := Lib.frozen_of_heap hrr 1
        have d1 := Lib.cell_of_heap FZ.out.bO 1
        have s2 := Lib.cell_of_heap hrr 2
        have f2 := Lib.frozen_of_heap hrr 2
        have d2 := Lib.cell_of_heap FZ.out.bO 2
        simp at s0 s1 s2 d0 d1 d2
        clear hrr
        go_wp2
        obtain ⟨W, eW, hB, hI, hL, hF, hC⟩ := FZ.out.fin
        rw [eW]
        refine box_ret (g := w.heap.size) (t := 26) (cs := #[.slice (some ⟨q, 0, none⟩) 8 c, .int .i64 ((p : Nat) : Int), .int .i64 (((m : Nat) : Int) - 1)]) rfl rfl ?_ _ Try.underlying26 rfl (by kernel_rfl) rfl ?_
        · exact hB
        · exact ⟨_, ⟨xs, ((p : Nat) : Int), (((m : Nat) : Int) - 1)⟩, rfl, hI, hL, hF, hC⟩
end Go.Proofs.Ytmchgmpdhfefjaa
