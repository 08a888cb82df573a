/-
  The law FnCoresTold: what is told of a drawn core, over what the program answers.
-/
import Derived.Test.YtmchgmpdhfefjaaLwCf
import Derived.Test.YtmchgmpdhfefjaaDrwU
import Derived.Test.YtmchgmpdhfefjaaCurX
namespace Go.Proofs.Ytmchgmpdhfefjaa
open Go.RowKit

/-- What CoreNew, CoreOk and TouchOf of the program answer. -/
def ImpCoreNew : Prop := ∀ (w : World), Calls Try.prog 16 #[] w fun e w' => ∃ r0, e = .returned (.agg #[r0, .int .i64 coreNewE.pc, .int .i64 coreNewE.process]) ∧ CoOwn w.heap.size w' r0 coreNewE ∧ Below w.heap.size w w'
def ImpCoreOk : Prop := ∀ (v : Value) (x : Co) (w : World), CoAt w v x → CoLen x → Calls Try.prog 17 #[.agg #[v, .int .i64 x.pc, .int .i64 x.process]] w fun e w' => e = .returned (.bool (coreOkB x)) ∧ Below w.heap.size w w'
def ImpTouchOf : Prop := ∀ (v : Value) (xs : List Int) (pc : Int) (w : World), IntsAt w v xs → xs.length ≤ 1048576 → Calls Try.prog 19 #[v, .int .i64 pc] w fun e w' => e = .returned (.int .i64 (touchE xs pc)) ∧ Below w.heap.size w w'

theorem told_word : insB 9 7 0 1 = true := by decide
theorem told_dec : decB 2650800129 = true ∧ decE 2650800129 = ⟨9, 7, 0, 1⟩ := by
  have h : decB 2650800129 = true := by decide
  refine ⟨h, ?_⟩
  unfold decE
  rw [if_pos h, show decOp 2650800129 = 9 by decide, show decA 2650800129 = 7 by decide, show decBb 2650800129 = 0 by decide, show decC 2650800129 = 1 by decide]
/-- A word that tests is done. -/
theorem told_step (regs mem : List Int) (h8 : regs.length = 8) (hv : regs.all vok = true) (hm : mem.length = 2) (hp : vok (mem.getD 1 0) = true) :
    stepE ⟨regs, 0, 0⟩ [2650800129] mem = (⟨regs.set 7 (mem.getD 1 0), 1, 0⟩, mem.set 1 1, 0) := by
  have hc : coreOkB ⟨regs, 0, 0⟩ = true := by
    unfold coreOkB
    simp [hv, h8, inZ]
  have hz : inZ 0 ((mem.length : Int) - 1) 1 = true := by rw [inZ_yes]; omega
  unfold stepE
  rw [if_pos ⟨hc, (show inZ 0 (1 - 1) 0 = true by decide), told_dec.1⟩]
  show stepIns ⟨regs, 0, 0⟩ (decE 2650800129) mem = _
  rw [told_dec.2]
  unfold stepIns
  rw [if_pos (by decide)]
  unfold stepMem
  rw [if_pos hz, if_neg (by decide)]
  show (if vok (mem.getD 1 0) = true then _ else _) = _
  rw [if_pos hp]
  rfl
theorem all_set (xs : List Int) (k : Nat) (v : Int) (h : xs.all vok = true) (hv : vok v = true) : (xs.set k v).all vok = true := by
  rw [List.all_eq_true] at *
  intro y hy
  rcases List.mem_or_eq_of_mem_set hy with h1 | h1
  · exact h y h1
  · rw [h1]; exact hv

theorem ints_row {w : World} (xs : List Int) (n c : Nat) (hn : n = xs.length) : IntsAt (w.alloc (.cells (xs.map I64).toArray 3)) (.slice (some ⟨w.heap.size, 0, none⟩) n c) xs := by
  subst hn
  refine ⟨_, c, rfl, fun j hj => ⟨_, rfl, by simp, ?_⟩⟩
  rw [add_zero_at]
  have := row_cells w xs 3 j hj
  rw [List.getD_eq_getElem?_getD, List.getElem?_eq_getElem hj] at this
  exact this
theorem ints_one (w : World) (a : Int) : IntsAt (w.alloc (.cells #[.int .i64 a] 3)) (.slice (some ⟨w.heap.size, 0, none⟩) 1 1) [a] := ints_row [a] 1 1 rfl
theorem ints_two (w : World) (a b : Int) : IntsAt (w.alloc (.cells #[.int .i64 a, .int .i64 b] 3)) (.slice (some ⟨w.heap.size, 0, none⟩) 2 2) [a, b] := ints_row [a, b] 2 2 rfl
/-- What the program answers at a word that tests. -/
theorem told_call (IS : ImpStepCore) (v av bv : Value) (regs mem : List Int) (W : World) (h8 : regs.length = 8) (hr : regs.all vok = true) (hm : mem.length = 2) (hp : vok (mem.getD 1 0) = true)
    (hx : IntsAt W v regs) (ha : IntsAt W av [2650800129]) (hb : IntsAt W bv mem) :
    Calls Try.prog 7 #[.agg #[v, .int .i64 0, .int .i64 0], av, bv] W fun e w' => ∃ ar cr am cm, e = .returned (.tuple #[.agg #[.slice ar 8 cr, .int .i64 1, .int .i64 0], .slice am 2 cm, .int .i64 0]) ∧ IntsFrom W.heap.size w' (.slice ar 8 cr) (regs.set 7 (mem.getD 1 0)) ∧ IntsFrom W.heap.size w' (.slice am 2 cm) (mem.set 1 1) ∧ Below W.heap.size W w' := by
  have h := IS v av bv ⟨regs, 0, 0⟩ [2650800129] mem W ⟨hx⟩ ⟨by simp [h8]⟩ ha (by simp) hb (by omega)
  rw [told_step regs mem h8 hr hm hp] at h
  refine h.mono ?_
  rintro e w' ⟨r, m, rfl, hor, hom, _, hbl⟩
  have h1 : IntsFrom W.heap.size w' r (regs.set 7 (mem.getD 1 0)) := IntsFrom.own hor.o0
  have h2 : IntsFrom W.heap.size w' m (mem.set 1 1) := IntsFrom.own hom.o0
  obtain ⟨ar, nr, cr, rfl⟩ := slice_of h1.at
  obtain ⟨am, nm, cm, rfl⟩ := slice_of h2.at
  have e1 : nr = 8 := by rw [slice_len h1.at, List.length_set, h8]
  have e2 : nm = 2 := by rw [slice_len h2.at, List.length_set, hm]
  subst e1 e2
  exact ⟨ar, cr, am, cm, rfl, h1, h2, hbl⟩
/-- How things stand behind the first step. -/
structure ToldZ (G : Nat) (ar : Option Addr) (cr : Nat) (am : Option Addr) (cm : Nat) (p0 : Int) (Y z : World) : Prop where
  bO : Box z G #[.slice ar 8 cr, .int .i64 1, .int .i64 0] 26
  row : IntsAt z (.slice ar 8 cr) ((List.replicate 8 0).set 7 p0)
  mem : IntsAt z (.slice am 2 cm) [5, 1]
  bel : Below Y.heap.size Y z
theorem ToldZ.put {G B : Nat} {ar : Option Addr} {cr : Nat} {am : Option Addr} {cm : Nat} {p0 : Int} {Y z : World} {u v d : Value} (bx : Box z G #[u, v, d] 26) (hr : IntsFrom B z (.slice ar 8 cr) ((List.replicate 8 0).set 7 p0)) (hm : IntsFrom B z (.slice am 2 cm) [5, 1]) (hy : Below Y.heap.size Y z) (hg : Y.heap.size ≤ G ∧ G < B) :
    ToldZ G ar cr am cm p0 Y (((z.setCell ⟨G, 0, none⟩ (.slice ar 8 cr)).setCell ⟨G, 1, none⟩ (.int .i64 1)).setCell ⟨G, 2, none⟩ (.int .i64 0)) := by
  obtain ⟨W, e, hB, hk, hf⟩ := put3 bx (.slice ar 8 cr) (.int .i64 1) (.int .i64 0)
  rw [e]
  exact ⟨hB, (hr.far hf hg.2).at, (hm.far hf hg.2).at, hy.trans (hk.mono hg.1)⟩

set_option maxRecDepth 100000 in
set_option maxHeartbeats 16000000 in
theorem lawCoresTold (IS : ImpStepCore) (IN : ImpCoreNew) (IO : ImpCoreOk) (IT : ImpTouchOf) (w : World) (v : Value) (n : Nat) (H : CodeAt w w.heap.size v n) :
    Calls Try.prog 4 #[v] w fun e w' => e = .returned (.bool true) ∧ Below w.heap.size w w' := by
  have HIS := hide IS
  have HIN := hide IN
  have HIO := hide IO
  have HIT := hide IT
  clear IS IN IO IT
  obtain ⟨ao, c9, rfl⟩ := H.slice
  have BG := fun z => hide (big_any z ao n c9)
  by_cases hn : n ≤ 1048576
  case neg =>
    have eb : decide (1048576 < n) = true := decide_eq_true (by omega)
    simp only [eb] at BG
    clear eb
    go_enter Try.func4, Try.ntmps4
    go_wp2_with (go_at_call 5; refine (unhide (BG _)).mono ?_; rintro e z ⟨rfl, rfl⟩)
    go_ret
    exact ⟨rfl, Below.refl _ _⟩
  have eb : decide (1048576 < n) = false := decide_eq_false (by omega)
  simp only [eb] at BG
  clear eb
  have HC : Hid (∀ z, Below w.heap.size w z → CodeAt z w.heap.size (.slice ao n c9) n) := hide fun z h => H.below h
  have HD := hide (drawCoreOk_any w w.heap.size _ n hn H (Nat.le_refl _))
  clear H
  go_enter Try.func4, Try.ntmps4
  go_wp2_with (first | (go_at_call 5; refine (unhide (BG _)).mono ?_; rintro e z ⟨rfl, rfl⟩) | fail)
  refine (unhide HD).mono ?_
  rintro e z1 ⟨rv, x, rfl, hx, hx8, hb⟩
  have hX : CoAt z1 rv x := ⟨hx.at⟩
  obtain ⟨a0, n0, c0, rfl⟩ := slice_of hx.at
  have hal : Below z1.heap.size z1 (z1.alloc (.cells #[.slice a0 n0 c0, .int .i64 x.pc, .int .i64 x.process] 26)) := (Below.refl _ _).alloc (Nat.le_refl _) _
  have X1 := hide (CbZ.made hX)
  have B1 := hide (hb.trans (hal.mono hb.size))
  obtain ⟨Y1, hY⟩ : ∃ Z, z1.alloc (.cells #[.slice a0 n0 c0, .int .i64 x.pc, .int .i64 x.process] 26) = Z := ⟨_, rfl⟩
  obtain ⟨G1, hG⟩ : ∃ G, z1.heap.size = G := ⟨_, rfl⟩
  have HY := hide hY
  have HG := hide hG
  rw [hY] at X1 B1
  rw [hG] at X1
  clear hY hG hal hX hx hb BG HD
  go_upto_region 4 with fail
  rw [HY.out, HG.out]
  clear HY HG
  go_wp2_with fail
  refine (drawTouch_any _ _ _ n hn (HC.out _ B1.out) B1.out.size).mono ?_
  rintro e z2 ⟨tv, text, pc, rfl, ht, ht8, hb⟩
  have hb' := hb
  have T2 := hide ht.at
  obtain ⟨at_, nt, ct, rfl⟩ := slice_of ht.at
  have X2 := hide (X1.out.stays hb)
  have B2 := hide (B1.out.trans (hb.mono B1.out.size))
  clear ht hb hb' X1 B1
  go_wp2_with fail
  refine (specEncode_any 9 7 0 1 _).mono ?_
  rintro e z3 ⟨rfl, hb⟩
  have X3 := hide (X2.out.stays hb)
  have T3 := hide (T2.out.stays hb)
  have B3 := hide (B2.out.trans (hb.mono B2.out.size))
  clear hb X2 T2 B2
  rw [told_word, if_pos rfl, show encI 9 7 0 1 = 2650800129 by decide]
  go_wp2_with fail
  refine (places_any _ _ _ n hn (HC.out _ B3.out) B3.out.size).mono ?_
  rintro e z4 ⟨pv, ps, rfl, hp12, hps, hown, hb⟩
  obtain ⟨p0, hp0⟩ : ∃ p0 : Int, (ps.map fun x : Nat => (x : Int)).getD 0 0 = p0 := ⟨_, rfl⟩
  have hown' : z4.ownsRow (z3.heap.size + 1) 3 1 pv 12 ((ps.map fun x : Nat => (x : Int)).map I64) := by
    rw [List.map_map]
    exact hown
  have hv0 : vok p0 = true := by
    rw [vok_iff, ← hp0, List.getD_eq_getElem?_getD]
    cases hc : (ps.map fun x : Nat => (x : Int))[0]? with
    | none => simp
    | some y =>
      have hm := List.mem_of_getElem? hc
      rw [List.mem_map] at hm
      obtain ⟨t, ht, rfl⟩ := hm
      have := hps t ht
      simp
      omega
  obtain ⟨qp, cp, rfl, _⟩ := own_form hown' (by decide)
  have hbp := (own_cell hown' (i := 0) (by omega)).1
  rw [hp0] at hbp
  have hbl : qp < z4.heap.size := (hown'.lt qp rfl).2
  have P4 := hide (And.intro hbl hbp)
  have X4 := hide (X3.out.stays hb)
  have T4 := hide (T3.out.stays hb)
  have B4 := hide (B3.out.trans (hb.mono B3.out.size))
  clear hb X3 T3 B3 hown hps hp12 hp0 hown' hbl hbp
  go_wp2_with fail
  refine (HIN.out _).mono ?_
  rintro e z5 ⟨r0, rfl, hor, hb⟩
  obtain ⟨q, cq, rfl, hq⟩ := own_form hor.o0 (by decide)
  have e8 : coreNewE.regs.length = 8 := rfl
  have ep : coreNewE.pc = 0 := rfl
  have er : coreNewE.process = -1 := rfl
  have hR : IntsAt z5 (.slice (some ⟨q, 0, none⟩) 8 cq) (List.replicate 8 0) := hor.at.a0
  have hal : Below z5.heap.size z5 ((z5.alloc (.cells #[.slice (some ⟨q, 0, none⟩) 8 cq, .int .i64 0, .int .i64 (-1)] 26)).setCell ⟨z5.heap.size, 2, none⟩ (.int .i64 0)) := ((Below.refl _ _).alloc (Nat.le_refl _) _).setCell (p := ⟨z5.heap.size, 2, none⟩) (Nat.le_refl _) _
  have hb2 := hb.trans (hal.mono hb.size)
  have X5 := hide (X4.out.stays hb2)
  have T5 := hide (T4.out.stays hb2)
  have B5 := hide (B4.out.trans (hb2.mono B4.out.size))
  have P5 := hide (And.intro (Nat.lt_of_lt_of_le P4.out.1 hb2.size) ((hb2.cell (p := ⟨qp, 0, none⟩) P4.out.1).trans P4.out.2))
  have o4 := Box.made z5 #[.slice (some ⟨q, 0, none⟩) 8 cq, .int .i64 0, .int .i64 (-1)] 26
  have O5 := hide (o4.set 2 (.int .i64 0))
  have s2 : (z5.alloc (.cells #[.slice (some ⟨q, 0, none⟩) 8 cq, .int .i64 0, .int .i64 (-1)] 26)).cell? ⟨z5.heap.size, 2, none⟩ = some (.int .i64 (-1)) := Lib.cell_of_heap o4 2
  have f2 : (z5.alloc (.cells #[.slice (some ⟨q, 0, none⟩) 8 cq, .int .i64 0, .int .i64 (-1)] 26)).frozen? ⟨z5.heap.size, 2, none⟩ = false := Lib.frozen_of_heap o4 2
  have R5 := hide (hR.stays hal)
  obtain ⟨Y5, hY⟩ : ∃ Z, (z5.alloc (.cells #[.slice (some ⟨q, 0, none⟩) 8 cq, .int .i64 0, .int .i64 (-1)] 26)).setCell ⟨z5.heap.size, 2, none⟩ (.int .i64 0) = Z := ⟨_, rfl⟩
  obtain ⟨G5, hG⟩ : ∃ G, z5.heap.size = G := ⟨_, rfl⟩
  have HY := hide hY
  have HG := hide hG
  rw [hY] at X5 T5 B5 P5 O5 R5
  rw [hG] at O5 HY s2 f2
  clear hY hG hal hb2 hb hor hR o4 X4 T4 B4 P4 HIN hq
  go_upto_region 8 with fail
  rw [HG.out]
  go_upto_region 9 with fail
  rw [HY.out]
  clear HY HG s2 f2
  have KB : Hid (∀ z, Below Y5.heap.size Y5 z → CbZ G1 (.slice a0 n0 c0) x z ∧ IntsAt z (.slice at_ nt ct) text ∧ CbZ G5 (.slice (some ⟨q, 0, none⟩) 8 cq) ⟨List.replicate 8 0, 0, 0⟩ z ∧ z.cell? ⟨qp, 0, none⟩ = some (.int .i64 p0) ∧ Below w.heap.size w z) := hide fun z h =>
    ⟨X5.out.stays h, T5.out.stays h, ⟨O5.out.stays h, ⟨R5.out.stays h⟩⟩, (h.cell (p := ⟨qp, 0, none⟩) P5.out.1).trans P5.out.2, B5.out.trans (h.mono B5.out.size)⟩
  clear X5 T5 O5 R5 P5 B5
  have cH : Hid (∀ z, Below Y5.heap.size Y5 z → z.cell? ⟨G5, 0, none⟩ = some (.slice (some ⟨q, 0, none⟩) 8 cq) ∧ z.cell? ⟨G5, 1, none⟩ = some (.int .i64 0) ∧ z.cell? ⟨G5, 2, none⟩ = some (.int .i64 0) ∧ z.cell? ⟨qp, 0, none⟩ = some (.int .i64 p0)) := hide fun z h =>
    ⟨Lib.cell_of_heap (KB.out z h).2.2.1.bO 0, Lib.cell_of_heap (KB.out z h).2.2.1.bO 1, Lib.cell_of_heap (KB.out z h).2.2.1.bO 2, (KB.out z h).2.2.2.1⟩
  obtain ⟨y0, y1, y2, yp⟩ := cH.out Y5 (Below.refl _ _)
  have TC := told_call HIS.out
  have HTC := hide TC
  clear TC
  have R8 : Hid ((List.replicate 8 (0 : Int)).length = 8 ∧ (List.replicate 8 (0 : Int)).all vok = true ∧ ([5, p0] : List Int).length = 2 ∧ vok (([5, p0] : List Int).getD 1 0) = true) := hide ⟨by simp, by decide, rfl, hv0⟩
  have sz1 : ∀ o, (Y5.alloc o).heap.size = Y5.heap.size + 1 := fun o => by simp
  have sz2 : ∀ o o', ((Y5.alloc o).alloc o').heap.size = Y5.heap.size + 1 + 1 := fun o o' => by simp
  have a1 : Hid (∀ o, IntsAt ((Y5.alloc (.cells #[.int .i64 2650800129] 3)).alloc o).drew (.slice (some ⟨Y5.heap.size, 0, none⟩) 1 1) [2650800129]) := hide fun o => (ints_one Y5 2650800129).stays (((Below.refl _ _).alloc (Nat.le_refl _) o).drew)
  have a2 : Hid (∀ o o', IntsAt (((Y5.alloc (.cells #[.int .i64 2650800129] 3)).alloc o).alloc o').drew (.slice (some ⟨Y5.heap.size, 0, none⟩) 1 1) [2650800129]) := hide fun o o' => (ints_one Y5 2650800129).stays ((((Below.refl _ _).alloc (Nat.le_refl _) o).alloc (by simp) o').drew)
  have a3 : Hid (∀ o, IntsAt ((Y5.alloc o).alloc (.cells #[.int .i64 2650800129] 3)).drew (.slice (some ⟨Y5.heap.size + 1, 0, none⟩) 1 1) [2650800129]) := hide fun o => by have := (ints_one (Y5.alloc o) 2650800129).stays (Below.refl _ _).drew; rw [sz1] at this; exact this
  have a4 : Hid (∀ o o', IntsAt (((Y5.alloc o).alloc (.cells #[.int .i64 2650800129] 3)).alloc o').drew (.slice (some ⟨Y5.heap.size + 1, 0, none⟩) 1 1) [2650800129]) := hide fun o o' => by have := (ints_one (Y5.alloc o) 2650800129).stays (((Below.refl _ _).alloc (Nat.le_refl _) o').drew); rw [sz1] at this; exact this
  have a5 : Hid (∀ o o', IntsAt (((Y5.alloc o).alloc o').alloc (.cells #[.int .i64 2650800129] 3)).drew (.slice (some ⟨Y5.heap.size + 1 + 1, 0, none⟩) 1 1) [2650800129]) := hide fun o o' => by have := (ints_one ((Y5.alloc o).alloc o') 2650800129).stays (Below.refl _ _).drew; rw [sz2] at this; exact this
  have b1 : Hid (∀ o, IntsAt ((Y5.alloc (.cells #[.int .i64 5, .int .i64 p0] 3)).alloc o).drew (.slice (some ⟨Y5.heap.size, 0, none⟩) 2 2) [5, p0]) := hide fun o => (ints_two Y5 5 p0).stays (((Below.refl _ _).alloc (Nat.le_refl _) o).drew)
  have b2 : Hid (∀ o o', IntsAt (((Y5.alloc (.cells #[.int .i64 5, .int .i64 p0] 3)).alloc o).alloc o').drew (.slice (some ⟨Y5.heap.size, 0, none⟩) 2 2) [5, p0]) := hide fun o o' => (ints_two Y5 5 p0).stays ((((Below.refl _ _).alloc (Nat.le_refl _) o).alloc (by simp) o').drew)
  have b3 : Hid (∀ o, IntsAt ((Y5.alloc o).alloc (.cells #[.int .i64 5, .int .i64 p0] 3)).drew (.slice (some ⟨Y5.heap.size + 1, 0, none⟩) 2 2) [5, p0]) := hide fun o => by have := (ints_two (Y5.alloc o) 5 p0).stays (Below.refl _ _).drew; rw [sz1] at this; exact this
  have b4 : Hid (∀ o o', IntsAt (((Y5.alloc o).alloc (.cells #[.int .i64 5, .int .i64 p0] 3)).alloc o').drew (.slice (some ⟨Y5.heap.size + 1, 0, none⟩) 2 2) [5, p0]) := hide fun o o' => by have := (ints_two (Y5.alloc o) 5 p0).stays (((Below.refl _ _).alloc (Nat.le_refl _) o').drew); rw [sz1] at this; exact this
  have b5 : Hid (∀ o o', IntsAt (((Y5.alloc o).alloc o').alloc (.cells #[.int .i64 5, .int .i64 p0] 3)).drew (.slice (some ⟨Y5.heap.size + 1 + 1, 0, none⟩) 2 2) [5, p0]) := hide fun o o' => by have := (ints_two ((Y5.alloc o).alloc o') 5 p0).stays (Below.refl _ _).drew; rw [sz2] at this; exact this
  have x1 : Hid (∀ o o' (z : World), Below ((((Y5.alloc (.cells #[.slice none 0 0, .int .i64 0, .int .i64 0] 26)).alloc o).alloc o').drew).heap.size ((((Y5.alloc (.cells #[.slice none 0 0, .int .i64 0, .int .i64 0] 26)).alloc o).alloc o').drew) z → Box z (Y5.heap.size) #[.slice none 0 0, .int .i64 0, .int .i64 0] 26 ∧ (Y5.heap.size ≤ Y5.heap.size ∧ Y5.heap.size < ((((Y5.alloc (.cells #[.slice none 0 0, .int .i64 0, .int .i64 0] 26)).alloc o).alloc o').drew).heap.size)) := hide fun o o' z h => ⟨((Box.made Y5 _ _).stays ((((Below.refl _ _).alloc (Nat.le_refl _) o).alloc (by simp) o').drew)).stays h, by simp <;> omega⟩
  have x2 : Hid (∀ o o' (z : World), Below ((((Y5.alloc o).alloc (.cells #[.slice none 0 0, .int .i64 0, .int .i64 0] 26)).alloc o').drew).heap.size ((((Y5.alloc o).alloc (.cells #[.slice none 0 0, .int .i64 0, .int .i64 0] 26)).alloc o').drew) z → Box z (Y5.heap.size + 1) #[.slice none 0 0, .int .i64 0, .int .i64 0] 26 ∧ (Y5.heap.size ≤ Y5.heap.size + 1 ∧ Y5.heap.size + 1 < ((((Y5.alloc o).alloc (.cells #[.slice none 0 0, .int .i64 0, .int .i64 0] 26)).alloc o').drew).heap.size)) := hide fun o o' z h => ⟨(show Box ((((Y5.alloc o).alloc (.cells #[.slice none 0 0, .int .i64 0, .int .i64 0] 26)).alloc o').drew) (Y5.heap.size + 1) #[.slice none 0 0, .int .i64 0, .int .i64 0] 26 by have := (Box.made (Y5.alloc o) #[.slice none 0 0, .int .i64 0, .int .i64 0] 26).stays (((Below.refl _ _).alloc (Nat.le_refl _) o').drew); rw [sz1] at this; exact this).stays h, by simp <;> omega⟩
  have x3 : Hid (∀ o o' (z : World), Below ((((Y5.alloc o).alloc o').alloc (.cells #[.slice none 0 0, .int .i64 0, .int .i64 0] 26)).drew).heap.size ((((Y5.alloc o).alloc o').alloc (.cells #[.slice none 0 0, .int .i64 0, .int .i64 0] 26)).drew) z → Box z (Y5.heap.size + 1 + 1) #[.slice none 0 0, .int .i64 0, .int .i64 0] 26 ∧ (Y5.heap.size ≤ Y5.heap.size + 1 + 1 ∧ Y5.heap.size + 1 + 1 < ((((Y5.alloc o).alloc o').alloc (.cells #[.slice none 0 0, .int .i64 0, .int .i64 0] 26)).drew).heap.size)) := hide fun o o' z h => ⟨(show Box ((((Y5.alloc o).alloc o').alloc (.cells #[.slice none 0 0, .int .i64 0, .int .i64 0] 26)).drew) (Y5.heap.size + 1 + 1) #[.slice none 0 0, .int .i64 0, .int .i64 0] 26 by have := (Box.made ((Y5.alloc o).alloc o') #[.slice none 0 0, .int .i64 0, .int .i64 0] 26).stays (Below.refl _ _).drew; rw [sz2] at this; exact this).stays h, by simp <;> omega⟩
  have HG : Hid (∀ (W : World) (g1 g2 : Nat), Below Y5.heap.size Y5 W → IntsAt W (.slice (some ⟨g1, 0, none⟩) 1 1) [2650800129] → IntsAt W (.slice (some ⟨g2, 0, none⟩) 2 2) [5, p0] → Calls Try.prog 7 #[.agg #[.slice (some ⟨q, 0, none⟩) 8 cq, .int .i64 0, .int .i64 0], .slice (some ⟨g1, 0, none⟩) 1 1, .slice (some ⟨g2, 0, none⟩) 2 2] W fun e w' => ∃ ar cr am cm, e = .returned (.tuple #[.agg #[.slice ar 8 cr, .int .i64 1, .int .i64 0], .slice am 2 cm, .int .i64 0]) ∧ IntsFrom W.heap.size w' (.slice ar 8 cr) ((List.replicate 8 0).set 7 p0) ∧ IntsFrom W.heap.size w' (.slice am 2 cm) [5, 1] ∧ Below W.heap.size W w' ∧ Below Y5.heap.size Y5 w') := hide fun W g1 g2 h h1 h2 =>
    (HTC.out (.slice (some ⟨q, 0, none⟩) 8 cq) _ _ (List.replicate 8 0) [5, p0] W R8.out.1 R8.out.2.1 R8.out.2.2.1 R8.out.2.2.2 (KB.out _ h).2.2.1.row.a0 h1 h2).mono fun e w' ⟨ar, cr, am, cm, he, hr, hm, hb⟩ => ⟨ar, cr, am, cm, he, hr, hm, hb, h.trans (hb.mono h.size)⟩
  have TZ : Hid (∀ (z : World) ar cr am cm, IntsAt z (.slice ar 8 cr) ((List.replicate 8 0).set 7 p0) → IntsAt z (.slice am 2 cm) [5, 1] → Below Y5.heap.size Y5 z → ToldZ z.heap.size ar cr am cm p0 Y5 (z.alloc (.cells #[.slice ar 8 cr, .int .i64 1, .int .i64 0] 26))) := hide fun z ar cr am cm h1 h2 h3 => ⟨Box.made _ _ _, h1.stays ((Below.refl _ _).alloc (Nat.le_refl _) _), h2.stays ((Below.refl _ _).alloc (Nat.le_refl _) _), h3.alloc h3.size _⟩
  go_cut [10, 11, 12] from 34 to 45 (fun s10 s11 s12 z => ∃ G ar cr am cm, s10 = .pointer (some ⟨G, 0, none⟩) ∧ s11 = .slice am 2 cm ∧ s12 = .int .i64 0 ∧ Hid (ToldZ G ar cr am cm p0 Y5 z))
  case first =>
    have KC : Hid (∀ z : World, Below Y5.heap.size Y5 z → (z.cell? ⟨G5, 0, none⟩ = some (.slice (some ⟨q, 0, none⟩) 8 cq) ∧ z.cell? ⟨G5, 1, none⟩ = some (.int .i64 0) ∧ z.cell? ⟨G5, 2, none⟩ = some (.int .i64 0) ∧ z.cell? ⟨qp, 0, none⟩ = some (.int .i64 p0) ∧ Hid (Below Y5.heap.size Y5 z))) := hide fun z h => ⟨(cH.out z h).1, (cH.out z h).2.1, (cH.out z h).2.2.1, (cH.out z h).2.2.2, h⟩
    have KV : Hid (∀ z : World, (z.cell? ⟨G5, 0, none⟩ = some (.slice (some ⟨q, 0, none⟩) 8 cq) ∧ z.cell? ⟨G5, 1, none⟩ = some (.int .i64 0) ∧ z.cell? ⟨G5, 2, none⟩ = some (.int .i64 0) ∧ z.cell? ⟨qp, 0, none⟩ = some (.int .i64 p0) ∧ Hid (Below Y5.heap.size Y5 z)) → Below Y5.heap.size Y5 z) := hide fun z h => h.2.2.2.2.out
    have KA : Hid (∀ (z : World) (o : Obj), (z.cell? ⟨G5, 0, none⟩ = some (.slice (some ⟨q, 0, none⟩) 8 cq) ∧ z.cell? ⟨G5, 1, none⟩ = some (.int .i64 0) ∧ z.cell? ⟨G5, 2, none⟩ = some (.int .i64 0) ∧ z.cell? ⟨qp, 0, none⟩ = some (.int .i64 p0) ∧ Hid (Below Y5.heap.size Y5 z)) → ((z.alloc o).cell? ⟨G5, 0, none⟩ = some (.slice (some ⟨q, 0, none⟩) 8 cq) ∧ (z.alloc o).cell? ⟨G5, 1, none⟩ = some (.int .i64 0) ∧ (z.alloc o).cell? ⟨G5, 2, none⟩ = some (.int .i64 0) ∧ (z.alloc o).cell? ⟨qp, 0, none⟩ = some (.int .i64 p0) ∧ Hid (Below Y5.heap.size Y5 (z.alloc o)))) := hide fun z o h => KC.out _ ((KV.out _ h).alloc (KV.out _ h).size _)
    have K0 := hide (KC.out _ (Below.refl _ _).drew)
    clear y0 y1 y2 yp
    go_region_held3 (fun z => z.cell? ⟨G5, 0, none⟩ = some (.slice (some ⟨q, 0, none⟩) 8 cq) ∧ z.cell? ⟨G5, 1, none⟩ = some (.int .i64 0) ∧ z.cell? ⟨G5, 2, none⟩ = some (.int .i64 0) ∧ z.cell? ⟨qp, 0, none⟩ = some (.int .i64 p0) ∧ Hid (Below Y5.heap.size Y5 z)) (first | with_reducible exact K0.out | exact KA.out _ _ (by assumption) | with_reducible exact KC.out _ HY6.out | with_reducible exact KC.out _ (HY6.out.alloc HY6.out.size _) | with_reducible exact KC.out _ FZ.out.bel)
      ((go_at_call 7; have PB := hide (KV.out _ (by assumption)); refine (HG.out _ _ _ PB.out (by with_reducible first | exact a1.out _ | exact a2.out _ _ | exact a3.out _ | exact a4.out _ _ | exact a5.out _ _) (by with_reducible first | exact b1.out _ | exact b2.out _ _ | exact b3.out _ | exact b4.out _ _ | exact b5.out _ _)).mono ?_; rintro e z6 ⟨ar, cr, am, cm, rfl, hr6, hm6, hb6, hy6⟩; have HR6 := hide hr6; have HM6 := hide hm6; have HY6 := hide hy6; (first | (with_reducible have bx := x1.out _ _ _ hb6) | (with_reducible have bx := x2.out _ _ _ hb6) | (with_reducible have bx := x3.out _ _ _ hb6) | skip); (first | (have t0 := Lib.cell_of_heap bx.1 0; have t1 := Lib.cell_of_heap bx.1 1; have t2 := Lib.cell_of_heap bx.1 2; simp at t0 t1 t2; have f0 := Lib.frozen_of_heap bx.1 0; have f1 := Lib.frozen_of_heap bx.1 1; have f2 := Lib.frozen_of_heap bx.1 2; have FZ := hide (ToldZ.put bx.1 hr6 hm6 hy6 bx.2); clear bx) | skip); clear hr6 hm6 hb6 hy6))
    all_goals (go_wp2_with fail; go_meet)
    all_goals first
      | exact ⟨_, _, _, _, _, rfl, rfl, rfl, FZ⟩
      | exact ⟨_, _, _, _, _, rfl, rfl, rfl, hide (TZ.out z6 ar cr am cm HR6.out.at HM6.out.at HY6.out)⟩
  case rest =>
    obtain ⟨G, ar, cr, am, cm, rfl, rfl, rfl, Z6⟩ := hcut
    clear a1 a2 a3 a4 a5 b1 b2 b3 b4 b5 x1 x2 x3 y0 y1 y2 yp sz1 sz2 HG TZ
    have g0 := Lib.cell_of_heap Z6.out.bO 0
    simp at g0
    have hl6 : Below wc.heap.size wc (wc.alloc (.cells #[.int .i64 2650800129] 3)) := (Below.refl _ _).alloc (Nat.le_refl _) _
    have V0 : vok p0 = true := hv0
    have CC := hide (HTC.out (.slice ar 8 cr) _ (.slice am 2 cm) ((List.replicate 8 0).set 7 p0) [5, 1] _ (by simp) (all_set _ _ _ R8.out.2.1 V0) rfl (by decide) (Z6.out.row.stays hl6) (ints_one wc 2650800129) (Z6.out.mem.stays hl6))
    have HL6 := hide hl6
    clear hl6 HTC
    go_wp2_with fail
    refine (unhide CC).mono ?_
    rintro e z7 ⟨br, bc, km, kc, rfl, hr7, hm7, hb7⟩
    have hal : Below z7.heap.size z7 (z7.alloc (.cells #[.slice br 8 bc, .int .i64 1, .int .i64 0] 26)) := (Below.refl _ _).alloc (Nat.le_refl _) _
    have hb8 := (HL6.out.trans (hb7.mono HL6.out.size)).trans (hal.mono (HL6.out.trans (hb7.mono HL6.out.size)).size)
    have R7 := hide (hr7.at.stays hal)
    have M7 := hide (hm7.at.stays hal)
    have O7 := hide (Box.made z7 #[.slice br 8 bc, .int .i64 1, .int .i64 0] 26)
    have O6 := hide (Z6.out.bO.stays hb8)
    have R6 := hide (Z6.out.row.stays hb8)
    have M6 := hide (Z6.out.mem.stays hb8)
    have B8 := hide (Z6.out.bel.trans (hb8.mono Z6.out.bel.size))
    obtain ⟨Y8, hY⟩ : ∃ Z, z7.alloc (.cells #[.slice br 8 bc, .int .i64 1, .int .i64 0] 26) = Z := ⟨_, rfl⟩
    obtain ⟨G7, hG⟩ : ∃ G, z7.heap.size = G := ⟨_, rfl⟩
    have HY := hide hY
    have HG := hide hG
    rw [hY] at R7 M7 O7 O6 R6 M6 B8
    rw [hG] at O7
    clear hY hG hal hb8 hb7 hr7 hm7 CC HL6 Z6 g0
    go_upto_region 11 with fail
    rw [HY.out, HG.out]
    clear HY HG
    obtain ⟨e1, rfl, p1⟩ := row_at R6.out 7 (by omega)
    obtain ⟨e2, rfl, p2⟩ := row_at M6.out 0 (by omega)
    obtain ⟨e3, he3, p3⟩ := row_at M6.out 1 (by omega)
    cases he3
    obtain ⟨e4, rfl, p4⟩ := row_at R7.out 7 (by omega)
    obtain ⟨e5, rfl, p5⟩ := row_at M7.out 1 (by omega)
    have n1 : ((List.replicate 8 (0 : Int)).set 7 p0).getD 7 0 = p0 := rfl
    have n4 : (((List.replicate 8 (0 : Int)).set 7 p0).set 7 (([5, 1] : List Int).getD 1 0)).getD 7 0 = 1 := rfl
    have n5 : (([5, 1] : List Int).set 1 1).getD 1 0 = 1 := rfl
    rw [n1] at p1
    rw [n4] at p4
    rw [n5] at p5
    clear n1 n4 n5
    obtain ⟨Sc, eSc⟩ : ∃ Sc : World → Prop, ∀ z, Sc z ↔ Below Y8.heap.size Y8 z := ⟨_, fun _ => Iff.rfl⟩
    have HSC := hide eSc
    have KP : Hid (∀ z z', Sc z → Below z.heap.size z z' → Sc z') := fun z z' hz hb => (HSC.out z').2 (((HSC.out z).1 hz).trans (hb.mono ((HSC.out z).1 hz).size))
    have K0 : Hid (Sc Y8.drew) := (HSC.out _).2 (Below.refl _ _).drew
    have hne : Nonempty (InC Sc) := ⟨⟨_, K0.out⟩⟩
    have lt : ∀ (a : Addr) (k : Nat) (v : Value), Y8.cell? (a.add k) = some v → (a.add k).block < Y8.heap.size := fun a k v h => by
      rcases Nat.lt_or_ge (a.add k).block Y8.heap.size with h1 | h1
      · exact h1
      · rw [World.cell?, Array.getElem?_eq_none h1] at h; simp at h
    have HB1 := hide fun s : InC Sc => (HSC.out _).1 s.h
    have HKB := hide fun s : InC Sc => KB.out _ (B8.out.trans ((HB1.out s).mono B8.out.size))
    have u1 : ∀ s : InC Sc, s.z.cell? ⟨e1.block, e1.off + 7, none⟩ = some (.int .i64 p0) := fun s => ((HB1.out s).cell (lt _ _ _ p1)).trans p1
    have u2 : ∀ s : InC Sc, s.z.cell? e2 = some (.int .i64 5) := fun s => ((HB1.out s).cell (lt _ _ _ p2)).trans p2
    have u3 : ∀ s : InC Sc, s.z.cell? ⟨e2.block, e2.off + 1, none⟩ = some (.int .i64 1) := fun s => ((HB1.out s).cell (lt _ _ _ p3)).trans p3
    have u4 : ∀ s : InC Sc, s.z.cell? ⟨e4.block, e4.off + 7, none⟩ = some (.int .i64 1) := fun s => ((HB1.out s).cell (lt _ _ _ p4)).trans p4
    have u5 : ∀ s : InC Sc, s.z.cell? ⟨e5.block, e5.off + 1, none⟩ = some (.int .i64 1) := fun s => ((HB1.out s).cell (lt _ _ _ p5)).trans p5
    have t0 : ∀ s : InC Sc, s.z.cell? ⟨G1, 0, none⟩ = some (.slice a0 n0 c0) := fun s => Lib.cell_of_heap (HKB.out s).1.bO 0
    have t1 : ∀ s : InC Sc, s.z.cell? ⟨G1, 1, none⟩ = some (.int .i64 x.pc) := fun s => Lib.cell_of_heap (HKB.out s).1.bO 1
    have t2 : ∀ s : InC Sc, s.z.cell? ⟨G1, 2, none⟩ = some (.int .i64 x.process) := fun s => Lib.cell_of_heap (HKB.out s).1.bO 2
    have t3 : ∀ s : InC Sc, s.z.cell? ⟨G5, 0, none⟩ = some (.slice (some ⟨q, 0, none⟩) 8 cq) := fun s => Lib.cell_of_heap (HKB.out s).2.2.1.bO 0
    have t4 : ∀ s : InC Sc, s.z.cell? ⟨G5, 1, none⟩ = some (.int .i64 0) := fun s => Lib.cell_of_heap (HKB.out s).2.2.1.bO 1
    have t5 : ∀ s : InC Sc, s.z.cell? ⟨G5, 2, none⟩ = some (.int .i64 0) := fun s => Lib.cell_of_heap (HKB.out s).2.2.1.bO 2
    have t6 : ∀ s : InC Sc, s.z.cell? ⟨qp, 0, none⟩ = some (.int .i64 p0) := fun s => (HKB.out s).2.2.2.1
    have t7 : ∀ s : InC Sc, s.z.cell? ⟨G, 0, none⟩ = some (.slice (some e1) 8 cr) := fun s => Lib.cell_of_heap (O6.out.stays (HB1.out s)) 0
    have t8 : ∀ s : InC Sc, s.z.cell? ⟨G7, 0, none⟩ = some (.slice (some e4) 8 bc) := fun s => Lib.cell_of_heap (O7.out.stays (HB1.out s)) 0
    clear lt p1 p2 p3 p4 p5 eSc cH
    have C1 := fun s : InC Sc => hide (calls_class s (fun w' hb => KP.out _ _ s.h hb) (HIO.out (.slice a0 n0 c0) x s.z (HKB.out s).1.row ⟨by omega⟩))
    have C2 := fun s : InC Sc => hide (calls_class s (fun w' hb => KP.out _ _ s.h hb) (specCoreOk_any (.slice a0 n0 c0) x s.z (HKB.out s).1.row ⟨by omega⟩))
    have C3 := fun s : InC Sc => hide (calls_class s (fun w' hb => KP.out _ _ s.h hb) (HIT.out (.slice at_ nt ct) text pc s.z (HKB.out s).2.1 (by omega)))
    have C4 := fun s : InC Sc => hide (calls_class s (fun w' hb => KP.out _ _ s.h hb) (specTouchOf_any (.slice at_ nt ct) text pc s.z (HKB.out s).2.1 (by omega)))
    have C5 := fun s : InC Sc => hide (calls_class s (fun w' hb => KP.out _ _ s.h hb) (HIO.out (.slice (some ⟨q, 0, none⟩) 8 cq) ⟨List.replicate 8 0, 0, 0⟩ s.z (HKB.out s).2.2.1.row ⟨by simp⟩))
    have e9 : coreOkB ⟨List.replicate 8 0, 0, 0⟩ = true := by decide
    simp only [e9] at C5
    obtain ⟨B1, eB1⟩ : ∃ B, coreOkB x = B := ⟨_, rfl⟩
    obtain ⟨T1, eT1⟩ : ∃ B, touchE text pc = B := ⟨_, rfl⟩
    simp only [eB1] at C1 C2
    simp only [eT1] at C3 C4
    clear e9 eB1 eT1 HIO HIT R6 M6 R7 M7 O6 O7 R8 HIS
    refine wp_region_class Sc (by kernel_rfl) (by kernel_rfl) K0.out ?_
    repeat (go_big_quiet_step ((first
      | (go_at_call 17; first | (with_reducible exact unhide (C1 _)) | (with_reducible exact unhide (C5 _)))
      | (go_at_call 18; with_reducible exact unhide (C2 _))
      | (go_at_call 19; with_reducible exact unhide (C3 _))
      | (go_at_call 20; with_reducible exact unhide (C4 _)))))
    refine wpQuiet_nil ?_
    intro s
    have D := hide (HKB.out s).2.2.2.2
    obtain ⟨z, hz⟩ := s
    dsimp only at D ⊢
    clear u1 u2 u3 u4 u5 t0 t1 t2 t3 t4 t5 t6 t7 t8
    go_wp2
    go_ret
    exact ⟨rfl, D.out⟩
end Go.Proofs.Ytmchgmpdhfefjaa
