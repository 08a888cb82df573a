/-
  Walk: a core, its text and its memory are drawn.
-/
import Derived.Test.YtmchgmpdhfefjaaCodeW
import Derived.Test.YtmchgmpdhfefjaaCurW
namespace Go.Proofs.Ytmchgmpdhfefjaa
open Go.RowKit

/-- A struct of three cells is written. -/
theorem put3 {z : World} {r T : Nat} {a b d : Value} (h : Box z r #[a, b, d] T) (u0 u1 u2 : Value) : ∃ W, (((z.setCell ⟨r, 0, none⟩ u0).setCell ⟨r, 1, none⟩ u1).setCell ⟨r, 2, none⟩ u2) = W ∧ Box W r #[u0, u1, u2] T ∧ Below r z W ∧ Far r z W := by
  have hk : Below r z (((z.setCell ⟨r, 0, none⟩ u0).setCell ⟨r, 1, none⟩ u1).setCell ⟨r, 2, none⟩ u2) :=
    (((Below.refl _ _).setCell (p := ⟨r, 0, none⟩) (Nat.le_refl _) _).setCell (p := ⟨r, 1, none⟩) (Nat.le_refl _) _).setCell (p := ⟨r, 2, none⟩) (Nat.le_refl _) _
  exact ⟨_, rfl, by simpa using ((h.set 0 u0).set 1 u1).set 2 u2, hk, hk.os, hk.tape, hk.output, hk.size, fun b hb _ => (Below.heap_setCell _ _ _ b hb).trans ((Below.heap_setCell _ _ _ b hb).trans (Below.heap_setCell _ _ _ b hb))⟩

/-- While all is drawn: the result's box, the core's; the cursor lies behind the result. -/
structure StZ (w : World) (base G : Nat) (rv : Value) (x : Co) (mv : Value) (mem : List Int) (z : World) : Prop where
  bR : ∃ a b d, Box z w.heap.size #[a, b, d] 26
  bO : Box z G #[rv, .int .i64 x.pc, .int .i64 x.process] 26
  row : IntsFrom (w.heap.size + 2) z rv x.regs
  mo : IntsFrom (w.heap.size + 2) z mv mem
  bel : Below w.heap.size w z
  cur : Cur z base (w.heap.size + 1)
  le : w.heap.size + 1 < G
theorem StZ.draws {w : World} {base G : Nat} {rv : Value} {x : Co} {mv : Value} {mem : List Int} {z z' : World} (h : StZ w base G rv x mv mem z) (hf : Far (w.heap.size + 1) z z') (hc : Cur z' base (w.heap.size + 1)) : StZ w base G rv x mv mem z' := by
  obtain ⟨a, b, d, hr⟩ := h.bR
  have := h.le
  exact ⟨⟨a, b, d, farBox hf hr (by omega)⟩, farBox hf h.bO (by omega), h.row.far hf (by omega), h.mo.far hf (by omega), h.bel.trans (hf.below (by omega) h.bel.size), hc, h.le⟩
theorem StZ.stays {w : World} {base G : Nat} {rv : Value} {x : Co} {mv : Value} {mem : List Int} {z z' : World} (h : StZ w base G rv x mv mem z) (hb : Below z.heap.size z z') : StZ w base G rv x mv mem z' :=
  h.draws (Far.ofBelow hb) (h.cur.below (hb.mono (by have := h.bO.lt; have := h.le; omega)))

theorem Cur.other {w w' : World} {base g r : Nat} (C : Cur w base g) (hf : Far r w w') (hr : g ≠ r) (hb : base ≤ r) (hs : base ≤ w.heap.size) : Cur w' base g := by
  obtain ⟨v, n, i, h, hn, hc, hd⟩ := C.at_
  have hk : w'.heap[g]? = w.heap[g]? := hf.far g hr C.lt
  have h1 : ∀ o, w'.cell? ⟨g, o, none⟩ = w.cell? ⟨g, o, none⟩ := fun o => World.cell?_of_block (a := ⟨g, o, none⟩) hk
  have h2 : ∀ o, w'.frozen? ⟨g, o, none⟩ = w.frozen? ⟨g, o, none⟩ := fun o => World.frozen?_of_block (a := ⟨g, o, none⟩) hk
  exact ⟨C.ge, Nat.lt_of_lt_of_le C.lt hf.size, v, n, i, h, hn, ⟨hc.le, by rw [h1]; exact hc.c0, by rw [h1]; exact hc.c1, by rw [h1]; exact hc.c2, by rw [h2]; exact hc.f1, by rw [h2]; exact hc.f2⟩, hd.below (hf.below hb hs)⟩
theorem StZ.put {w : World} {base G : Nat} {rv : Value} {x : Co} {mv : Value} {mem : List Int} {z : World} (h : StZ w base G rv x mv mem z) (hb : base ≤ w.heap.size) (u0 u1 u2 : Value) : StZ w base G rv x mv mem (((z.setCell ⟨w.heap.size, 0, none⟩ u0).setCell ⟨w.heap.size, 1, none⟩ u1).setCell ⟨w.heap.size, 2, none⟩ u2) := by
  obtain ⟨a, b, d, hr⟩ := h.bR
  obtain ⟨W, e, hB, hk, hf⟩ := put3 hr u0 u1 u2
  rw [e]
  have := h.le
  exact ⟨⟨_, _, _, hB⟩, farBox hf h.bO (by omega), h.row.far hf (by omega), h.mo.far hf (by omega), h.bel.trans hk, h.cur.other hf (by omega) hb (Nat.le_trans hb h.bel.size), h.le⟩

set_option maxRecDepth 100000 in
set_option maxHeartbeats 4000000 in
theorem drawStepCore_any (w : World) (base : Nat) (v : Value) (n : Nat) (hn : n ≤ 1048576) (H : CodeAt w base v n) (hb : base ≤ w.heap.size) :
    Calls Try.prog 6 #[v] w fun e w' => ∃ (rv : Value) (x : Co) (tv : Value) (text : List Int) (mv : Value) (mem : List Int), e = .returned (.tuple #[.agg #[rv, .int .i64 x.pc, .int .i64 x.process], tv, mv]) ∧
      IntsFrom w.heap.size w' rv x.regs ∧ x.regs.length ≤ 8 ∧ IntsFrom w.heap.size w' tv text ∧ text.length ≤ 8 ∧ IntsFrom w.heap.size w' mv mem ∧ mem.length ≤ 30 ∧ Below w.heap.size w w' := by
  have HH := hide H
  clear H
  obtain ⟨W1, hW⟩ : ∃ W1, w.alloc (.cells #[.slice none 0 0, .int .i64 0, .int .i64 0] 26) = W1 := ⟨_, rfl⟩
  have hb1 : Below w.heap.size w W1 := by rw [← hW]; exact (Below.refl _ _).alloc (Nat.le_refl _) _
  have R1 : Hid (Box W1 w.heap.size #[.slice none 0 0, .int .i64 0, .int .i64 0] 26) := by rw [← hW]; exact hide (Box.made w _ _)
  have S1 : W1.heap.size = w.heap.size + 1 := by rw [← hW]; simp
  have NW := hide (new_any W1 base v n hn (HH.out.below (hb1.mono hb)) (by omega))
  rw [S1] at NW
  have HW := hide hW
  have HB := hide hb1
  clear hW hb1 HH
  have CB := fun z C => hide (below_any z base (w.heap.size + 1) 30 (by omega) C)
  have CP : ∀ z : World, Cur z base (w.heap.size + 1) → Hid (Calls Try.prog 23 #[.pointer (some ⟨w.heap.size + 1, 0, none⟩), .slice (some ⟨z.heap.size, 0, none⟩) 5 5] (z.alloc (.cells #[.int .i64 0, .int .i64 1, .int .i64 5, .int .i64 (-3), .int .i64 1000001] 3)) fun e w' => ∃ n : Int, e = .returned (.int .i64 n) ∧ Far (w.heap.size + 1) z w' ∧ Cur w' base (w.heap.size + 1)) := fun z C => hide ((pickInt_made z _ base (w.heap.size + 1) [0, 1, 5, -3, 1000001] 3 (by simp) (by simp) C rfl).mono fun e w' ⟨n, _, h⟩ => ⟨n, h⟩)
  have CA := fun z C => hide (l15Any_any z base (w.heap.size + 1) C)
  have CT := fun z C => hide (l15Text_any z base (w.heap.size + 1) C)
  go_enter Try.func6, Try.ntmps6
  go_wp2_with fail
  rw [HW.out]
  refine (unhide NW).mono ?_
  rintro e z1 ⟨rfl, hb1, hc1⟩
  have R2 := hide (R1.out.stays (by rw [S1]; exact hb1))
  have B2 := hide (HB.out.trans (hb1.mono (by omega)))
  have hlt := hc1.lt
  have M0 : Hid (RoZ z1 base (w.heap.size + 1) (.slice (some ⟨z1.heap.size, 0, none⟩) 0 0) [] (z1.alloc (.cells #[] 3))) := hide ⟨ownsRow_empty _ _ _ (Nat.le_refl _), Far.ofBelow ((Below.refl _ _).alloc (Nat.le_refl _) _), hc1.below ((Below.refl _ _).alloc (by omega) _), hlt⟩
  clear hb1 hc1 NW R1 HB HW
  go_wp2_with fail
  go_loopw [6, 7] (fun mv i wr => ∃ (k : Nat) (xs : List Int), k ≤ 29 ∧ i = .int .i64 (k : Int) ∧ xs.length = k ∧ Hid (RoZ z1 base (w.heap.size + 1) mv xs wr)) (fun _ i _ => 30 - (intOf i).toNat)
  case atStart => exact ⟨0, [], Nat.zero_le _, rfl, rfl, M0⟩
  case round =>
    obtain ⟨k, xs, hk, rfl, hxl, HZ⟩ := hrel
    clear M0
    have hsz := HZ.out.far.size
    go_wp2_with fail
    refine (unhide (CB _ HZ.out.cur)).mono ?_
    rintro e z2 ⟨m, hm, rfl, hf1, hc1⟩
    have HZ1 := hide (HZ.out.draws hf1 hc1)
    clear hf1 hc1 HZ
    have hm6 : m < 30 := by omega
    clear hm
    by_cases hlt2 : k < m
    · have hlt' : (k : Int) < (m : Int) := by omega
      go_wp2_with fail
      refine (unhide (CP _ HZ1.out.cur)).mono ?_
      rintro e z3 ⟨N, rfl, hf3, hc3⟩
      have HZ3 := hide (HZ1.out.draws hf3 hc3)
      have hown := HZ3.out.own
      rw [hxl] at hown
      have hsz3 := HZ3.out.far.size
      clear hf3 hc3 HZ1
      go_wp2_with (at_builtin; refine wpList_app1 rfl (.tmp 18) (.tmp 22) 24 rfl z1.heap.size 3 (.int .i64 0) 8 Try.underlying24 Try.infoI rfl _ k _ _ rfl hown rfl rfl (by unfold maxLen; omega) (by omega) (by omega) ?_)
      intro v' z4 hown4 hb4
      have HZ4 : Hid (RoZ z1 base (w.heap.size + 1) v' (xs ++ [N]) z4) := hide ⟨by rw [List.length_append, hxl, List.map_append]; exact hown4, Below.far' HZ3.out.far (Nat.le_refl _) hb4, HZ3.out.cur.below (hb4.mono (by omega)), hlt⟩
      clear hown hown4 hb4 HZ3
      go_wp2
      go_roundw
      case rel => exact ⟨k + 1, xs ++ [N], by omega, by go_num, by simp [hxl], HZ4⟩
      case measure => simp [intOf]; omega
    · have hlt' : ¬ (k : Int) < (m : Int) := by omega
      clear hlt2
      go_wp2_with fail
      refine (unhide (CA _ HZ1.out.cur)).mono ?_
      rintro e z3 ⟨rv, x, rfl, hi, hl8, hf3, hc3⟩
      have HZ3 := HZ1.out.draws hf3 hc3
      have hsz1 := HZ1.out.far.size
      have hbw := B2.out.size
      obtain ⟨ao, nr, cr, rfl⟩ : ∃ ao nr cr, rv = .slice ao nr cr := by obtain ⟨ao, c, e, _⟩ := hi; exact ⟨ao, _, c, e⟩
      have hm : IntsFrom z1.heap.size z3 u6 xs := IntsFrom.own HZ3.own
      have hal : Below z3.heap.size z3 (z3.alloc (.cells #[.slice ao nr cr, .int .i64 x.pc, .int .i64 x.process] 26)) := (Below.refl _ _).alloc (Nat.le_refl _) _
      have hz3 := HZ3.far.size
      have ST : Hid (StZ w base z3.heap.size (.slice ao nr cr) x u6 xs (z3.alloc (.cells #[.slice ao nr cr, .int .i64 x.pc, .int .i64 x.process] 26))) := by
        refine hide ⟨⟨_, _, _, (farBox HZ3.far R2.out (by omega)).stays hal⟩, Box.made _ _ _, ((hi.mono (by omega)).far (Far.ofBelow (g := w.heap.size + 1) hal) (by omega)), ((hm.mono (by omega)).far (Far.ofBelow (g := w.heap.size + 1) hal) (by omega)), (B2.out.trans (HZ3.far.below (by omega) B2.out.size)).trans (hal.mono (by omega)), hc3.below (hal.mono (by omega)), by omega⟩
      obtain ⟨Z, hZ⟩ : ∃ Z, z3.alloc (.cells #[.slice ao nr cr, .int .i64 x.pc, .int .i64 x.process] 26) = Z := ⟨_, rfl⟩
      obtain ⟨G, eG⟩ : ∃ G, z3.heap.size = G := ⟨_, rfl⟩
      have HZ' := hide hZ
      have EG := hide eG
      rw [hZ, eG] at ST
      clear hZ eG HZ3 hi hm hal hz3 hf3 hc3 HZ1 hsz1 hbw R2 B2 CB CP CA
      have XL := hide hxl
      clear hxl
      go_upto_region 8 with fail
      rw [HZ'.out, EG.out]
      clear HZ' EG
      have KS : Hid (∀ z : World, StZ w base G (.slice ao nr cr) x u6 xs z → z.cell? ⟨G, 0, none⟩ = some (.slice ao nr cr) ∧ z.cell? ⟨G, 1, none⟩ = some (.int .i64 x.pc) ∧ z.cell? ⟨G, 2, none⟩ = some (.int .i64 x.process) ∧ Hid (StZ w base G (.slice ao nr cr) x u6 xs z)) := hide fun z h => ⟨Lib.cell_of_heap h.bO 0, Lib.cell_of_heap h.bO 1, Lib.cell_of_heap h.bO 2, h⟩
      have KN : Hid (∀ z : World, (z.cell? ⟨G, 0, none⟩ = some (.slice ao nr cr) ∧ z.cell? ⟨G, 1, none⟩ = some (.int .i64 x.pc) ∧ z.cell? ⟨G, 2, none⟩ = some (.int .i64 x.process) ∧ Hid (StZ w base G (.slice ao nr cr) x u6 xs z)) → StZ w base G (.slice ao nr cr) x u6 xs z) := hide fun z h => h.2.2.2.out
      have K0 := hide (KS.out _ ST.out)
      have K1 := hide (KS.out _ (ST.out.stays ((Below.refl _ _).drew)))
      go_region_held3 (fun z => z.cell? ⟨G, 0, none⟩ = some (.slice ao nr cr) ∧ z.cell? ⟨G, 1, none⟩ = some (.int .i64 x.pc) ∧ z.cell? ⟨G, 2, none⟩ = some (.int .i64 x.process) ∧ Hid (StZ w base G (.slice ao nr cr) x u6 xs z)) (first | with_reducible exact K0.out | with_reducible exact K1.out | with_reducible exact KS.out _ CW.out | with_reducible exact KS.out _ (CW.out.put hb _ _ _))
        ((go_at_call 25; refine (unhide (CT _ (KN.out _ (by assumption)).cur)).mono ?_; have hz8 := (KN.out _ (by assumption)).cur.lt; rintro e w7 ⟨tv, text, rfl, hl7, hz7⟩; have CW : Hid (StZ w base G (.slice ao nr cr) x u6 xs w7) := (hide ((KN.out _ (by assumption)).draws hz7.far hz7.cur)); have hT7 : IntsFrom (w.heap.size + 2) w7 tv text := (IntsFrom.own hz7.own).mono hz8; obtain ⟨ra, rb, rd, hrr⟩ := CW.out.bR; have y0 := Lib.cell_of_heap hrr 0; have y1 := Lib.cell_of_heap hrr 1; have y2 := Lib.cell_of_heap hrr 2; simp at y0 y1 y2; have f0 := Lib.frozen_of_heap hrr 0; have f1 := Lib.frozen_of_heap hrr 1; have f2 := Lib.frozen_of_heap hrr 2; clear hrr))
      obtain ⟨qa, qb, qd, hq⟩ := CW.out.bR
      obtain ⟨W, eW, hB, hk9, hf9⟩ := put3 hq (.slice ao nr cr) (.int .i64 x.pc) (.int .i64 x.process)
      have hPut := CW.out.put hb (.slice ao nr cr) (.int .i64 x.pc) (.int .i64 x.process)
      have hsz7 := CW.out.bel.size
      have hT : Hid (IntsFrom (w.heap.size + 2) W tv text) := by
        exact hide (hT7.far hf9 (by omega))
      rw [eW] at hPut
      have HP := hide hPut
      have HL := hide hl7
      have HB9 := hide hB
      clear hT7 hz8 hq hk9 hf9 hPut hB hz7 CW y0 y1 y2 f0 f1 f2 ra rb rd K0 K1 KS KN hl7
      go_wp2
      rw [eW]
      refine box_retVV (g := w.heap.size) (t := 26) (cs := #[.slice ao nr cr, .int .i64 x.pc, .int .i64 x.process]) rfl rfl ?_ _ Try.underlying26 rfl (by kernel_rfl) rfl ?_
      · exact HB9.out
      · exact ⟨_, x, tv, text, u6, xs, rfl, HP.out.row.mono (by omega), hl8, hT.out.mono (by omega), HL.out, HP.out.mo.mono (by omega), by rw [XL.out]; omega, HP.out.bel⟩
end Go.Proofs.Ytmchgmpdhfefjaa

namespace Go.Proofs.Ytmchgmpdhfefjaa
open Go.RowKit

/-- What the loop over drawn numbers keeps. -/
def PlacesRel (w : World) (base : Nat) (v i : Value) (wr : World) : Prop :=
  ∃ (k : Nat) (xs : List Nat), k ≤ 12 ∧ i = .int .i64 k ∧ xs.length = k ∧ (∀ x ∈ xs, x < 10000) ∧ wr.ownsRow (w.heap.size + 1) 3 1 v k (xs.map fun (x : Nat) => Value.int .i64 (x : Int)) ∧ Below w.heap.size w wr ∧ Cur wr base w.heap.size

set_option maxHeartbeats 400000 in
theorem places_any (w : World) (base : Nat) (v : Value) (n : Nat) (hn : n ≤ 1048576) (H : CodeAt w base v n) (hb : base ≤ w.heap.size) :
    Calls Try.prog 15 #[v] w fun e w' => ∃ (pv : Value) (xs : List Nat), e = .returned pv ∧ xs.length = 12 ∧ (∀ x ∈ xs, x < 10000) ∧ w'.ownsRow (w.heap.size + 1) 3 1 pv 12 (xs.map fun (x : Nat) => Value.int .i64 (x : Int)) ∧ Below w.heap.size w w' := by
  have HH := hide H
  have NW := hide (new_any w base v n hn H hb)
  clear H
  go_enter Try.func15, Try.ntmps15
  go_wp2_with (first | (go_at_call 21; refine (NW.out).mono ?_; rintro e w1 ⟨rfl, hb1, hc1⟩) | (go_at_call 37; refine (byte_any _ base _ hc1).mono ?_; rintro e w2 ⟨x2, hx2, rfl, hf2, hc2⟩))
  have HB2 : Hid (Below w.heap.size w w2) := hb1.trans (hf2.below (Nat.le_refl _) hb1.size)
  have HC2 := hide hc2
  have hsz2 : w.heap.size + 1 ≤ w2.heap.size := hc2.lt
  clear hb1 hf2 hc1 hc2 NW
  go_loopw [4, 5] (fun v i wr => PlacesRel w base v i wr) (fun _ i _ => 12 - (intOf i).toNat)
  case atStart => exact ⟨0, [], Nat.zero_le _, rfl, rfl, fun x hx => by simp at hx, ownsRow_empty _ _ _ hsz2, HB2.out.trans ((Below.refl _ _).alloc HB2.out.size _), HC2.out.below ((Below.refl _ _).alloc hsz2 _)⟩
  case round =>
    obtain ⟨k, xs, hk, rfl, hxl, hxs, hown, hbel, hc⟩ := hrel
    have hsz := hbel.size
    have hgl := hc.lt
    by_cases hlt : k < 12
    · have HO := hide hown
      have HB := hide hbel
      have HX := hide hxs
      clear hown hbel hxs
      go_wp2_with (first | (go_at_call 22; refine (below_any _ base _ 10000 (by omega) hc).mono ?_; rintro e w3 ⟨x, hx, rfl, hf3, hc3⟩; have hown3 := ownsRow_far HO.out hf3 (Nat.lt_succ_self _); have hsz3 := hf3.size) | (at_builtin; refine wpList_app1 rfl (.tmp 15) (.tmp 18) 24 rfl (w.heap.size + 1) 3 (.int .i64 0) 8 Try.underlying24 Try.infoI rfl _ k _ _ rfl hown3 rfl rfl (by unfold maxLen; omega) (by omega) (by omega) ?_))
      intro v' w4 hown4 hb4
      have R : PlacesRel w base v' (.int .i64 ((k : Int) + 1)) w4 := ⟨k + 1, xs ++ [x], hlt, rfl, by simp [hxl], fun y hy => by
        rcases List.mem_append.1 hy with hy | hy
        · exact HX.out y hy
        · simp at hy; omega, by simpa using hown4, (HB.out.trans (hf3.below (Nat.le_refl _) hsz)).trans (hb4.mono (Nat.le_succ _)), hc3.below hb4⟩
      clear hown3 hown4 hb4 hf3
      go_wp2
      go_roundw
      case rel => exact R
      case measure => simp [intOf]; omega
    · obtain rfl : k = 12 := by omega
      have HO := hide hown
      clear hown
      go_wp2
      go_ret
      exact ⟨_, xs, rfl, hxl, hxs, HO.out, hbel⟩
end Go.Proofs.Ytmchgmpdhfefjaa

namespace Go.Proofs.Ytmchgmpdhfefjaa
open Go.RowKit

theorem big_any (w : World) (a : Option Addr) (n c : Nat) : Calls Try.prog 5 #[.slice a n c] w fun e w' => e = .returned (.bool (decide (1048576 < n))) ∧ w = w' := by
  by_cases h : 1048576 < n
  · have b : decide (1048576 < n) = true := decide_eq_true h
    rw [b]
    have b2 : decide ((1048576 : Int) < (n : Int)) = true := by rw [decide_eq_true_eq]; omega
    clear h
    go_enter Try.func5, Try.ntmps5
    go_wp2
    go_ret
    exact ⟨rfl, rfl⟩
  · have b : decide (1048576 < n) = false := decide_eq_false h
    rw [b]
    have b2 : decide ((1048576 : Int) < (n : Int)) = false := by rw [decide_eq_false_iff_not]; omega
    clear h
    go_enter Try.func5, Try.ntmps5
    go_wp2
    go_ret
    exact ⟨rfl, rfl⟩

theorem row12 {w : World} {base : Nat} {pv : Value} {xs : List Nat} (hl : xs.length = 12) (h : w.ownsRow base 3 1 pv 12 (xs.map fun (x : Nat) => Value.int .i64 (x : Int))) :
    ∃ (gp cap : Nat), pv = .slice (some ⟨gp, 0, none⟩) 12 cap ∧ gp < w.heap.size ∧ ∀ j (hj : j < xs.length), w.cell? ⟨gp, j, none⟩ = some (.int .i64 (xs[j] : Int)) := by
  have h0 := h
  rcases h.2 with ⟨_, h2⟩ | ⟨b, cap, cur, rfl, h2, h3, h4, h5, h6, h7⟩
  · omega
  · refine ⟨b, cap, rfl, (Array.getElem?_eq_some_iff.1 h3).1, fun j hj => ?_⟩
    have := h0.cellAt j (by omega)
    rw [List.getElem?_map, List.getElem?_eq_getElem hj] at this
    exact this
end Go.Proofs.Ytmchgmpdhfefjaa
