/-
  Walks: Envs that are drawn.
-/
import Derived.Test.YtmckcbgdkjbpfaaEvOf
import Derived.Test.YtmckcbgdkjbpfaaCloW
import Derived.Test.YtmckcbgdkjbpfaaCurT
import Derived.Deep.CutRange
import Derived.Deep.RegionLaw
namespace Go.Proofs.Ytmckcbgdkjbpfaa
open Go.RowKit

/-- A call of a Go function by its contract, as one step of a region that draws. -/
theorem step_call {P : Program} {W : World} {ops : Array Oper} {o : Oper} {a : Act} {K : Act → World → Prop} {Q : Exit → Act → World → Prop} {E : Prop} (hgd : o.guard = none) (f : FuncId) (args : Array Value)
    (hrun : (execOp a.eval o).run P W = .ok (.enter f args) W) {R : Ending → World → Prop} (hc : Calls P f args W R) (h : ∀ e w', R e w' → ∃ v, e = .returned v ∧ K (a.put o.dst v) w') :
    if Region.wanted o (yielded ops a.tmps) = true then Oper.wp P o a W K Q else E := by
  have hw : Region.wanted o (yielded ops a.tmps) = true := by simp [Region.wanted, hgd]
  rw [if_pos hw]
  unfold Oper.wp
  rw [hrun, Oper.upon_enter]
  refine hc.mono fun e w' hR => ?_
  obtain ⟨v, rfl, hk⟩ := h e w' hR
  exact hk
/-- One of a row of numbers that was made for it is drawn, a little later. -/
theorem pickInt_in (w W : World) (base g : Nat) (xs : List Int) (t : TypeId) (h0 : 0 < xs.length) (hn : xs.length ≤ 1000) (C : Cur w base g) (hb : Below (w.heap.size + 1) (w.alloc (.cells (xs.map (Value.int .i64)).toArray t)) W) :
    Calls Try.prog 60 #[.pointer (some ⟨g, 0, none⟩), .slice (some ⟨w.heap.size, 0, none⟩) xs.length xs.length] W fun e w' => ∃ x, x ∈ xs ∧ e = .returned (.int .i64 x) ∧ Far g w w' ∧ Cur w' base g := by
  have hsz : (w.alloc (.cells (xs.map (Value.int .i64)).toArray t)).heap.size = w.heap.size + 1 := by simp
  have hlt := C.lt
  have hbw : Below w.heap.size w W := ((Below.refl _ _).alloc (Nat.le_refl _) _).trans (hb.mono (by omega))
  refine (pickInt_any _ base g w.heap.size xs.length xs.length (fun j => xs.getD j 0) h0 hn (by omega) (by have := hb.size; omega) (fun j hj => (hb.cell (p := ⟨w.heap.size, j, none⟩) (by show w.heap.size < w.heap.size + 1; omega)).trans (row_cells w xs t j hj)) (C.below (hbw.mono hlt))).mono ?_
  rintro e w' ⟨j, hj, rfl, hf, hc⟩
  exact ⟨_, by simp [List.getD, hj], rfl, (Far.ofBelow hbw).trans hf, hc⟩
theorem box_low {B e : Nat} {W w' : World} {v v' u : Value} {xs : List Value} (hm : MoreR B e W v xs u v' w') {b : Nat} {cs : Array Value} {T : TypeId} (hown : W.ownsRow B e 1 v xs.length xs) (hb : Box W b cs T) (hB : b < B) : Box w' b cs T :=
  (hm.oth b (fun h => by have := (hown.lt b h).1; omega) hb.lt).trans hb
theorem box_far {g : Nat} {w w' : World} (h : Far g w w') {b : Nat} {cs : Array Value} {T : TypeId} (hb : Box w b cs T) (hg : b ≠ g) : Box w' b cs T := (h.far b hg hb.lt).trans hb
/-- While an Env is drawn: the result, the Env under way, the row of names; the cursor g. -/
structure DeZ (w : World) (base g : Nat) (N : Array Value) (r0 r1 : Value) (y : Ev) (z : World) : Prop where
  bR : ∃ a b, Box z w.heap.size #[a, b] 27
  bO : Box z (w.heap.size + 1) #[r0, r1] 27
  bN : Box z (w.heap.size + 1 + 1) N 9
  own : EvOwn (w.heap.size + 3) z r0 r1 y
  far : Far g w z
  cur : Cur z base g
  lt : g < w.heap.size
  le : w.heap.size + 3 ≤ z.heap.size
theorem DeZ.stays {w : World} {base g : Nat} {N : Array Value} {r0 r1 : Value} {y : Ev} {z z' : World} (h : DeZ w base g N r0 r1 y z) (hb : Below z.heap.size z z') : DeZ w base g N r0 r1 y z' := by
  obtain ⟨a, b, hr⟩ := h.bR
  have := h.lt
  have := h.le
  exact ⟨⟨a, b, hr.stays hb⟩, h.bO.stays hb, h.bN.stays hb, h.own.stays hb, Below.far' h.far (by omega) hb, h.cur.below (hb.mono (by omega)), h.lt, Nat.le_trans h.le hb.size⟩
theorem EvOwn.far {B g : Nat} {w w' : World} {v0 v1 : Value} {x : Ev} (h : EvOwn B w v0 v1 x) (hf : Far g w w') (hg : g < B) : EvOwn B w' v0 v1 x := ⟨ownsRow_far h.o0 hf hg, ownsRow_far h.o1 hf hg, h.ap⟩
theorem DeZ.draws {w : World} {base g : Nat} {N : Array Value} {r0 r1 : Value} {y : Ev} {z z' : World} (h : DeZ w base g N r0 r1 y z) (hf : Far g z z') (hc : Cur z' base g) : DeZ w base g N r0 r1 y z' := by
  obtain ⟨a, b, hr⟩ := h.bR
  have hl := h.lt
  exact ⟨⟨a, b, box_far hf hr (by omega)⟩, box_far hf h.bO (by omega), box_far hf h.bN (by omega), h.own.far hf (by omega), h.far.trans hf, hc, h.lt, Nat.le_trans h.le hf.size⟩
/-- A name more. -/
theorem DeZ.name {w : World} {base g : Nat} {N : Array Value} {r0 r1 : Value} {y : Ev} {W w' : World} {s : ByteArray} {v' : Value} (h : DeZ w base g N r0 r1 y W) (hm : MoreR (w.heap.size + 3) 9 W r0 (y.names.map S) (.string s) v' w') :
    DeZ w base g N v' r1 ⟨y.names ++ [s], y.vals⟩ (w'.setCell ⟨w.heap.size + 1, 0, none⟩ v') := by
  have ho : W.ownsRow (w.heap.size + 3) 9 1 r0 (y.names.map S).length (y.names.map S) := by rw [List.length_map]; exact h.own.o0
  have hG := box_low hm ho h.bO (by omega)
  have hl := h.lt
  have e1 : EvOwn (w.heap.size + 3) w' v' r1 ⟨y.names ++ [s], y.vals⟩ := by
    refine ⟨?_, owns_eq h.own.o1 fun g hg => hm.oth g (fun e => h.own.ap g e hg) (h.own.o1.lt g hg).2, fun i hi hi1 => ?_⟩
    · have := hm.own
      rw [List.length_map] at this
      show World.ownsRow _ _ _ _ _ (y.names ++ [s]).length ((y.names ++ [s]).map S)
      rw [List.length_append, List.map_append]
      exact this
    · rcases hm.pos with e | e
      · exact h.own.ap i (by rw [← e]; exact hi) hi1
      · rw [hi] at e
        injection e with e
        have := (h.own.o1.lt i hi1).2
        omega
  have hbel : Below (w.heap.size + 1) W (w'.setCell ⟨w.heap.size + 1, 0, none⟩ v') := (hm.bel.mono (show w.heap.size + 1 ≤ w.heap.size + 3 by omega)).setCell (p := ⟨w.heap.size + 1, 0, none⟩) (Nat.le_refl _) _
  refine ⟨?_, ?_, (box_low hm ho h.bN (by omega)).other _ _ (by show w.heap.size + 1 + 1 ≠ w.heap.size + 1; omega), e1.boxed hG (by decide) (by decide) _, Below.far' h.far (by omega) hbel, h.cur.below (hbel.mono (by omega)), hl, Nat.le_trans h.le hbel.size⟩
  · obtain ⟨a, b, hr⟩ := h.bR
    exact ⟨a, b, (box_low hm ho hr (by omega)).other _ _ (by show w.heap.size ≠ w.heap.size + 1; omega)⟩
  · have := hG.set 0 v'
    rw [set_fst] at this
    exact this
/-- A value more. -/
theorem DeZ.val {w : World} {base g : Nat} {N : Array Value} {r0 r1 : Value} {y : Ev} {W w' : World} {k : Int} {v' : Value} (h : DeZ w base g N r0 r1 y W) (hm : MoreR (w.heap.size + 3) 3 W r1 (y.vals.map I64) (.int .i64 k) v' w') :
    DeZ w base g N r0 v' ⟨y.names, y.vals ++ [k]⟩ (w'.setCell ⟨w.heap.size + 1, 1, none⟩ v') := by
  have ho : W.ownsRow (w.heap.size + 3) 3 1 r1 (y.vals.map I64).length (y.vals.map I64) := by rw [List.length_map]; exact h.own.o1
  have hG := box_low hm ho h.bO (by omega)
  have hl := h.lt
  have e1 : EvOwn (w.heap.size + 3) w' r0 v' ⟨y.names, y.vals ++ [k]⟩ := by
    refine ⟨owns_eq h.own.o0 fun g hg => hm.oth g (h.own.ap g hg) (h.own.o0.lt g hg).2, ?_, fun i hi hi1 => ?_⟩
    · have := hm.own
      rw [List.length_map] at this
      show World.ownsRow _ _ _ _ _ (y.vals ++ [k]).length ((y.vals ++ [k]).map I64)
      rw [List.length_append, List.map_append]
      exact this
    · rcases hm.pos with e | e
      · exact h.own.ap i hi (by rw [← e]; exact hi1)
      · rw [hi1] at e
        injection e with e
        have := (h.own.o0.lt i hi).2
        omega
  have hbel : Below (w.heap.size + 1) W (w'.setCell ⟨w.heap.size + 1, 1, none⟩ v') := (hm.bel.mono (show w.heap.size + 1 ≤ w.heap.size + 3 by omega)).setCell (p := ⟨w.heap.size + 1, 1, none⟩) (Nat.le_refl _) _
  refine ⟨?_, ?_, (box_low hm ho h.bN (by omega)).other _ _ (by show w.heap.size + 1 + 1 ≠ w.heap.size + 1; omega), e1.boxed hG (by decide) (by decide) _, Below.far' h.far (by omega) hbel, h.cur.below (hbel.mono (by omega)), hl, Nat.le_trans h.le hbel.size⟩
  · obtain ⟨a, b, hr⟩ := h.bR
    exact ⟨a, b, (box_low hm ho hr (by omega)).other _ _ (by show w.heap.size ≠ w.heap.size + 1; omega)⟩
  · have := hG.set 1 v'
    rw [set_snd] at this
    exact this
def nm5 : List ByteArray := [⟨#[118]⟩, ⟨#[119]⟩, ⟨#[110]⟩, ⟨#[120]⟩, resultN]
def vl6 : List Int := [0, 1, 2, -3, 1000, 999999]
def nmV : Array Value := #[.string ⟨#[118]⟩, .string ⟨#[119]⟩, .string ⟨#[110]⟩, .string ⟨#[120]⟩, .string ⟨#[114, 101, 115, 117, 108, 116]⟩]
theorem nmV_at {z : World} {q i : Nat} (h : Box z q nmV 9) (hi : i < 5) : z.cell? ⟨q, i, none⟩ = some (.string (nm5.getD i default)) := by
  rw [Lib.cell_of_heap h i]
  have : i = 0 ∨ i = 1 ∨ i = 2 ∨ i = 3 ∨ i = 4 := by omega
  rcases this with rfl | rfl | rfl | rfl | rfl <;> rfl
/-- The Envs that are drawn: so many names, a value for each. -/
structure Dr5 (x : Ev) (k : Nat) : Prop where
  n : x.names = nm5.take k
  v : x.vals.length = k
  m : ∀ u ∈ x.vals, u ∈ vl6
  le : k ≤ 5
def DeR (w : World) (base g : Nat) (iv : Value) (wr : World) : Prop := ∃ (i : Nat) (r0 r1 : Value) (x : Ev), iv = .int .i64 i ∧ Dr5 x i ∧ Hid (DeZ w base g nmV r0 r1 x wr)
theorem Dr5.more {x : Ev} {i : Nat} (h : Dr5 x i) (hi : i < 5) {u : Int} (hu : u ∈ vl6) : Dr5 ⟨x.names ++ [nm5.getD i default], x.vals ++ [u]⟩ (i + 1) := by
  refine ⟨?_, by rw [List.length_append, h.v]; rfl, fun k hk => ?_, by omega⟩
  · show x.names ++ _ = _
    rw [h.n, List.take_succ_eq_append_getElem (by show i < 5; exact hi), List.getD_eq_getElem?_getD, List.getElem?_eq_getElem (by show i < 5; exact hi)]
    rfl
  · rcases List.mem_append.1 hk with h1 | h1
    · exact h.m k h1
    · rw [List.mem_singleton.1 h1]; exact hu

set_option maxRecDepth 100000 in
set_option maxHeartbeats 8000000 in
theorem l10Env_any (w : World) (base g : Nat) (C : Cur w base g) :
    Calls Try.prog 38 #[.pointer (some ⟨g, 0, none⟩)] w fun e w' => ∃ r0 r1 x k, e = .returned (.agg #[r0, r1]) ∧ EvOwn w.heap.size w' r0 r1 x ∧ Dr5 x k ∧ 1 ≤ k ∧ Far g w w' ∧ Cur w' base g := by
  obtain ⟨W1, hW⟩ : ∃ W1, ((w.alloc (.cells #[.slice none 0 0, .slice none 0 0] 27)).alloc (.cells #[.slice none 0 0, .slice none 0 0] 27)).alloc (.cells nmV 9) = W1 := ⟨_, rfl⟩
  have Z0 : Hid (DeZ w base g nmV (.slice none 0 0) (.slice none 0 0) ⟨[], []⟩ W1) := by
    rw [← hW]
    have hb : Below w.heap.size w (((w.alloc (.cells #[.slice none 0 0, .slice none 0 0] 27)).alloc (.cells #[.slice none 0 0, .slice none 0 0] 27)).alloc (.cells nmV 9)) := by go_grown
    refine hide ⟨⟨_, _, ((Box.made w _ _).stays ((Below.refl _ _).alloc (Nat.le_refl _) _)).stays ((Below.refl _ _).alloc (Nat.le_refl _) _)⟩, (Box.madeAt (by simp) _ _).stays ((Below.refl _ _).alloc (Nat.le_refl _) _), Box.madeAt (by simp) _ _, ⟨owns_none, owns_none, fun i hi => by cases hi⟩, Far.ofBelow hb, C.below (hb.mono C.lt), C.lt, by simp⟩
  unfold nmV at hW
  have HW := hide hW
  clear hW C
  go_enter Try.func38, Try.ntmps38
  go_wp2
  rw [HW.out]
  go_loopw [5] (fun iv wr => DeR w base g iv wr) (fun iv _ => 5 - (intOf iv).toNat)
  case atStart => exact ⟨0, _, _, ⟨[], []⟩, rfl, ⟨rfl, rfl, fun _ h => absurd h (List.not_mem_nil), by omega⟩, Z0.out⟩
  case round =>
    clear Z0 HW
    obtain ⟨i, r0, r1, x, rfl, D, Z⟩ := hrel
    have HD := hide D
    have hi5 := D.le
    clear D
    obtain ⟨p0, k0, rfl⟩ := form_own Z.out.own.o0
    obtain ⟨p1, k1, rfl⟩ := form_own Z.out.own.o1
    have hN9 : x.names.length ≤ 5 := by rw [HD.out.n, List.length_take]; show min i 5 ≤ 5; omega
    have hV9 : x.vals.length ≤ 5 := by rw [HD.out.v]; exact hi5
    have HBL := hide (below_any wr base g 5 (by omega) Z.out.cur)
    go_wp2_with fail
    refine HBL.out.mono ?_
    rintro e w1 ⟨q, hq, rfl, hf, hc⟩
    have Z1 := hide (Z.out.draws hf hc)
    clear hf hc HBL Z
    have to0 := Lib.cell_of_heap Z1.out.bO 0
    have to1 := Lib.cell_of_heap Z1.out.bO 1
    simp at to0 to1
    by_cases hlt : (i : Int) < 1 + (q : Int)
    case neg =>
      obtain ⟨ra, rb, hrr⟩ := Z1.out.bR
      have tr0 := Lib.cell_of_heap hrr 0
      have tr1 := Lib.cell_of_heap hrr 1
      have fr0 := Lib.frozen_of_heap hrr 0
      have fr1 := Lib.frozen_of_heap hrr 1
      simp at tr0 tr1
      have HF : Hid (∃ W, (w1.setCell ⟨w.heap.size, 0, none⟩ (.slice p0 x.names.length k0)).setCell ⟨w.heap.size, 1, none⟩ (.slice p1 x.vals.length k1) = W ∧ Box W w.heap.size #[.slice p0 x.names.length k0, .slice p1 x.vals.length k1] 27 ∧ EvOwn w.heap.size W (.slice p0 x.names.length k0) (.slice p1 x.vals.length k1) x ∧ Far g w W ∧ Cur W base g) := by
        have hl := Z1.out.lt
        have hb : Below w.heap.size w1 ((w1.setCell ⟨w.heap.size, 0, none⟩ (.slice p0 x.names.length k0)).setCell ⟨w.heap.size, 1, none⟩ (.slice p1 x.vals.length k1)) := ((Below.refl _ _).setCell (p := ⟨w.heap.size, 0, none⟩) (Nat.le_refl _) _).setCell (p := ⟨w.heap.size, 1, none⟩) (Nat.le_refl _) _
        have e : ∀ k, w.heap.size + 3 ≤ k → ((w1.setCell ⟨w.heap.size, 0, none⟩ (.slice p0 x.names.length k0)).setCell ⟨w.heap.size, 1, none⟩ (.slice p1 x.vals.length k1)).heap[k]? = w1.heap[k]? := fun k hk =>
          (Below.heap_setCell _ ⟨w.heap.size, 1, none⟩ _ k (by show k ≠ w.heap.size; omega)).trans (Below.heap_setCell _ ⟨w.heap.size, 0, none⟩ _ k (by show k ≠ w.heap.size; omega))
        exact ⟨_, rfl, by simpa using (hrr.set 0 (.slice p0 x.names.length k0)).set 1 (.slice p1 x.vals.length k1), ⟨owns_lo (owns_eq Z1.out.own.o0 fun k hk => e k (Z1.out.own.o0.lt k hk).1) (by omega), owns_lo (owns_eq Z1.out.own.o1 fun k hk => e k (Z1.out.own.o1.lt k hk).1) (by omega), Z1.out.own.ap⟩, Below.far' Z1.out.far (Nat.le_refl _) hb, Z1.out.cur.below (hb.mono hl)⟩
      clear hrr
      obtain ⟨W, eW, hB, hO, hF, hC⟩ := HF.out
      have HR := hide (And.intro hB (And.intro hO (And.intro hF hC)))
      have EW := hide eW
      clear hB hO hF hC HF eW
      go_wp2
      rw [EW.out]
      refine box_ret (g := w.heap.size) (t := 27) (cs := #[.slice p0 x.names.length k0, .slice p1 x.vals.length k1]) rfl rfl ?_ _ Try.underlying27 rfl (by kernel_rfl) rfl ?_
      · exact HR.out.1
      · exact ⟨_, _, _, i, rfl, HR.out.2.1, HD.out, by omega, HR.out.2.2.1, HR.out.2.2.2⟩
    case pos =>
      have hi : i < 5 := by omega
      have hi0 : (0 : Int) ≤ (i : Int) := by omega
      have hi5' : (i : Int) < 5 := by omega
      have hx := nmV_at Z1.out.bN hi
      obtain ⟨s, es⟩ : ∃ s, nm5.getD i default = s := ⟨_, rfl⟩
      rw [es] at hx
      have ES := hide es
      clear es
      have td0 := fun o => Lib.cell_of_heap (Z1.out.bO.stays ((Below.refl _ _).alloc (Nat.le_refl _) o)) 0
      simp at td0
      have HG := hide fun W h => Z1.out.stays (z' := W) h
      go_wp2_with fail
      go_cut [5] from 8 to 31 (fun iv z => iv = .int .i64 i ∧ ∃ r, Hid (DeZ w base g nmV r (.slice p1 x.vals.length k1) ⟨x.names ++ [s], x.vals⟩ z))
      case first =>
        go_region_law ((refine step_more rfl (.tmp 16) (.tmp 21) 22 rfl (w.heap.size + 3) 9 (.string ⟨#[]⟩) 16 Try.underlying22 Try.infoStr rfl (.slice p0 x.names.length k0) (x.names.map S) rfl ?_ w1.heap.size (.string s) rfl ?_ rfl ?_ ?_ ?_ ?_; (rw [List.length_map]; exact (HG.out _ (by first | go_grown | exact (Below.refl _ _).drew | exact ((Below.refl _ _).alloc (Nat.le_refl _) _).drew | exact (((Below.refl _ _).alloc (Nat.le_refl _) _).drew).drew | exact ((Below.refl _ _).drew.alloc (Nat.le_refl _) _) | exact ((Below.refl _ _).drew.alloc (Nat.le_refl _) _).drew)).own.o0); (exact Lib.cell_of_heap (Box.made w1 _ _) 0); (rw [List.length_map]; unfold maxLen; omega); (rw [List.length_map]; omega); (exact (HG.out _ (by first | go_grown | exact (Below.refl _ _).drew | exact ((Below.refl _ _).alloc (Nat.le_refl _) _).drew | exact (((Below.refl _ _).alloc (Nat.le_refl _) _).drew).drew | exact ((Below.refl _ _).drew.alloc (Nat.le_refl _) _) | exact ((Below.refl _ _).drew.alloc (Nat.le_refl _) _).drew)).le); intro v' w' hm; have HBX := hide (box_low hm (by rw [List.length_map]; exact (HG.out _ (by first | go_grown | exact (Below.refl _ _).drew | exact ((Below.refl _ _).alloc (Nat.le_refl _) _).drew | exact (((Below.refl _ _).alloc (Nat.le_refl _) _).drew).drew | exact ((Below.refl _ _).drew.alloc (Nat.le_refl _) _) | exact ((Below.refl _ _).drew.alloc (Nat.le_refl _) _).drew)).own.o0) (HG.out _ (by first | go_grown | exact (Below.refl _ _).drew | exact ((Below.refl _ _).alloc (Nat.le_refl _) _).drew | exact (((Below.refl _ _).alloc (Nat.le_refl _) _).drew).drew | exact ((Below.refl _ _).drew.alloc (Nat.le_refl _) _) | exact ((Below.refl _ _).drew.alloc (Nat.le_refl _) _).drew)).bO (by omega)); have sh := form_own hm.own; obtain ⟨po, co, e9⟩ := sh; subst e9; have Z9 := hide (DeZ.name (HG.out _ (by first | go_grown | exact (Below.refl _ _).drew | exact ((Below.refl _ _).alloc (Nat.le_refl _) _).drew | exact (((Below.refl _ _).alloc (Nat.le_refl _) _).drew).drew | exact ((Below.refl _ _).drew.alloc (Nat.le_refl _) _) | exact ((Below.refl _ _).drew.alloc (Nat.le_refl _) _).drew)) hm); rw [List.length_map] at Z9; have kc := (Lib.cell_of_heap HBX.out 0).trans rfl; have kf := Lib.frozen_of_heap HBX.out 0; clear hm))
        all_goals go_wp2_with fail
        all_goals go_meet
        all_goals exact ⟨rfl, _, Z9⟩
      case rest =>
        obtain ⟨rfl, r, ZR⟩ := hcut
        obtain ⟨pr, kr, er⟩ := form_own ZR.out.own.o0
        subst er
        clear HG td0 to0 to1 hx Z1
        have to1 := Lib.cell_of_heap ZR.out.bO 1
        have td1 := fun o => Lib.cell_of_heap (ZR.out.bO.stays ((Below.refl _ _).alloc (Nat.le_refl _) o)) 1
        simp at to1 td1
        have HG := hide fun W h => ZR.out.stays (z' := W) h
        have PK : Hid (∀ W, Below (wc.heap.size + 1) (wc.alloc (.cells #[.int .i64 0, .int .i64 1, .int .i64 2, .int .i64 (-3), .int .i64 1000, .int .i64 999999] 3)) W → Calls Try.prog 60 #[.pointer (some ⟨g, 0, none⟩), .slice (some ⟨wc.heap.size, 0, none⟩) 6 6] W fun e w' => ∃ x, x ∈ vl6 ∧ e = .returned (.int .i64 x) ∧ Far g wc w' ∧ Cur w' base g) := fun W h => pickInt_in wc W base g vl6 3 (by decide) (by decide) ZR.out.cur h
        go_wp2_with fail
        go_region_law (first
          | (refine step_call rfl 60 #[.pointer (some ⟨g, 0, none⟩), .slice (some ⟨wc.heap.size, 0, none⟩) 6 6] ?_ (PK.out _ ?_) ?_; (kernel_rfl); (exact (Below.refl _ _).drew); rintro e w2 ⟨u, hu, rfl, hf, hc⟩; refine ⟨_, rfl, ?_⟩; have Z2 := hide (ZR.out.draws hf hc); have HU := hide hu; clear hf hc hu; have tp1 := Lib.cell_of_heap Z2.out.bO 1; have tq1 := fun o => Lib.cell_of_heap (Z2.out.bO.stays ((Below.refl _ _).alloc (Nat.le_refl _) o)) 1; simp at tp1 tq1; have HG2 := hide fun W h => Z2.out.stays (z' := W) h)
          | (refine step_more rfl (.tmp 25) (.tmp 29) 23 rfl (w.heap.size + 3) 3 (.int .i64 0) 8 Try.underlying23 Try.infoInt rfl (.slice p1 x.vals.length k1) (x.vals.map I64) rfl ?_ w2.heap.size (.int .i64 u) rfl ?_ rfl ?_ ?_ ?_ ?_; (rw [List.length_map]; exact (HG2.out _ (by first | go_grown | exact (Below.refl _ _).drew | exact ((Below.refl _ _).alloc (Nat.le_refl _) _).drew | exact (((Below.refl _ _).alloc (Nat.le_refl _) _).drew).drew | exact ((Below.refl _ _).drew.alloc (Nat.le_refl _) _) | exact ((Below.refl _ _).drew.alloc (Nat.le_refl _) _).drew)).own.o1); (exact Lib.cell_of_heap (Box.made w2 _ _) 0); (rw [List.length_map]; unfold maxLen; omega); (rw [List.length_map]; omega); (exact (HG2.out _ (by first | go_grown | exact (Below.refl _ _).drew | exact ((Below.refl _ _).alloc (Nat.le_refl _) _).drew | exact (((Below.refl _ _).alloc (Nat.le_refl _) _).drew).drew | exact ((Below.refl _ _).drew.alloc (Nat.le_refl _) _) | exact ((Below.refl _ _).drew.alloc (Nat.le_refl _) _).drew)).le); intro v' w' hm; have HBX := hide (box_low hm (by rw [List.length_map]; exact (HG2.out _ (by first | go_grown | exact (Below.refl _ _).drew | exact ((Below.refl _ _).alloc (Nat.le_refl _) _).drew | exact (((Below.refl _ _).alloc (Nat.le_refl _) _).drew).drew | exact ((Below.refl _ _).drew.alloc (Nat.le_refl _) _) | exact ((Below.refl _ _).drew.alloc (Nat.le_refl _) _).drew)).own.o1) (HG2.out _ (by first | go_grown | exact (Below.refl _ _).drew | exact ((Below.refl _ _).alloc (Nat.le_refl _) _).drew | exact (((Below.refl _ _).alloc (Nat.le_refl _) _).drew).drew | exact ((Below.refl _ _).drew.alloc (Nat.le_refl _) _) | exact ((Below.refl _ _).drew.alloc (Nat.le_refl _) _).drew)).bO (by omega)); have sh := form_own hm.own; obtain ⟨po, co, e9⟩ := sh; subst e9; have Z9 := hide (DeZ.val (HG2.out _ (by first | go_grown | exact (Below.refl _ _).drew | exact ((Below.refl _ _).alloc (Nat.le_refl _) _).drew | exact (((Below.refl _ _).alloc (Nat.le_refl _) _).drew).drew | exact ((Below.refl _ _).drew.alloc (Nat.le_refl _) _) | exact ((Below.refl _ _).drew.alloc (Nat.le_refl _) _).drew)) hm); rw [List.length_map] at Z9; have kc := (Lib.cell_of_heap HBX.out 1).trans rfl; have kf := Lib.frozen_of_heap HBX.out 1; clear hm))
        all_goals go_wp2
        all_goals go_roundw
        all_goals first | (exact ⟨i + 1, _, _, _, by go_num, (by have h9 := HD.out.more hi HU.out; rw [ES.out] at h9; exact h9), Z9⟩) | (simp [intOf]; omega)
end Go.Proofs.Ytmckcbgdkjbpfaa
