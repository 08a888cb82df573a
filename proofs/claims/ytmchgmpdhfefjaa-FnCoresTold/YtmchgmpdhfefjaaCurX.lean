/-
  Walks: texts that are drawn.
-/
import Derived.Test.YtmchgmpdhfefjaaCurW
import Derived.Test.YtmchgmpdhfefjaaPickW
import Derived.Test.YtmchgmpdhfefjaaChecked
import Derived.BigQuiet
import Derived.Test.YtmchgmpdhfefjaaAid
import Derived.Test.YtmchgmpdhfefjaaRuneP
import Derived.Deep.CutRange
import Derived.Deep.RegionLaw
import Derived.Test.YtmchgmpdhfefjaaCloW
namespace Go.Proofs.Ytmchgmpdhfefjaa
open Go.RowKit

/-- What the loop over drawn bytes keeps. -/
def TextRel (w : World) (base g n : Nat) (v i : Value) (wr : World) : Prop :=
  ∃ (k : Nat) (xs : List Int), k ≤ n ∧ i = .int .i64 k ∧ xs.length = k ∧ wr.ownsRow w.heap.size 5 1 v k (xs.map (Value.int .u8)) ∧ Far g w wr ∧ Cur wr base g

end Go.Proofs.Ytmchgmpdhfefjaa

namespace Go.Proofs.Ytmchgmpdhfefjaa
open Go.RowKit

/-- A block of bytes. -/
structure BytesAt (w : World) (g : Nat) (bs : List UInt8) : Prop where
  cell : ∀ j (hj : j < bs.length), w.cell? ⟨g, j, none⟩ = some (.int .u8 (bs[j].toNat : Int))
  soft : ∀ j, j < bs.length → w.frozen? ⟨g, j, none⟩ = false
theorem BytesAt.set {w : World} {g : Nat} {bs : List UInt8} (h : BytesAt w g bs) (k : Nat) (hk : k < bs.length) (x : UInt8) : BytesAt (w.setCell ⟨g, k, none⟩ (.int .u8 (x.toNat : Int))) g (bs.set k x) := by
  refine ⟨fun j hj => ?_, fun j hj => ?_⟩
  · have hj' : j < bs.length := by rw [List.length_set] at hj; exact hj
    by_cases e : k = j
    · subst e
      rw [World.cell?_setCell_same _ _ _ (h.cell k hk)]
      simp
    · rw [World.cell?_setCell_other (h := ne_off e), h.cell j hj', List.getElem_set_ne e]
  · rw [World.frozen?_setCell]
    exact h.soft j (by rw [List.length_set] at hj; exact hj)
theorem BytesAt.drew {w : World} {g : Nat} {bs : List UInt8} (h : BytesAt w g bs) : BytesAt w.drew g bs := ⟨h.cell, h.soft⟩
/-- A new block of bytes is 0 all over. -/
theorem BytesAt.made (w : World) (n : Nat) : BytesAt (w.alloc (.cells (madeCells #[.int .u8 0] n) 5)) w.heap.size (List.replicate n 0) := by
  have e := heap_alloc_new w (.cells (madeCells #[Value.int .u8 0] n) 5)
  refine ⟨fun j hj => ?_, fun j hj => ?_⟩
  · unfold World.cell?
    rw [e]
    simp at hj
    simp [madeCells, hj, Nat.mod_one]
  · unfold World.frozen?
    rw [e]
    rfl
/-- What the loop over a long text keeps. -/
def LongRel (w : World) (n : Nat) (i : Value) (wr : World) : Prop :=
  ∃ (k : Nat) (bs : List UInt8), k ≤ n ∧ i = .int .i64 k ∧ bs.length = n ∧ BytesAt wr w.heap.size bs ∧ Below w.heap.size w wr

theorem makeB_run (n : Nat) (hn : n ≤ 1000000) (w : World) : (Instr.makeSlice 22 (.int .i64 (n : Int)) (.int .i64 (n : Int))).run Try.prog w = .ok (.slice (some ⟨w.heap.size, 0, none⟩) n n) (w.alloc (.cells (madeCells #[.int .u8 0] n) 5)) := by
  obtain ⟨i0, hi, hz0, hz1, hz2⟩ := info_parts Try.infoB
  have h := run_make (P := Try.prog) w 22 5 i0 (.int .u8 0) Try.underlying22 hi hz0 .i64 .i64 (n : Int) (n : Int) (by omega) (by omega) (by rw [hz2]; omega) (by omega)
  rw [hz1] at h
  simpa [Value.cells] using h

end Go.Proofs.Ytmchgmpdhfefjaa

namespace Go.Proofs.Ytmchgmpdhfefjaa
open Go.RowKit

theorem once_any (w : World) (base g n : Nat) (hn : n ≤ 4294967296) (C : Cur w base g) :
    Calls Try.prog 43 #[.pointer (some ⟨g, 0, none⟩), .int .i64 n] w fun e w' => ∃ b : Bool, e = .returned (.bool b) ∧ Far g w w' ∧ Cur w' base g := by
  have B := hide (below_any w base g n hn C)
  clear C
  go_enter Try.func43, Try.ntmps43
  go_wp2_with (go_at_call 22; refine (unhide B).mono ?_; rintro e w1 ⟨x, _, rfl, hf, hc⟩)
  go_ret
  exact ⟨_, rfl, hf, hc⟩

end Go.Proofs.Ytmchgmpdhfefjaa

namespace Go.Proofs.Ytmchgmpdhfefjaa
open Go.RowKit

/-- A world of a class. -/
structure InC (S : World → Prop) where
  z : World
  h : S z
theorem wp_region_class {P : Program} (S : World → Prop) {id : Nat} {Q : Exit → Act → World → Prop} {a : Act} {w : World} {l : List Oper} (hm : P.follows .mixedOrders = true) (hB : Region.lexB .any l.toArray = true) (hC : S w.drew)
    (h : wpQuiet P l.toArray (fun w' => ∃ s : InC S, w' = s.z) (fun a' => ∀ s : InC S, Q .normal a' s.z) l a) : (Code.region id l.toArray true).wp P Q a w := by
  refine wp_region_quiet (C := fun w' => ∃ s : InC S, w' = s.z) hm hB ⟨⟨_, hC⟩, rfl⟩ ?_
  have e : (fun a' => ∀ w', (∃ s : InC S, w' = s.z) → Q .normal a' w') = (fun a' => ∀ s : InC S, Q .normal a' s.z) := by
    funext a'
    exact propext ⟨fun h s => h _ ⟨s, rfl⟩, fun h w' ⟨s, hs⟩ => by subst hs; exact h s⟩
  rw [e]
  simpa using h
/-- A callee's contract, in the class. -/
theorem calls_class {P : Program} {S : World → Prop} {f : FuncId} {args : Array Value} {v : Value} (s : InC S) (k : ∀ w', Below s.z.heap.size s.z w' → S w') (h : Calls P f args s.z fun e w' => e = .returned v ∧ Below s.z.heap.size s.z w') :
    Calls P f args s.z fun e w'' => e = .returned v ∧ ∃ s' : InC S, w'' = s'.z :=
  h.mono fun _ w' ⟨he, hb⟩ => ⟨he, ⟨w', k w' hb⟩, rfl⟩
theorem calls_class_same {P : Program} {S : World → Prop} {f : FuncId} {args : Array Value} {v : Value} (s : InC S) (h : Calls P f args s.z fun e w' => e = .returned v ∧ w' = s.z) :
    Calls P f args s.z fun e w'' => e = .returned v ∧ ∃ s' : InC S, w'' = s'.z :=
  h.mono fun _ _ ⟨he, hb⟩ => ⟨he, s, hb⟩
end Go.Proofs.Ytmchgmpdhfefjaa

namespace Go.Proofs.Ytmchgmpdhfefjaa
open Go.RowKit

theorem StrsAt.take {w : World} {ao : Option Addr} {c : Nat} {xs : List ByteArray} (h : StrsAt w (.slice ao xs.length c) xs) {i : Nat} (hi : i ≤ xs.length) : StrsAt w (.slice ao i c) (xs.take i) := by
  obtain ⟨ao', c', e, hc⟩ := h
  injection e with e1 _ e3
  subst e1 e3
  refine ⟨ao, c, by rw [List.length_take, Nat.min_eq_left hi], fun j hj => ?_⟩
  rw [List.length_take] at hj
  rw [List.getElem_take]
  exact hc j (by omega)
/-- What holds of the first so many. -/
def okAt (x : Ev) (i : Nat) : Bool := nameB (x.names.getD i default) && vok (x.vals.getD i 0) && !memB (x.names.take i) (x.names.getD i default)
end Go.Proofs.Ytmchgmpdhfefjaa

namespace Go.Proofs.Ytmchgmpdhfefjaa
open Go.RowKit

theorem selE_yes {a b : Ev} {i : Nat} (h0 : i < b.names.length) (h1 : i < b.vals.length) (h : memB a.names b.names[i] = false) : selE a b (i + 1) = selE a b i ++ [(b.names[i], b.vals[i])] := by
  unfold selE
  have hl : i < (b.names.zip b.vals).length := by rw [List.length_zip]; omega
  rw [List.take_succ_eq_append_getElem hl, List.filter_append, List.getElem_zip, List.filter_cons, if_pos (by rw [h]; rfl)]
  rfl
theorem selE_no {a b : Ev} {i : Nat} (h0 : i < b.names.length) (h1 : i < b.vals.length) (h : memB a.names b.names[i] = true) : selE a b (i + 1) = selE a b i := by
  unfold selE
  have hl : i < (b.names.zip b.vals).length := by rw [List.length_zip]; omega
  rw [List.take_succ_eq_append_getElem hl, List.filter_append, List.getElem_zip, List.filter_cons, if_neg (by rw [h]; decide)]
  simp
end Go.Proofs.Ytmchgmpdhfefjaa

namespace Go.Proofs.Ytmchgmpdhfefjaa
open Go.RowKit
open Go.ChangeShapes Go.WideShapes Go.ChangeAt Go.Deep

theorem szStrs_mem {xs : List ByteArray} {y : ByteArray} (h : y ∈ xs) : y.size ≤ szStrs xs := by
  unfold szStrs
  have h2 : ∀ l : List ByteArray, y ∈ l → y.size ≤ (l.map ByteArray.size).sum := fun l => by
    induction l with
    | nil => intro h; cases h
    | cons a l ih =>
      intro h
      rcases List.mem_cons.1 h with rfl | h
      · simp
      · have := ih h
        simp
        omega
  have := h2 _ h
  omega
end Go.Proofs.Ytmchgmpdhfefjaa

namespace Go.Proofs.Ytmchgmpdhfefjaa
open Go.RowKit

end Go.Proofs.Ytmchgmpdhfefjaa

namespace Go.Proofs.Ytmchgmpdhfefjaa
open Go.RowKit

/-- A call of a Go function by its contract, as one step of a region that draws. -/
theorem step_call {P : Program} {W : World} {ops : Array Oper} {o : Oper} {a : Act} {K : Act → World → Prop} {Q : Exit → Act → World → Prop} {E : Prop} (hgd : o.guard = none) (f : FuncId) (args : Array Value)
    (hrun : (execOp a.eval o).run P W = .ok (.enter f args) W) {R : Ending → World → Prop} (hc : Calls P f args W R) (h : ∀ e w', R e w' → ∃ v, e = .returned v ∧ K (a.put o.dst v) w') :
    if Region.wanted o (yielded ops a.tmps) = true then Oper.wp P o a W K Q else E := by
  have hw : Region.wanted o (yielded ops a.tmps) = true := by simp [Region.wanted, hgd]
  rw [if_pos hw]
  unfold Oper.wp
  rw [hrun, Oper.upon_enter]
  refine hc.mono fun e w' hR => ?_
  obtain ⟨v, rfl, hk⟩ := h e w' hR
  exact hk
/-- One of a row of numbers that was made for it is drawn, a little later. -/
theorem pickInt_in (w W : World) (base g : Nat) (xs : List Int) (t : TypeId) (h0 : 0 < xs.length) (hn : xs.length ≤ 1000) (C : Cur w base g) (hb : Below (w.heap.size + 1) (w.alloc (.cells (xs.map (Value.int .i64)).toArray t)) W) :
    Calls Try.prog 23 #[.pointer (some ⟨g, 0, none⟩), .slice (some ⟨w.heap.size, 0, none⟩) xs.length xs.length] W fun e w' => ∃ x, x ∈ xs ∧ e = .returned (.int .i64 x) ∧ Far g w w' ∧ Cur w' base g := by
  have hsz : (w.alloc (.cells (xs.map (Value.int .i64)).toArray t)).heap.size = w.heap.size + 1 := by simp
  have hlt := C.lt
  have hbw : Below w.heap.size w W := ((Below.refl _ _).alloc (Nat.le_refl _) _).trans (hb.mono (by omega))
  refine (pickInt_any _ base g w.heap.size xs.length xs.length (fun j => xs.getD j 0) h0 hn (by omega) (by have := hb.size; omega) (fun j hj => (hb.cell (p := ⟨w.heap.size, j, none⟩) (by show w.heap.size < w.heap.size + 1; omega)).trans (row_cells w xs t j hj)) (C.below (hbw.mono hlt))).mono ?_
  rintro e w' ⟨j, hj, rfl, hf, hc⟩
  exact ⟨_, by simp [List.getD, hj], rfl, (Far.ofBelow hbw).trans hf, hc⟩
theorem box_low {B e : Nat} {W w' : World} {v v' u : Value} {xs : List Value} (hm : MoreR B e W v xs u v' w') {b : Nat} {cs : Array Value} {T : TypeId} (hown : W.ownsRow B e 1 v xs.length xs) (hb : Box W b cs T) (hB : b < B) : Box w' b cs T :=
  (hm.oth b (fun h => by have := (hown.lt b h).1; omega) hb.lt).trans hb
theorem box_far {g : Nat} {w w' : World} (h : Far g w w') {b : Nat} {cs : Array Value} {T : TypeId} (hb : Box w b cs T) (hg : b ≠ g) : Box w' b cs T := (h.far b hg hb.lt).trans hb
theorem EvOwn.far {B g : Nat} {w w' : World} {v0 v1 : Value} {x : Ev} (h : EvOwn B w v0 v1 x) (hf : Far g w w') (hg : g < B) : EvOwn B w' v0 v1 x := ⟨ownsRow_far h.o0 hf hg, ownsRow_far h.o1 hf hg, h.ap⟩
def nm5 : List ByteArray := [⟨#[118]⟩, ⟨#[119]⟩, ⟨#[110]⟩, ⟨#[120]⟩, resultN]
def vl6 : List Int := [0, 1, 2, -3, 1000, 999999]
def nmV : Array Value := #[.string ⟨#[118]⟩, .string ⟨#[119]⟩, .string ⟨#[110]⟩, .string ⟨#[120]⟩, .string ⟨#[114, 101, 115, 117, 108, 116]⟩]
theorem nmV_at {z : World} {q i : Nat} (h : Box z q nmV 9) (hi : i < 5) : z.cell? ⟨q, i, none⟩ = some (.string (nm5.getD i default)) := by
  rw [Lib.cell_of_heap h i]
  have : i = 0 ∨ i = 1 ∨ i = 2 ∨ i = 3 ∨ i = 4 := by omega
  rcases this with rfl | rfl | rfl | rfl | rfl <;> rfl
/-- The Envs that are drawn: so many names, a value for each. -/
structure Dr5 (x : Ev) (k : Nat) : Prop where
  n : x.names = nm5.take k
  v : x.vals.length = k
  m : ∀ u ∈ x.vals, u ∈ vl6
  le : k ≤ 5
theorem Dr5.more {x : Ev} {i : Nat} (h : Dr5 x i) (hi : i < 5) {u : Int} (hu : u ∈ vl6) : Dr5 ⟨x.names ++ [nm5.getD i default], x.vals ++ [u]⟩ (i + 1) := by
  refine ⟨?_, by rw [List.length_append, h.v]; rfl, fun k hk => ?_, by omega⟩
  · show x.names ++ _ = _
    rw [h.n, List.take_succ_eq_append_getElem (by show i < 5; exact hi), List.getD_eq_getElem?_getD, List.getElem?_eq_getElem (by show i < 5; exact hi)]
    rfl
  · rcases List.mem_append.1 hk with h1 | h1
    · exact h.m k h1
    · rw [List.mem_singleton.1 h1]; exact hu

end Go.Proofs.Ytmchgmpdhfefjaa
