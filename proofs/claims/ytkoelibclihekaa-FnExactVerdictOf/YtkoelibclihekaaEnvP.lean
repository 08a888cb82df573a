/-
  What an Env says: as functions.
-/
import Derived.Test.YtkoelibclihekaaFlE
import Derived.Test.YtkoelibclihekaaCopP
import Derived.Test.YtkoelibclihekaaMatP
import Derived.BigQuiet
import Derived.Test.YtkoelibclihekaaChecked
import Derived.WalkSmall
namespace Go.Proofs.Ytkoelibclihekaa
open Go.RowKit

/-- Where a name stands first, with a value beside it. -/
def atE (x : Ev) (s : ByteArray) : Int := firstAt (fun y => decide (y = s)) (x.names.take x.vals.length)
def getE (x : Ev) (s : ByteArray) : Int := if 0 ≤ atE x s then x.vals.getD (atE x s).toNat 0 else 0
def putE (x : Ev) (s : ByteArray) (n : Int) : Ev := if vok n = true ∧ 0 ≤ atE x s then { x with vals := x.vals.set (atE x s).toNat n } else x
/-- Those of the first so many of b that a has not. -/
def selE (a b : Ev) (i : Nat) : List (ByteArray × Int) := ((b.names.zip b.vals).take i).filter fun p => !memB a.names p.1
def togTo (a b : Ev) (i : Nat) : Ev := ⟨a.names ++ (selE a b i).map Prod.fst, a.vals ++ (selE a b i).map Prod.snd⟩
def togE (a b : Ev) : Ev := togTo a b (min b.names.length b.vals.length)
noncomputable def envOkB (x : Ev) : Bool := decide (x.names.length = x.vals.length) && decide (x.names.length ≤ 8) &&
  (List.range x.names.length).all fun i => nameB (x.names.getD i default) && vok (x.vals.getD i 0) && !memB (x.names.take i) (x.names.getD i default)
theorem putE_len {x : Ev} (h : szEv x ≤ 1048576) (s : ByteArray) (n : Int) : EvLen (putE x s n) := by
  have := szEv_len h
  unfold putE
  split
  · exact ⟨this.l0, by rw [List.length_set]; exact this.l1⟩
  · exact this
theorem selE_len (a b : Ev) (i : Nat) : (selE a b i).length ≤ i := by
  unfold selE
  have h1 := List.length_filter_le (fun p : ByteArray × Int => !memB a.names p.1) ((b.names.zip b.vals).take i)
  rw [List.length_take] at h1
  omega
theorem togE_len {a b : Ev} (h : szEv a + szEv b ≤ 1048576) : EvLen (togE a b) := by
  have h1 := selE_len a b (min b.names.length b.vals.length)
  unfold szEv szStrs at h
  refine ⟨?_, ?_⟩
  · show (a.names ++ _).length ≤ _
    rw [List.length_append, List.length_map]
    omega
  · show (a.vals ++ _).length ≤ _
    rw [List.length_append, List.length_map]
    omega
end Go.Proofs.Ytkoelibclihekaa

namespace Go.Proofs.Ytkoelibclihekaa
open Go.RowKit

structure CpEv (w W : World) (a : Array Value) (z : World) : Prop where
  bA : Box z w.heap.size a 61
  bR : ∃ r0 r1, Box z (w.heap.size + 1) #[r0, r1] 61
  bel : Below w.heap.size w z
  le : w.heap.size + 2 ≤ z.heap.size
theorem CpEv.go {w W : World} {a : Array Value} {z z' : World} (h : CpEv w W a z) (hb : Below (w.heap.size + 2) z z') : CpEv w W a z' :=
  ⟨(hb.block _ (by omega)).trans h.bA, by
    obtain ⟨r0, r1, hr⟩ := h.bR
    exact ⟨r0, r1, (hb.block _ (by omega)).trans hr⟩, h.bel.trans (hb.mono (by omega)), Nat.le_trans h.le hb.size⟩
theorem CpEv.store {w W : World} {a : Array Value} {z : World} (h : CpEv w W a z) (t0 t1 : Value) : CpEv w W a (((z.setCell ⟨w.heap.size + 1, 0, none⟩ t0).setCell ⟨w.heap.size + 1, 1, none⟩ t1)) ∧ Box (((z.setCell ⟨w.heap.size + 1, 0, none⟩ t0).setCell ⟨w.heap.size + 1, 1, none⟩ t1)) (w.heap.size + 1) #[t0, t1] 61 := by
  obtain ⟨r0, r1, hr⟩ := h.bR
  have hs : Box (((z.setCell ⟨w.heap.size + 1, 0, none⟩ t0).setCell ⟨w.heap.size + 1, 1, none⟩ t1)) (w.heap.size + 1) #[t0, t1] 61 := by simpa using ((hr.set 0 t0).set 1 t1)
  refine ⟨⟨?_, ⟨t0, t1, hs⟩, ?_, ?_⟩, hs⟩
  · exact ((h.bA.other ⟨w.heap.size + 1, 0, none⟩ t0 (by show w.heap.size ≠ _; simp)).other ⟨w.heap.size + 1, 1, none⟩ t1 (by show w.heap.size ≠ _; simp))
  · exact ((h.bel.setCell (p := ⟨w.heap.size + 1, 0, none⟩) (by show w.heap.size ≤ w.heap.size + 1; omega) t0).setCell (p := ⟨w.heap.size + 1, 1, none⟩) (by show w.heap.size ≤ w.heap.size + 1; omega) t1)
  · have := h.le
    simpa [World.setCell] using this

end Go.Proofs.Ytkoelibclihekaa

namespace Go.Proofs.Ytkoelibclihekaa
open Go.RowKit

def eqS (s y : ByteArray) : Bool := decide (y = s)
def GeR (W : World) (x : Ev) (s : ByteArray) (iv : Value) (wr : World) : Prop := ∃ i : Nat, i ≤ (x.names.take x.vals.length).length ∧ iv = .int .i64 i ∧ wr = W ∧ Hid (NoneTo (eqS s) (x.names.take x.vals.length) i)
theorem str_cmp (x s : ByteArray) : (x.toList == s.toList) = eqS s x := by
  by_cases h : x = s
  · rw [eqS, decide_eq_true h]; exact str_beq.2 h
  · rw [eqS, decide_eq_false h, Bool.eq_false_iff]; exact fun q => h (str_beq.1 q)

end Go.Proofs.Ytkoelibclihekaa

namespace Go.Proofs.Ytkoelibclihekaa
open Go.RowKit

/-- While an Env is put together: what came in, the result, the copy under way. -/
structure PuZ (w : World) (v0 v1 : Value) (G : Nat) (r0 r1 : Value) (x : Ev) (z : World) : Prop where
  bA : Box z w.heap.size #[v0, v1] 61
  bR : ∃ a b, Box z (w.heap.size + 1) #[a, b] 61
  bO : Box z G #[r0, r1] 61
  own : EvOwn (w.heap.size + 2) z r0 r1 x
  bel : Below w.heap.size w z
theorem PuZ.fin {w : World} {v0 v1 : Value} {G : Nat} {r0 r1 : Value} {x : Ev} {z : World} (h : PuZ w v0 v1 G r0 r1 x z) :
    Box ((z.setCell ⟨w.heap.size + 1, 0, none⟩ r0).setCell ⟨w.heap.size + 1, 1, none⟩ r1) (w.heap.size + 1) #[r0, r1] 61 ∧ EvOwn w.heap.size ((z.setCell ⟨w.heap.size + 1, 0, none⟩ r0).setCell ⟨w.heap.size + 1, 1, none⟩ r1) r0 r1 x ∧ Below w.heap.size w ((z.setCell ⟨w.heap.size + 1, 0, none⟩ r0).setCell ⟨w.heap.size + 1, 1, none⟩ r1) := by
  obtain ⟨a, b, hr⟩ := h.bR
  have e : ∀ g, w.heap.size + 2 ≤ g → ((z.setCell ⟨w.heap.size + 1, 0, none⟩ r0).setCell ⟨w.heap.size + 1, 1, none⟩ r1).heap[g]? = z.heap[g]? := fun g hg =>
    (Below.heap_setCell _ ⟨w.heap.size + 1, 1, none⟩ _ g (by show g ≠ w.heap.size + 1; omega)).trans (Below.heap_setCell _ ⟨w.heap.size + 1, 0, none⟩ _ g (by show g ≠ w.heap.size + 1; omega))
  refine ⟨by simpa using (hr.set 0 r0).set 1 r1, ⟨owns_lo (owns_eq h.own.o0 fun g hg => e g (h.own.o0.lt g hg).1) (by omega), owns_lo (owns_eq h.own.o1 fun g hg => e g (h.own.o1.lt g hg).1) (by omega), h.own.ap⟩, (h.bel.setCell (p := ⟨w.heap.size + 1, 0, none⟩) (by show w.heap.size ≤ w.heap.size + 1; omega) r0).setCell (p := ⟨w.heap.size + 1, 1, none⟩) (by show w.heap.size ≤ w.heap.size + 1; omega) r1⟩
def PuR (W : World) (x : Ev) (F : Nat → Prop) (iv : Value) (wr : World) : Prop := ∃ i : Nat, i ≤ (x.names.take x.vals.length).length ∧ iv = .int .i64 i ∧ wr = W ∧ Hid (F i)

end Go.Proofs.Ytkoelibclihekaa

namespace Go.Proofs.Ytkoelibclihekaa
open Go.RowKit

def InR (w : World) (xs : List ByteArray) (s : ByteArray) (n : Nat) (iv : Value) (wr : World) : Prop := ∃ i : Nat, i ≤ n ∧ iv = .int .i64 i ∧ wr = w ∧ Hid (∀ j, j < i → xs[j]? ≠ some s)

end Go.Proofs.Ytkoelibclihekaa

namespace Go.Proofs.Ytkoelibclihekaa
open Go.RowKit

structure ToZ (w : World) (va0 va1 vb0 vb1 : Value) (G : Nat) (r0 r1 : Value) (y : Ev) (z : World) : Prop where
  bA : Box z w.heap.size #[va0, va1] 61
  bB : Box z (w.heap.size + 1) #[vb0, vb1] 61
  bR : ∃ a b, Box z (w.heap.size + 2) #[a, b] 61
  bO : Box z G #[r0, r1] 61
  own : EvOwn (w.heap.size + 3) z r0 r1 y
  bel : Below w.heap.size w z
  gl : w.heap.size + 3 ≤ G
theorem ToZ.stays {w : World} {va0 va1 vb0 vb1 : Value} {G : Nat} {r0 r1 : Value} {y : Ev} {z z' : World} (h : ToZ w va0 va1 vb0 vb1 G r0 r1 y z) (hb : Below z.heap.size z z') : ToZ w va0 va1 vb0 vb1 G r0 r1 y z' :=
  ⟨h.bA.stays hb, h.bB.stays hb, by obtain ⟨a, b, hr⟩ := h.bR; exact ⟨a, b, hr.stays hb⟩, h.bO.stays hb, h.own.stays hb, h.bel.trans (hb.mono h.bel.size), h.gl⟩
theorem box_more {B e : Nat} {W w' : World} {v v' u : Value} {xs : List Value} (hm : MoreR B e W v xs u v' w') {b : Nat} {cs : Array Value} {T : TypeId} (hown : W.ownsRow B e 1 v xs.length xs) (hb : Box W b cs T) (hT : T ≠ e) : Box w' b cs T := (hm.oth b (Lib.ownBlock_ne hown hb hT) hb.lt).trans hb
theorem set_fst (a b v : Value) : (#[a, b] : Array Value).setIfInBounds 0 v = #[v, b] := rfl
theorem set_snd (a b v : Value) : (#[a, b] : Array Value).setIfInBounds 1 v = #[a, v] := rfl
/-- A name more. -/
theorem ToZ.name {w : World} {va0 va1 vb0 vb1 : Value} {G : Nat} {r0 r1 : Value} {y : Ev} {W w' : World} {s : ByteArray} {v' : Value} (h : ToZ w va0 va1 vb0 vb1 G r0 r1 y W) (hm : MoreR (w.heap.size + 3) 9 W r0 (y.names.map S) (.string s) v' w') :
    ToZ w va0 va1 vb0 vb1 G v' r1 ⟨y.names ++ [s], y.vals⟩ (w'.setCell ⟨G, 0, none⟩ v') := by
  have ho : W.ownsRow (w.heap.size + 3) 9 1 r0 (y.names.map S).length (y.names.map S) := by rw [List.length_map]; exact h.own.o0
  have hG := box_more hm ho h.bO (by decide)
  have hgl := h.gl
  have e1 : EvOwn (w.heap.size + 3) w' v' r1 ⟨y.names ++ [s], y.vals⟩ := by
    refine ⟨?_, owns_eq h.own.o1 fun g hg => hm.oth g (fun e => h.own.ap g e hg) (h.own.o1.lt g hg).2, fun i hi hi1 => ?_⟩
    · have := hm.own
      rw [List.length_map] at this
      show World.ownsRow _ _ _ _ _ (y.names ++ [s]).length ((y.names ++ [s]).map S)
      rw [List.length_append, List.map_append]
      exact this
    · rcases hm.pos with e | e
      · exact h.own.ap i (by rw [← e]; exact hi) hi1
      · rw [hi] at e
        injection e with e
        have := (h.own.o1.lt i hi1).2
        omega
  refine ⟨(box_more hm ho h.bA (by decide)).other _ _ (by show w.heap.size ≠ G; omega), (box_more hm ho h.bB (by decide)).other _ _ (by show w.heap.size + 1 ≠ G; omega), ?_, ?_, e1.boxed hG (by decide) (by decide) _, (h.bel.trans (hm.bel.mono (by omega))).setCell (p := ⟨G, 0, none⟩) (by show w.heap.size ≤ G; omega) _, hgl⟩
  · obtain ⟨a, b, hr⟩ := h.bR
    exact ⟨a, b, (box_more hm ho hr (by decide)).other _ _ (by show w.heap.size + 2 ≠ G; omega)⟩
  · have := hG.set 0 v'
    rw [set_fst] at this
    exact this
/-- A value more. -/
theorem ToZ.val {w : World} {va0 va1 vb0 vb1 : Value} {G : Nat} {r0 r1 : Value} {y : Ev} {W w' : World} {k : Int} {v' : Value} (h : ToZ w va0 va1 vb0 vb1 G r0 r1 y W) (hm : MoreR (w.heap.size + 3) 3 W r1 (y.vals.map I64) (.int .i64 k) v' w') :
    ToZ w va0 va1 vb0 vb1 G r0 v' ⟨y.names, y.vals ++ [k]⟩ (w'.setCell ⟨G, 1, none⟩ v') := by
  have ho : W.ownsRow (w.heap.size + 3) 3 1 r1 (y.vals.map I64).length (y.vals.map I64) := by rw [List.length_map]; exact h.own.o1
  have hG := box_more hm ho h.bO (by decide)
  have hgl := h.gl
  have e1 : EvOwn (w.heap.size + 3) w' r0 v' ⟨y.names, y.vals ++ [k]⟩ := by
    refine ⟨owns_eq h.own.o0 fun g hg => hm.oth g (h.own.ap g hg) (h.own.o0.lt g hg).2, ?_, fun i hi hi1 => ?_⟩
    · have := hm.own
      rw [List.length_map] at this
      show World.ownsRow _ _ _ _ _ (y.vals ++ [k]).length ((y.vals ++ [k]).map I64)
      rw [List.length_append, List.map_append]
      exact this
    · rcases hm.pos with e | e
      · exact h.own.ap i hi (by rw [← e]; exact hi1)
      · rw [hi1] at e
        injection e with e
        have := (h.own.o0.lt i hi).2
        omega
  refine ⟨(box_more hm ho h.bA (by decide)).other _ _ (by show w.heap.size ≠ G; omega), (box_more hm ho h.bB (by decide)).other _ _ (by show w.heap.size + 1 ≠ G; omega), ?_, ?_, e1.boxed hG (by decide) (by decide) _, (h.bel.trans (hm.bel.mono (by omega))).setCell (p := ⟨G, 1, none⟩) (by show w.heap.size ≤ G; omega) _, hgl⟩
  · obtain ⟨a, b, hr⟩ := h.bR
    exact ⟨a, b, (box_more hm ho hr (by decide)).other _ _ (by show w.heap.size + 2 ≠ G; omega)⟩
  · have := hG.set 1 v'
    rw [set_snd] at this
    exact this
theorem ToZ.fin {w : World} {va0 va1 vb0 vb1 : Value} {G : Nat} {r0 r1 : Value} {y : Ev} {z : World} (h : ToZ w va0 va1 vb0 vb1 G r0 r1 y z) :
    Box ((z.setCell ⟨w.heap.size + 2, 0, none⟩ r0).setCell ⟨w.heap.size + 2, 1, none⟩ r1) (w.heap.size + 2) #[r0, r1] 61 ∧ EvOwn w.heap.size ((z.setCell ⟨w.heap.size + 2, 0, none⟩ r0).setCell ⟨w.heap.size + 2, 1, none⟩ r1) r0 r1 y ∧ Below w.heap.size w ((z.setCell ⟨w.heap.size + 2, 0, none⟩ r0).setCell ⟨w.heap.size + 2, 1, none⟩ r1) := by
  obtain ⟨a, b, hr⟩ := h.bR
  have e : ∀ g, w.heap.size + 3 ≤ g → ((z.setCell ⟨w.heap.size + 2, 0, none⟩ r0).setCell ⟨w.heap.size + 2, 1, none⟩ r1).heap[g]? = z.heap[g]? := fun g hg =>
    (Below.heap_setCell _ ⟨w.heap.size + 2, 1, none⟩ _ g (by show g ≠ w.heap.size + 2; omega)).trans (Below.heap_setCell _ ⟨w.heap.size + 2, 0, none⟩ _ g (by show g ≠ w.heap.size + 2; omega))
  refine ⟨by simpa using (hr.set 0 r0).set 1 r1, ⟨owns_lo (owns_eq h.own.o0 fun g hg => e g (h.own.o0.lt g hg).1) (by omega), owns_lo (owns_eq h.own.o1 fun g hg => e g (h.own.o1.lt g hg).1) (by omega), h.own.ap⟩, (h.bel.setCell (p := ⟨w.heap.size + 2, 0, none⟩) (by show w.heap.size ≤ w.heap.size + 2; omega) r0).setCell (p := ⟨w.heap.size + 2, 1, none⟩) (by show w.heap.size ≤ w.heap.size + 2; omega) r1⟩
end Go.Proofs.Ytkoelibclihekaa
