/-
  Two Envs put together by the specification: the state and its steps.
-/
import Derived.Test.YtkoelibclihekaaRuneP
import Derived.Test.YtkoelibclihekaaMdlM
import Derived.Test.YtkoelibclihekaaCopG
import Derived.Deep.CutRange
import Derived.Deep.RegionLaw
namespace Go.Proofs.Ytkoelibclihekaa
open Go.RowKit

structure ToZ (w : World) (va0 va1 vb0 vb1 : Value) (G : Nat) (r0 r1 : Value) (y : Ev) (z : World) : Prop where
  bA : Box z w.heap.size #[va0, va1] 61
  bB : Box z (w.heap.size + 1) #[vb0, vb1] 61
  bR : ∃ a b, Box z (w.heap.size + 2) #[a, b] 61
  bO : Box z G #[r0, r1] 61
  own : EvOwn (w.heap.size + 3) z r0 r1 y
  bel : Below w.heap.size w z
  gl : w.heap.size + 3 ≤ G
theorem ToZ.stays {w : World} {va0 va1 vb0 vb1 : Value} {G : Nat} {r0 r1 : Value} {y : Ev} {z z' : World} (h : ToZ w va0 va1 vb0 vb1 G r0 r1 y z) (hb : Below z.heap.size z z') : ToZ w va0 va1 vb0 vb1 G r0 r1 y z' :=
  ⟨h.bA.stays hb, h.bB.stays hb, by obtain ⟨a, b, hr⟩ := h.bR; exact ⟨a, b, hr.stays hb⟩, h.bO.stays hb, h.own.stays hb, h.bel.trans (hb.mono h.bel.size), h.gl⟩
theorem box_more {B e : Nat} {W w' : World} {v v' u : Value} {xs : List Value} (hm : MoreR B e W v xs u v' w') {b : Nat} {cs : Array Value} {T : TypeId} (hown : W.ownsRow B e 1 v xs.length xs) (hb : Box W b cs T) (hT : T ≠ e) : Box w' b cs T := (hm.oth b (Lib.ownBlock_ne hown hb hT) hb.lt).trans hb
theorem set_fst (a b v : Value) : (#[a, b] : Array Value).setIfInBounds 0 v = #[v, b] := rfl
theorem set_snd (a b v : Value) : (#[a, b] : Array Value).setIfInBounds 1 v = #[a, v] := rfl
/-- A name more. -/
theorem ToZ.name {w : World} {va0 va1 vb0 vb1 : Value} {G : Nat} {r0 r1 : Value} {y : Ev} {W w' : World} {s : ByteArray} {v' : Value} (h : ToZ w va0 va1 vb0 vb1 G r0 r1 y W) (hm : MoreR (w.heap.size + 3) 9 W r0 (y.names.map S) (.string s) v' w') :
    ToZ w va0 va1 vb0 vb1 G v' r1 ⟨y.names ++ [s], y.vals⟩ (w'.setCell ⟨G, 0, none⟩ v') := by
  have ho : W.ownsRow (w.heap.size + 3) 9 1 r0 (y.names.map S).length (y.names.map S) := by rw [List.length_map]; exact h.own.o0
  have hG := box_more hm ho h.bO (by decide)
  have hgl := h.gl
  have e1 : EvOwn (w.heap.size + 3) w' v' r1 ⟨y.names ++ [s], y.vals⟩ := by
    refine ⟨?_, owns_eq h.own.o1 fun g hg => hm.oth g (fun e => h.own.ap g e hg) (h.own.o1.lt g hg).2, fun i hi hi1 => ?_⟩
    · have := hm.own
      rw [List.length_map] at this
      show World.ownsRow _ _ _ _ _ (y.names ++ [s]).length ((y.names ++ [s]).map S)
      rw [List.length_append, List.map_append]
      exact this
    · rcases hm.pos with e | e
      · exact h.own.ap i (by rw [← e]; exact hi) hi1
      · rw [hi] at e
        injection e with e
        have := (h.own.o1.lt i hi1).2
        omega
  refine ⟨(box_more hm ho h.bA (by decide)).other _ _ (by show w.heap.size ≠ G; omega), (box_more hm ho h.bB (by decide)).other _ _ (by show w.heap.size + 1 ≠ G; omega), ?_, ?_, e1.boxed hG (by decide) (by decide) _, (h.bel.trans (hm.bel.mono (by omega))).setCell (p := ⟨G, 0, none⟩) (by show w.heap.size ≤ G; omega) _, hgl⟩
  · obtain ⟨a, b, hr⟩ := h.bR
    exact ⟨a, b, (box_more hm ho hr (by decide)).other _ _ (by show w.heap.size + 2 ≠ G; omega)⟩
  · have := hG.set 0 v'
    rw [set_fst] at this
    exact this
/-- A value more. -/
theorem ToZ.val {w : World} {va0 va1 vb0 vb1 : Value} {G : Nat} {r0 r1 : Value} {y : Ev} {W w' : World} {k : Int} {v' : Value} (h : ToZ w va0 va1 vb0 vb1 G r0 r1 y W) (hm : MoreR (w.heap.size + 3) 3 W r1 (y.vals.map I64) (.int .i64 k) v' w') :
    ToZ w va0 va1 vb0 vb1 G r0 v' ⟨y.names, y.vals ++ [k]⟩ (w'.setCell ⟨G, 1, none⟩ v') := by
  have ho : W.ownsRow (w.heap.size + 3) 3 1 r1 (y.vals.map I64).length (y.vals.map I64) := by rw [List.length_map]; exact h.own.o1
  have hG := box_more hm ho h.bO (by decide)
  have hgl := h.gl
  have e1 : EvOwn (w.heap.size + 3) w' r0 v' ⟨y.names, y.vals ++ [k]⟩ := by
    refine ⟨owns_eq h.own.o0 fun g hg => hm.oth g (h.own.ap g hg) (h.own.o0.lt g hg).2, ?_, fun i hi hi1 => ?_⟩
    · have := hm.own
      rw [List.length_map] at this
      show World.ownsRow _ _ _ _ _ (y.vals ++ [k]).length ((y.vals ++ [k]).map I64)
      rw [List.length_append, List.map_append]
      exact this
    · rcases hm.pos with e | e
      · exact h.own.ap i hi (by rw [← e]; exact hi1)
      · rw [hi1] at e
        injection e with e
        have := (h.own.o0.lt i hi).2
        omega
  refine ⟨(box_more hm ho h.bA (by decide)).other _ _ (by show w.heap.size ≠ G; omega), (box_more hm ho h.bB (by decide)).other _ _ (by show w.heap.size + 1 ≠ G; omega), ?_, ?_, e1.boxed hG (by decide) (by decide) _, (h.bel.trans (hm.bel.mono (by omega))).setCell (p := ⟨G, 1, none⟩) (by show w.heap.size ≤ G; omega) _, hgl⟩
  · obtain ⟨a, b, hr⟩ := h.bR
    exact ⟨a, b, (box_more hm ho hr (by decide)).other _ _ (by show w.heap.size + 2 ≠ G; omega)⟩
  · have := hG.set 1 v'
    rw [set_snd] at this
    exact this
theorem ToZ.fin {w : World} {va0 va1 vb0 vb1 : Value} {G : Nat} {r0 r1 : Value} {y : Ev} {z : World} (h : ToZ w va0 va1 vb0 vb1 G r0 r1 y z) :
    Box ((z.setCell ⟨w.heap.size + 2, 0, none⟩ r0).setCell ⟨w.heap.size + 2, 1, none⟩ r1) (w.heap.size + 2) #[r0, r1] 61 ∧ EvOwn w.heap.size ((z.setCell ⟨w.heap.size + 2, 0, none⟩ r0).setCell ⟨w.heap.size + 2, 1, none⟩ r1) r0 r1 y ∧ Below w.heap.size w ((z.setCell ⟨w.heap.size + 2, 0, none⟩ r0).setCell ⟨w.heap.size + 2, 1, none⟩ r1) := by
  obtain ⟨a, b, hr⟩ := h.bR
  have e : ∀ g, w.heap.size + 3 ≤ g → ((z.setCell ⟨w.heap.size + 2, 0, none⟩ r0).setCell ⟨w.heap.size + 2, 1, none⟩ r1).heap[g]? = z.heap[g]? := fun g hg =>
    (Below.heap_setCell _ ⟨w.heap.size + 2, 1, none⟩ _ g (by show g ≠ w.heap.size + 2; omega)).trans (Below.heap_setCell _ ⟨w.heap.size + 2, 0, none⟩ _ g (by show g ≠ w.heap.size + 2; omega))
  refine ⟨by simpa using (hr.set 0 r0).set 1 r1, ⟨owns_lo (owns_eq h.own.o0 fun g hg => e g (h.own.o0.lt g hg).1) (by omega), owns_lo (owns_eq h.own.o1 fun g hg => e g (h.own.o1.lt g hg).1) (by omega), h.own.ap⟩, (h.bel.setCell (p := ⟨w.heap.size + 2, 0, none⟩) (by show w.heap.size ≤ w.heap.size + 2; omega) r0).setCell (p := ⟨w.heap.size + 2, 1, none⟩) (by show w.heap.size ≤ w.heap.size + 2; omega) r1⟩
end Go.Proofs.Ytkoelibclihekaa

namespace Go.Proofs.Ytkoelibclihekaa
open Go.RowKit
open Go.ChangeShapes Go.WideShapes Go.ChangeAt Go.Deep

set_option maxRecDepth 100000 in
theorem gt_of {H : Type} {enc : TypeId × Value → H} {W : World} {base : Nat} {v : Value} {d : DataW H} {ps : List MemPlace}
    (ho : Value.okWide Try.prog W .any base 95 v) (h : DataW.Trod enc Try.prog W 0 (fun _ => true) true 95 v d ps) : ∃ v1 v2 x, v = .agg #[.int .i64 x.owner, v1, v2] ∧ GtAt W v1 v2 x ∧ GtMax x := by
  obtain ⟨cs, rfl, _⟩ := okWide_struct Try.underlying95 ho
  obtain ⟨fuel, hf⟩ := h
  obtain ⟨v1, v2, x, e, h1⟩ := opens_Gt _ _ _ hf
  have e2 : cs = #[.int .i64 x.owner, v1, v2] := by
    have : cs.toList = [.int .i64 x.owner, v1, v2] := e
    rw [← Array.toList_inj]
    exact this
  subst e2
  exact ⟨v1, v2, x, rfl, h1⟩

def neg1 : Value := .int .i64 (-1)
/-- While a gate is made. -/
structure GnZ (w : World) (r : Value) (k : Nat) (z : World) : Prop where
  bR : ∃ a b c, Box z w.heap.size #[a, b, c] 101
  bO : Box z (w.heap.size + 1) #[.int .i64 (-1), .slice none 0 0, r] 101
  own : z.ownsRow (w.heap.size + 2) 3 1 r (List.replicate k neg1).length (List.replicate k neg1)
  bel : Below w.heap.size w z
theorem GnZ.stays {w : World} {r : Value} {k : Nat} {z z' : World} (h : GnZ w r k z) (hb : Below z.heap.size z z') : GnZ w r k z' :=
  ⟨by obtain ⟨a, b, c, hr⟩ := h.bR; exact ⟨a, b, c, hr.stays hb⟩, h.bO.stays hb, owns_eq h.own fun g hg => hb.block g (h.own.lt g hg).2, h.bel.trans (hb.mono h.bel.size)⟩
theorem set_thd (a b c v : Value) : (#[a, b, c] : Array Value).setIfInBounds 2 v = #[a, b, v] := rfl
theorem GnZ.more {w : World} {r : Value} {k : Nat} {W w' : World} {v' : Value} (h : GnZ w r k W) (hm : MoreR (w.heap.size + 2) 3 W r (List.replicate k neg1) (.int .i64 (-1)) v' w') :
    GnZ w v' (k + 1) (w'.setCell ⟨w.heap.size + 1, 2, none⟩ v') := by
  have hO := box_more hm h.own h.bO (by decide)
  refine ⟨?_, ?_, ?_, (h.bel.trans (hm.bel.mono (by omega))).setCell (p := ⟨w.heap.size + 1, 2, none⟩) (by show w.heap.size ≤ w.heap.size + 1; omega) _⟩
  · obtain ⟨a, b, c, hr⟩ := h.bR
    exact ⟨a, b, c, (box_more hm h.own hr (by decide)).other _ _ (by show w.heap.size ≠ w.heap.size + 1; omega)⟩
  · have := hO.set 2 v'
    rw [set_thd] at this
    exact this
  · have h1 := hm.own
    rw [show (List.replicate k neg1 ++ [.int .i64 (-1)] : List Value) = List.replicate (k + 1) neg1 from (List.replicate_succ' (n := k) (a := neg1)).symm] at h1
    have h2 : (List.replicate k neg1).length + 1 = (List.replicate (k + 1) neg1).length := by simp
    rw [h2] at h1
    exact owns_eq h1 fun g hg => Below.heap_setCell _ ⟨w.heap.size + 1, 2, none⟩ _ g (fun e => by have := (h1.lt g hg).1; show False; have e' : g = w.heap.size + 1 := e; omega)
theorem GnZ.fin {w : World} {r : Value} {k : Nat} {z : World} (h : GnZ w r k z) :
    Box (((z.setCell ⟨w.heap.size, 0, none⟩ (.int .i64 (-1))).setCell ⟨w.heap.size, 1, none⟩ (.slice none 0 0)).setCell ⟨w.heap.size, 2, none⟩ r) w.heap.size #[.int .i64 (-1), .slice none 0 0, r] 101 ∧
    GtOwn w.heap.size (((z.setCell ⟨w.heap.size, 0, none⟩ (.int .i64 (-1))).setCell ⟨w.heap.size, 1, none⟩ (.slice none 0 0)).setCell ⟨w.heap.size, 2, none⟩ r) (.slice none 0 0) r ⟨-1, [], List.replicate k (-1)⟩ ∧
    Below w.heap.size w (((z.setCell ⟨w.heap.size, 0, none⟩ (.int .i64 (-1))).setCell ⟨w.heap.size, 1, none⟩ (.slice none 0 0)).setCell ⟨w.heap.size, 2, none⟩ r) := by
  obtain ⟨a, b, c, hr⟩ := h.bR
  refine ⟨by simpa using ((hr.set 0 (.int .i64 (-1))).set 1 (.slice none 0 0)).set 2 r, ⟨⟨rfl, .inl ⟨rfl, rfl⟩⟩, ?_, fun i hi => by cases hi⟩, ((h.bel.setCell (p := ⟨w.heap.size, 0, none⟩) (Nat.le_refl _) _).setCell (p := ⟨w.heap.size, 1, none⟩) (Nat.le_refl _) _).setCell (p := ⟨w.heap.size, 2, none⟩) (Nat.le_refl _) _⟩
  have e : (List.replicate k (-1 : Int)).map I64 = List.replicate k neg1 := by rw [List.map_replicate]; rfl
  have e2 : (List.replicate k (-1 : Int)).length = (List.replicate k neg1).length := by simp
  show World.ownsRow _ _ _ _ _ (List.replicate k (-1 : Int)).length ((List.replicate k (-1 : Int)).map I64)
  rw [e, e2]
  refine owns_lo (owns_eq h.own fun g hg => ?_) (by omega)
  have hg2 := (h.own.lt g hg).1
  exact (Below.heap_setCell _ ⟨w.heap.size, 2, none⟩ _ g (by show g ≠ w.heap.size; omega)).trans ((Below.heap_setCell _ ⟨w.heap.size, 1, none⟩ _ g (by show g ≠ w.heap.size; omega)).trans (Below.heap_setCell _ ⟨w.heap.size, 0, none⟩ _ g (by show g ≠ w.heap.size; omega)))
theorem wpList_more {P : Program} {W : World} {ops : Array Oper} {rest : List Oper} {o : Oper} {a : Act} {Q : Exit → Act → World → Prop} (hgd : o.guard = none) (s x : Operand) (t : TypeId)
    (ho : o.op = .call { callee := .builtin .append, args := #[s, x], argTypes := #[t, t] })
    (B : Nat) (e : TypeId) (z : Value) (bytes : Nat) (ht : P.underlying t = some (.slice e)) (hi : (P.info? e).map (fun i => (i.zero, i.size, i.bytes)) = some (some z, 1, bytes)) (hzs : z.cells.size = 1)
    (v : Value) (xs : List Value) (hs : a.eval s = v) (hown : W.ownsRow B e 1 v xs.length xs) (g : Nat) (u : Value) (hx : a.eval x = .slice (some ⟨g, 0, none⟩) 1 1) (hu : W.cell? ⟨g, 0, none⟩ = some u) (h1 : u.oneCell' = true)
    (h63 : xs.length + 1 ≤ maxLen) (hbytes : (xs.length + 1) * bytes ≤ 140737488355328) (hB : B ≤ W.heap.size)
    (h : ∀ v' w', MoreR B e W v xs u v' w' → wpList P ops Q rest (a.put o.dst v') w') : wpList P ops Q (o :: rest) a W :=
  wpList_step fun _ hK => step_more hgd s x t ho B e z bytes ht hi hzs v xs hs hown g u hx hu h1 h63 hbytes hB fun v' w' hm => hK _ _ (h v' w' hm)
def GnR (w : World) (q : Int) (iv : Value) (wr : World) : Prop := ∃ (i : Nat) (r : Value), i ≤ min q.toNat 2 ∧ iv = .int .i64 i ∧ Hid (GnZ w r i wr)

end Go.Proofs.Ytkoelibclihekaa
