/-
  Walks: what a gate does, by the specification: the state while it is done; who is next.
-/
import Derived.Test.YtnedpcgdepiakaaGatL
import Derived.Test.YtnedpcgdepiakaaBoxR
namespace Go.Proofs.Ytnedpcgdepiakaa
open Go.RowKit

/-- While something is done to a gate: what came in, the result, the copy under way. -/
structure GaZ (w : World) (o : Int) (v1 v2 : Value) (G : Nat) (r1 r2 : Value) (y : Gt) (z : World) : Prop where
  bA : Box z w.heap.size #[.int .i64 o, v1, v2] 24
  bR : ∃ a b c, Box z (w.heap.size + 1) #[a, b, c] 24
  bO : Box z G #[.int .i64 y.owner, r1, r2] 24
  own : GtOwn (w.heap.size + 2) z r1 r2 y
  bel : Below w.heap.size w z
  gl : w.heap.size + 2 ≤ G
theorem GaZ.stays {w : World} {o : Int} {v1 v2 : Value} {G : Nat} {r1 r2 : Value} {y : Gt} {z z' : World} (h : GaZ w o v1 v2 G r1 r2 y z) (hb : Below z.heap.size z z') : GaZ w o v1 v2 G r1 r2 y z' := by
  obtain ⟨a, b, c, hr⟩ := h.bR
  exact ⟨h.bA.stays hb, ⟨a, b, c, hr.stays hb⟩, h.bO.stays hb, h.own.stays hb, h.bel.trans (hb.mono h.bel.size), h.gl⟩
theorem set_first (a b c v : Value) : (#[a, b, c] : Array Value).setIfInBounds 0 v = #[v, b, c] := rfl
theorem set_second (a b c v : Value) : (#[a, b, c] : Array Value).setIfInBounds 1 v = #[a, v, c] := rfl
theorem GtOwn.boxG {B G i : Nat} {z : World} {r1 r2 : Value} {y : Gt} {cs : Array Value} {T : TypeId} (h : GtOwn B z r1 r2 y) (hb : Box z G cs T) (hT : T ≠ 3) (u : Value) : GtOwn B (z.setCell ⟨G, i, none⟩ u) r1 r2 y :=
  ⟨owns_eq h.o1 fun g hg => Below.heap_setCell _ ⟨G, i, none⟩ _ g (fun e => Lib.ownBlock_ne h.o1 hb hT (by rw [hg, show g = G from e])), owns_eq h.o2 fun g hg => Below.heap_setCell _ ⟨G, i, none⟩ _ g (fun e => Lib.ownBlock_ne h.o2 hb hT (by rw [hg, show g = G from e])), h.ap⟩
/-- Another owner. -/
theorem GaZ.owner {w : World} {o : Int} {v1 v2 : Value} {G : Nat} {r1 r2 : Value} {y : Gt} {z : World} (h : GaZ w o v1 v2 G r1 r2 y z) (p : Int) : GaZ w o v1 v2 G r1 r2 { y with owner := p } (z.setCell ⟨G, 0, none⟩ (.int .i64 p)) := by
  have hg := h.gl
  obtain ⟨a, b, c, hr⟩ := h.bR
  have h0 := h.own.boxG (i := 0) h.bO (by decide) (.int .i64 p)
  refine ⟨h.bA.other _ _ (by show w.heap.size ≠ G; omega), ⟨a, b, c, hr.other _ _ (by show w.heap.size + 1 ≠ G; omega)⟩, ?_, ⟨h0.o1, h0.o2, h0.ap⟩, h.bel.setCell (p := ⟨G, 0, none⟩) (by show w.heap.size ≤ G; omega) _, hg⟩
  have := h.bO.set 0 (.int .i64 p)
  rw [set_first] at this
  exact this
/-- One more that waits. -/
theorem GaZ.more {w : World} {o : Int} {v1 v2 : Value} {G : Nat} {r1 r2 : Value} {y : Gt} {W w' : World} {p : Int} {v' : Value} (h : GaZ w o v1 v2 G r1 r2 y W) (hm : MoreR (w.heap.size + 2) 3 W r1 (y.waits.map I64) (.int .i64 p) v' w') :
    GaZ w o v1 v2 G v' r2 { y with waits := y.waits ++ [p] } (w'.setCell ⟨G, 1, none⟩ v') := by
  have ho : W.ownsRow (w.heap.size + 2) 3 1 r1 (y.waits.map I64).length (y.waits.map I64) := by rw [List.length_map]; exact h.own.o1
  have hG := box_more hm ho h.bO (by decide)
  have hgl := h.gl
  have e1 : GtOwn (w.heap.size + 2) w' v' r2 { y with waits := y.waits ++ [p] } := by
    refine ⟨?_, owns_eq h.own.o2 fun g hg => hm.oth g (fun e => h.own.ap g e hg) (h.own.o2.lt g hg).2, fun i hi hi1 => ?_⟩
    · have := hm.own
      rw [List.length_map] at this
      show World.ownsRow _ _ _ _ _ (y.waits ++ [p]).length ((y.waits ++ [p]).map I64)
      rw [List.length_append, List.map_append]
      exact this
    · rcases hm.pos with e | e
      · exact h.own.ap i (by rw [← e]; exact hi) hi1
      · rw [hi] at e
        injection e with e
        have := (h.own.o2.lt i hi1).2
        omega
  obtain ⟨a, b, c, hr⟩ := h.bR
  have h0 := e1.boxG (i := 1) hG (by decide) v'
  refine ⟨(box_more hm ho h.bA (by decide)).other _ _ (by show w.heap.size ≠ G; omega), ⟨a, b, c, (box_more hm ho hr (by decide)).other _ _ (by show w.heap.size + 1 ≠ G; omega)⟩, ?_, h0, (h.bel.trans (hm.bel.mono (by omega))).setCell (p := ⟨G, 1, none⟩) (by show w.heap.size ≤ G; omega) _, hgl⟩
  have := hG.set 1 v'
  rw [set_second] at this
  exact this
/-- Other ones that wait, in a row of their own. -/
theorem GaZ.waits {w : World} {o : Int} {v1 v2 : Value} {G : Nat} {r1 r2 : Value} {y : Gt} {W w' : World} {ws : List Int} {v' : Value} (h : GaZ w o v1 v2 G r1 r2 y W) (hb : Below W.heap.size W w') (hn : w'.ownsRow W.heap.size 3 1 v' ws.length (ws.map I64)) :
    GaZ w o v1 v2 G v' r2 { y with waits := ws } (w'.setCell ⟨G, 1, none⟩ v') := by
  have hgl := h.gl
  have hW := h.bO.lt
  have h9 := h.stays hb
  have e1 : GtOwn (w.heap.size + 2) w' v' r2 { y with waits := ws } := ⟨owns_lo hn (by omega), h9.own.o2, fun i hi hi1 => by
    have a1 := (hn.lt i hi).1
    have a2 := (h.own.o2.lt i hi1).2
    omega⟩
  obtain ⟨a, b, c, hr⟩ := h9.bR
  have h0 := e1.boxG (i := 1) h9.bO (by decide) v'
  refine ⟨h9.bA.other _ _ (by show w.heap.size ≠ G; omega), ⟨a, b, c, hr.other _ _ (by show w.heap.size + 1 ≠ G; omega)⟩, ?_, h0, h9.bel.setCell (p := ⟨G, 1, none⟩) (by show w.heap.size ≤ G; omega) _, hgl⟩
  have := h9.bO.set 1 v'
  rw [set_second] at this
  exact this
/-- One of the queues. -/
theorem GaZ.queue {w : World} {o : Int} {v1 v2 : Value} {G q c i : Nat} {r1 : Value} {y : Gt} {z : World} (h : GaZ w o v1 v2 G r1 (.slice (some ⟨q, 0, none⟩) y.queues.length c) y z) (p : Int) :
    GaZ w o v1 v2 G r1 (.slice (some ⟨q, 0, none⟩) y.queues.length c) { y with queues := y.queues.set i p } (z.setCell ⟨q, i, none⟩ (.int .i64 p)) := by
  have hgl := h.gl
  have hq := (h.own.o2.lt q rfl).1
  have hGq : G ≠ q := fun e => Lib.ownBlock_ne h.own.o2 h.bO (by decide) (by rw [e]; rfl)
  obtain ⟨a, b, d, hr⟩ := h.bR
  refine ⟨h.bA.other _ _ (by show w.heap.size ≠ q; omega), ⟨a, b, d, hr.other _ _ (by show w.heap.size + 1 ≠ q; omega)⟩, h.bO.other _ _ (by show G ≠ q; exact hGq), ⟨?_, ?_, h.own.ap⟩, h.bel.setCell (p := ⟨q, i, none⟩) (by show w.heap.size ≤ q; omega) _, hgl⟩
  · exact owns_eq h.own.o1 fun k hk => Below.heap_setCell _ ⟨q, i, none⟩ _ k (fun e => h.own.ap k hk (by show some q = some k; rw [show k = q from e]))
  · have h9 := (h.own.o2.stored i (.int .i64 p)).1
    show World.ownsRow _ _ _ _ _ (y.queues.set i p).length ((y.queues.set i p).map I64)
    rw [List.length_set, List.map_set]
    exact h9
/-- What is handed back. -/
theorem GaZ.fin {w : World} {o : Int} {v1 v2 : Value} {G : Nat} {r1 r2 : Value} {y : Gt} {z : World} (h : GaZ w o v1 v2 G r1 r2 y z) :
    ∃ W, ((z.setCell ⟨w.heap.size + 1, 0, none⟩ (.int .i64 y.owner)).setCell ⟨w.heap.size + 1, 1, none⟩ r1).setCell ⟨w.heap.size + 1, 2, none⟩ r2 = W ∧ Box W (w.heap.size + 1) #[.int .i64 y.owner, r1, r2] 24 ∧ GtOwn w.heap.size W r1 r2 y ∧ Below w.heap.size w W := by
  obtain ⟨a, b, c, hr⟩ := h.bR
  have e : ∀ k, w.heap.size + 2 ≤ k → (((z.setCell ⟨w.heap.size + 1, 0, none⟩ (.int .i64 y.owner)).setCell ⟨w.heap.size + 1, 1, none⟩ r1).setCell ⟨w.heap.size + 1, 2, none⟩ r2).heap[k]? = z.heap[k]? := fun k hk =>
    (Below.heap_setCell _ ⟨w.heap.size + 1, 2, none⟩ _ k (by show k ≠ w.heap.size + 1; omega)).trans ((Below.heap_setCell _ ⟨w.heap.size + 1, 1, none⟩ _ k (by show k ≠ w.heap.size + 1; omega)).trans (Below.heap_setCell _ ⟨w.heap.size + 1, 0, none⟩ _ k (by show k ≠ w.heap.size + 1; omega)))
  exact ⟨_, rfl, by simpa using ((hr.set 0 (.int .i64 y.owner)).set 1 r1).set 2 r2, ⟨owns_lo (owns_eq h.own.o1 fun k hk => e k (h.own.o1.lt k hk).1) (by omega), owns_lo (owns_eq h.own.o2 fun k hk => e k (h.own.o2.lt k hk).1) (by omega), h.own.ap⟩, ((h.bel.setCell (p := ⟨w.heap.size + 1, 0, none⟩) (by show w.heap.size ≤ w.heap.size + 1; omega) _).setCell (p := ⟨w.heap.size + 1, 1, none⟩) (by show w.heap.size ≤ w.heap.size + 1; omega) _).setCell (p := ⟨w.heap.size + 1, 2, none⟩) (by show w.heap.size ≤ w.heap.size + 1; omega) _⟩
/-- Several values appended to a row that is owned. -/
theorem wpList_appM {P : Program} {w : World} {ops : Array Oper} {rest : List Oper} {o : Oper} {a : Act} {Q : Exit → Act → World → Prop} (hgd : o.guard = none) (s x : Operand) (t : TypeId)
    (ho : o.op = .call { callee := .builtin .append, args := #[s, x], argTypes := #[t, t] })
    (base : Nat) (e : TypeId) (z : Value) (bytes : Nat) (ht : P.underlying t = some (.slice e)) (hi : (P.info? e).map (fun i => (i.zero, i.size, i.bytes)) = some (some z, 1, bytes)) (hzs : z.cells.size = 1)
    (v : Value) (n : Nat) (xs : List Value) (hs : a.eval s = v) (hown : w.ownsRow base e 1 v n xs)
    (ad : Addr) (m c : Nat) (news : List Value) (hx : a.eval x = .slice (some ad) m c) (hl : news.length = m) (hnews : ∀ j u, news[j]? = some u → w.cell? (ad.add j) = some u) (h1 : ∀ u ∈ news, u.oneCell' = true)
    (h63 : n + m ≤ maxLen) (hbytes : (n + m) * bytes ≤ 140737488355328) (hbase : base ≤ w.heap.size)
    (h : ∀ v' w', w'.ownsRow base e 1 v' (n + m) (xs ++ news) → Below base w w' → wpList P ops Q rest (a.put o.dst v') w') : wpList P ops Q (o :: rest) a w := by
  obtain ⟨i, hi, hz0, hz1, hz2⟩ := info_parts hi
  refine wpList_append_own _ hgd s x t ho base e i z 1 bytes ht hi hz0 hz1 hz2 hzs (by decide) v n xs hs hown ad m c news hx (by omega) hnews h1 h63 hbytes hbase ?_
  intro v' w' hown' hgrow _
  exact h v' w' hown' ((Below.refl base w).grown hgrow hbase (fun j hj => (hown.lt j hj).1))
end Go.Proofs.Ytnedpcgdepiakaa
