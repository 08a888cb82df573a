/-
  The shape of a Model that was copied: each cell keeps its kind.
-/
import Derived.Test.YtkoelibclihekaaMdlP
import Derived.Test.YtkoelibclihekaaFlG
import Derived.Test.YtkoelibclihekaaAid
import Derived.Test.YtkoelibclihekaaRowQ
import Derived.Test.YtkoelibclihekaaRowP
import Derived.Lib.SliceRun
namespace Go.Proofs.Ytkoelibclihekaa
open Go.RowKit

structure MdSh (B T : Nat) (w : World) (v0 v1 v2 v3 v4 v5 v6 v7 : Value) (x : Md) : Prop where
  s0 : ShR B T 6 (fNod B T) x.prog.nodes.length w v0
  s1 : ShR B T 4 (fMon B T) x.prog.mons.length w v1
  s2 : ShR B T 4 (fPro B T) x.prog.pros.length w v2
  s3 : ShR B T 12 (fAc B T) x.acts.length w v3
  s4 : ShR B T 3 (fGt B T) x.gates.length w v4
  s5 : ShR B T 2 (fEv B T) x.vars.length w v5
  s6 : ShR B T 1 fInt x.input.length w v6
  s7 : ShR B T 3 fVt x.events.length w v7
theorem MdSh.turn {B T B' T' : Nat} {w w' : World} {v0 v1 v2 v3 v4 v5 v6 v7 : Value} {x : Md} (h : MdSh B T w v0 v1 v2 v3 v4 v5 v6 v7 x) (ht : Turn B' T' w w') : MdSh B T w' v0 v1 v2 v3 v4 v5 v6 v7 x :=
  ⟨h.s0.turn ht fun i _ => fNod_s B T i, h.s1.turn ht fun i _ => fMon_s B T i, h.s2.turn ht fun i _ => fPro_s B T i, h.s3.turn ht fun i _ => fAc_s B T i, h.s4.turn ht fun i _ => fGt_s B T i, h.s5.turn ht fun i _ => fEv_s B T i, h.s6.turn ht fun i _ => fInt_s i, h.s7.turn ht fun i _ => fVt_s i⟩
theorem MdSh.stays {B T : Nat} {w w' : World} {v0 v1 v2 v3 v4 v5 v6 v7 : Value} {x : Md} (h : MdSh B T w v0 v1 v2 v3 v4 v5 v6 v7 x) (hb : Below w.heap.size w w') : MdSh B T w' v0 v1 v2 v3 v4 v5 v6 v7 x := h.turn (T' := 0) (Turn.below hb (Nat.le_refl _))
theorem MdC.sh {base T : Nat} {w : World} {v0 v1 v2 v3 v4 v5 v6 v7 : Value} {x : Md} (h : MdC base w [v0, v1, v2, v3, v4, v5, v6, v7, .bool x.stopped] x) (hT : w.heap.size ≤ T) (hL : MdLen x) : MdSh base T w v0 v1 v2 v3 v4 v5 v6 v7 x := by
  obtain ⟨u0, u1, u2, u3, u4, u5, u6, u7, e, ⟨p0, p1, p2⟩, h3, h4, h5, h6, h7⟩ := h.c
  simp at e
  obtain ⟨rfl, rfl, rfl, rfl, rfl, rfl, rfl, rfl⟩ := e
  exact ⟨p0.sh hT hL.p.kids, p1.sh hT hL.p.mon, p2.sh hT hL.p.pro, h3.sh hT hL.i3, h4.sh hT hL.i4, h5.sh hT hL.i5, CellsIn.shI h6 hT, h7.sh hT⟩
end Go.Proofs.Ytkoelibclihekaa

namespace Go.Proofs.Ytkoelibclihekaa
open Go.RowKit

def gateNewE (q : Int) : Gt := ⟨-1, [], List.replicate (min q.toNat 2) (-1)⟩
/-- Who is there: the owner, those that wait, those in queues. -/
def whoG (g : Gt) : List Int := (if 0 ≤ g.owner then [g.owner] else []) ++ g.waits ++ g.queues.filter fun q => decide (0 ≤ q)
def gateOkB (g : Gt) : Bool := inZ (-1) 3 g.owner && decide (g.queues.length ≤ 2) && decide (0 ≤ g.owner ∨ g.waits = []) &&
  g.waits.all (inZ 0 3) && g.queues.all (inZ (-1) 3) && decide (whoG g).Nodup
def isIn (g : Gt) (p : Int) : Bool := decide (g.owner = p) || decide (p ∈ g.waits) || decide (p ∈ g.queues)
def arriveE (g : Gt) (p : Int) : Gt × Bool :=
  if gateOkB g = false ∨ inZ 0 3 p = false ∨ isIn g p = true then (g, false)
  else if g.owner < 0 then ({ g with owner := p }, true) else ({ g with waits := g.waits ++ [p] }, false)
/-- Who is first is let in. -/
def nextG (g : Gt) : Gt := { g with owner := g.waits.headD (-1), waits := g.waits.tail }
def leaveE (g : Gt) : Gt × Int := if gateOkB g = false ∨ g.owner < 0 then (g, -1) else (nextG g, (nextG g).owner)
def delayE (g : Gt) (q : Int) : Gt × Int × Bool :=
  if gateOkB g = false ∨ g.owner < 0 ∨ inZ 0 ((g.queues.length : Int) - 1) q = false ∨ 0 ≤ g.queues.getD q.toNat (-1) then (g, -1, false)
  else (nextG { g with queues := g.queues.set q.toNat g.owner }, (nextG g).owner, true)
def contE (g : Gt) (q : Int) : Gt × Int :=
  if gateOkB g = false ∨ g.owner < 0 ∨ inZ 0 ((g.queues.length : Int) - 1) q = false then (g, -1)
  else if g.queues.getD q.toNat (-1) < 0 then (nextG g, (nextG g).owner)
  else ({ g with owner := g.queues.getD q.toNat (-1), queues := g.queues.set q.toNat (-1) }, g.queues.getD q.toNat (-1))
theorem gateNewE_len (q : Int) : GtLen (gateNewE q) := ⟨by simp [gateNewE], by simp [gateNewE]; omega⟩
theorem nextG_len {g : Gt} (h : GtLen g) : GtLen (nextG g) := ⟨by show g.waits.tail.length ≤ _; have := h.l1; rw [List.length_tail]; omega, h.l2⟩
theorem leaveE_len {g : Gt} (h : szGt g ≤ 1048576) : GtLen (leaveE g).1 := by
  unfold leaveE
  split
  · exact szGt_len h
  · exact nextG_len (szGt_len h)
theorem delayE_len {g : Gt} (h : szGt g ≤ 1048576) (q : Int) : GtLen (delayE g q).1 := by
  unfold delayE
  split
  · exact szGt_len h
  · exact nextG_len ⟨(szGt_len h).l1, by show (g.queues.set _ _).length ≤ _; rw [List.length_set]; exact (szGt_len h).l2⟩
theorem contE_len {g : Gt} (h : szGt g ≤ 1048576) (q : Int) : GtLen (contE g q).1 := by
  unfold contE
  split
  · exact szGt_len h
  · split
    · exact nextG_len (szGt_len h)
    · exact ⟨(szGt_len h).l1, by show (g.queues.set _ _).length ≤ _; rw [List.length_set]; exact (szGt_len h).l2⟩
theorem nodup_le : ∀ (l m : List Int), l.Nodup → (∀ y ∈ l, y ∈ m) → l.length ≤ m.length
  | [], m, _, _ => by simp
  | a :: l, m, hn, hm => by
    have h1 := List.nodup_cons.1 hn
    have h2 := nodup_le l (m.erase a) h1.2 fun y hy => (List.mem_erase_of_ne (a := y) (b := a) (fun e => h1.1 (by rw [← e]; exact hy))).2 (hm y (List.mem_cons_of_mem _ hy))
    have h3 := List.length_erase_of_mem (hm a List.mem_cons_self)
    have h4 := List.length_pos_of_mem (hm a List.mem_cons_self)
    rw [List.length_cons]
    omega
theorem gateOk_small {g : Gt} (h : gateOkB g = true) : g.waits.length ≤ 4 := by
  simp only [gateOkB, Bool.and_eq_true] at h
  obtain ⟨⟨⟨⟨⟨_, _⟩, _⟩, h4⟩, _⟩, h6⟩ := h
  have hn : g.waits.Nodup := by
    have := of_decide_eq_true h6
    unfold whoG at this
    exact (List.nodup_append.1 (List.nodup_append.1 this).1).2.1
  have hs : ∀ y ∈ g.waits, y ∈ [(0 : Int), 1, 2, 3] := fun y hy => by
    have := inZ_yes.1 (List.all_eq_true.1 h4 y hy)
    simp
    omega
  have := nodup_le _ _ hn hs
  simpa using this
theorem arriveE_len {g : Gt} (h : szGt g ≤ 1048576) (p : Int) : GtLen (arriveE g p).1 := by
  have hl := szGt_len h
  unfold arriveE
  split
  · exact hl
  · next hc =>
    split
    · exact ⟨hl.l1, hl.l2⟩
    · refine ⟨?_, hl.l2⟩
      have h1 : gateOkB g = true := by
        cases e : gateOkB g with
        | true => rfl
        | false => exact absurd (.inl e) hc
      have := gateOk_small h1
      show (g.waits ++ [p]).length ≤ _
      rw [List.length_append]
      simp
      omega
end Go.Proofs.Ytkoelibclihekaa

namespace Go.Proofs.Ytkoelibclihekaa
open Go.RowKit

theorem run_append_none {P : Program} (w : World) (t ty e : TypeId) (i : TypeInfo) (ht : P.underlying t = some (.slice e)) (hi : P.info? e = some i) (b : Option Addr) (n cap c : Nat) (h : n ≤ cap) :
    (Builtin.append_ #[t, t] ty #[.slice b n cap, .slice none 0 c]).run P w = .ok (.slice b n cap) w := by
  cases b with
  | none => simp [Builtin.append_, run_underlying ht, sizeOf, typeInfo, hi, Builtin.lenOf, h, run_firstCells_none]
  | some a => simp [Builtin.append_, run_underlying ht, sizeOf, typeInfo, hi, Builtin.lenOf, h, run_firstCells_none, storeCells]

/-- Boxes of another type stay while a row grows. -/
def BoxesKept (e : TypeId) (w w' : World) : Prop := ∀ g cs T, T ≠ e → Box w g cs T → Box w' g cs T
theorem BoxesKept.refl (e : TypeId) (w : World) : BoxesKept e w w := fun _ _ _ _ h => h
theorem boxes_grown {w w' : World} {base n : Nat} {e : TypeId} {v : Value} {xs : List Value} (hown : w.ownsRow base e 1 v n xs) (hg : w.grownBy w' v.ownBlock) : BoxesKept e w w' := fun g _cs _T hT hb =>
  (hg.block g hb.lt (Ne.symm (Lib.ownBlock_ne hown hb hT))).trans hb

/-- Several values appended to a row that is owned; boxes stay. -/
theorem wpList_appk {P : Program} {w : World} {ops : Array Oper} {rest : List Oper} {o : Oper} {a : Act} {Q : Exit → Act → World → Prop} (hgd : o.guard = none) (s x : Operand) (t : TypeId)
    (ho : o.op = .call { callee := .builtin .append, args := #[s, x], argTypes := #[t, t] })
    (base : Nat) (e : TypeId) (z : Value) (bytes : Nat) (ht : P.underlying t = some (.slice e)) (hi : (P.info? e).map (fun i => (i.zero, i.size, i.bytes)) = some (some z, 1, bytes)) (hzs : z.cells.size = 1)
    (v : Value) (n : Nat) (xs : List Value) (hs : a.eval s = v) (hown : w.ownsRow base e 1 v n xs)
    (ad : Addr) (m c : Nat) (news : List Value) (hx : a.eval x = .slice (some ad) m c) (hl : news.length = m) (hnews : ∀ j u, news[j]? = some u → w.cell? (ad.add j) = some u) (h1 : ∀ u ∈ news, u.oneCell' = true)
    (h63 : n + m ≤ maxLen) (hbytes : (n + m) * bytes ≤ 140737488355328) (hbase : base ≤ w.heap.size)
    (h : ∀ v' w', w'.ownsRow base e 1 v' (n + m) (xs ++ news) → Below base w w' → BoxesKept e w w' → wpList P ops Q rest (a.put o.dst v') w') : wpList P ops Q (o :: rest) a w := by
  obtain ⟨i, hi, hz0, hz1, hz2⟩ := info_parts hi
  refine wpList_append_own _ hgd s x t ho base e i z 1 bytes ht hi hz0 hz1 hz2 hzs (by decide) v n xs hs hown ad m c news hx (by omega) hnews h1 h63 hbytes hbase ?_
  intro v' w' hown' hgrow _
  exact h v' w' hown' ((Below.refl base w).grown hgrow hbase (fun j hj => (hown.lt j hj).1)) (boxes_grown hown hgrow)

/-- Values that lie in a new block of their own, appended. -/
theorem wpList_app_new {P : Program} {w : World} {ops : Array Oper} {rest : List Oper} {o : Oper} {a : Act} {Q : Exit → Act → World → Prop} {g : Nat} (hg : g = w.heap.size) (hgd : o.guard = none) (s x : Operand) (t : TypeId)
    (ho : o.op = .call { callee := .builtin .append, args := #[s, x], argTypes := #[t, t] })
    (base : Nat) (e : TypeId) (z : Value) (bytes : Nat) (ht : P.underlying t = some (.slice e)) (hi : (P.info? e).map (fun i => (i.zero, i.size, i.bytes)) = some (some z, 1, bytes)) (hzs : z.cells.size = 1)
    (v : Value) (n : Nat) (xs : List Value) (us : Array Value) (hs : a.eval s = v) (hown : w.ownsRow base e 1 v n xs)
    (m : Nat) (hx : a.eval x = .slice (some ⟨g, 0, none⟩) m m) (hm : us.size = m) (h1 : ∀ u ∈ us.toList, u.oneCell' = true)
    (h63 : n + m ≤ maxLen) (hbytes : (n + m) * bytes ≤ 140737488355328) (hbase : base ≤ w.heap.size)
    (h : ∀ v' w', w'.ownsRow base e 1 v' (n + m) (xs ++ us.toList) → Below base w w' → BoxesKept e w w' → wpList P ops Q rest (a.put o.dst v') w') : wpList P ops Q (o :: rest) a (w.alloc (.cells us e)) := by
  subst hg
  have hb : Below base w (w.alloc (.cells us e)) := (Below.refl _ _).alloc hbase _
  refine wpList_appk hgd s x t ho base e z bytes ht hi hzs v n xs hs (hown.alloc _) ⟨w.heap.size, 0, none⟩ m m us.toList hx (by simpa using hm) (fun j u hj => ?_) h1 h63 hbytes (by simp; omega) ?_
  · rw [add_zero_at, World.cell?_alloc_new]
    simpa using hj
  · intro v' w' h2 h3 h4
    refine h v' w' h2 (hb.trans h3) (fun g' cs T hT hbx => h4 g' cs T hT ?_)
    exact (Below.heap_alloc w _ g' hbx.lt).trans hbx

theorem wpList_app_strs {P : Program} {w : World} {ops : Array Oper} {rest : List Oper} {o : Oper} {a : Act} {Q : Exit → Act → World → Prop} (hgd : o.guard = none) (s x : Operand) (t : TypeId)
    (ho : o.op = .call { callee := .builtin .append, args := #[s, x], argTypes := #[t, t] })
    (base : Nat) (e : TypeId) (z : Value) (bytes : Nat) (ht : P.underlying t = some (.slice e)) (hi : (P.info? e).map (fun i => (i.zero, i.size, i.bytes)) = some (some z, 1, bytes)) (hzs : z.cells.size = 1)
    (v : Value) (n : Nat) (xs : List Value) (hs : a.eval s = v) (hown : w.ownsRow base e 1 v n xs)
    (xv : Value) (news : List ByteArray) (hx : a.eval x = xv) (hat : StrsAt w xv news)
    (h63 : n + news.length ≤ maxLen) (hbytes : (n + news.length) * bytes ≤ 140737488355328) (hbase : base ≤ w.heap.size)
    (h : ∀ v' w', w'.ownsRow base e 1 v' (n + news.length) (xs ++ news.map Value.string) → Below base w w' → BoxesKept e w w' → wpList P ops Q rest (a.put o.dst v') w') : wpList P ops Q (o :: rest) a w := by
  obtain ⟨ao, c, rfl, hc⟩ := hat
  cases ao with
  | some ad =>
    refine wpList_appk hgd s x t ho base e z bytes ht hi hzs v n xs hs hown ad news.length c (news.map Value.string) hx (by simp) (fun j u hj => ?_) (fun u hu => ?_) h63 hbytes hbase h
    · rw [List.getElem?_map] at hj
      obtain ⟨y, hy, rfl⟩ := Option.map_eq_some_iff.1 hj
      obtain ⟨hj2, rfl⟩ := List.getElem?_eq_some_iff.1 hy
      obtain ⟨a', ha, _, hcell⟩ := hc j hj2
      cases ha
      exact hcell
    · obtain ⟨y, _, rfl⟩ := List.mem_map.1 hu
      rfl
  | none =>
    have h0 : news = [] := by
      rcases news with _ | ⟨y, news⟩
      · rfl
      · obtain ⟨a', ha, _⟩ := hc 0 (by simp)
        simp at ha
    subst h0
    obtain ⟨i, hi2, _, _, _⟩ := info_parts hi
    have hv : ∃ b cap, v = .slice b n cap ∧ n ≤ cap := by
      rcases hown.2 with ⟨rfl, rfl⟩ | ⟨g, cap, cur, rfl, _, _, hr, _⟩
      · exact ⟨none, 0, rfl, Nat.le_refl _⟩
      · exact ⟨_, cap, rfl, hr⟩
    obtain ⟨b, cap, rfl, hr⟩ := hv
    have hrun := fun ty => run_append_none (P := P) w t ty e i ht hi2 b n cap c hr
    have hk := h (.slice b n cap) w (by simpa using hown) (Below.refl _ _) (BoxesKept.refl _ _)
    refine wpList_plain hgd fun K hK => ?_
    unfold Oper.wp execOp
    simp only [ho, resolve, invoke, builtin, Sem.run_bind, Sem.run_pure, Result.andThen_ok, List.map_toArray, List.map_cons, List.map_nil, hs, hx]
    simp only [List.length_nil]
    rw [hrun]
    exact hK _ _ hk
end Go.Proofs.Ytkoelibclihekaa
