/-
  A flat struct (Gate) by the laws' own helpers.
-/
import Derived.Test.YtmchgmpdhfefjaaLawT
import Derived.Test.YtmchgmpdhfefjaaAidD
import Derived.Test.YtmchgmpdhfefjaaSgP
import Derived.Test.YtmchgmpdhfefjaaAid
import Derived.Test.YtmchgmpdhfefjaaCorQ
import Derived.Test.YtmchgmpdhfefjaaFlC
namespace Go.Proofs.Ytmchgmpdhfefjaa
open Go.RowKit

structure Gt where
  owner : Int
  waits : List Int
  queues : List Int
structure GtAt (w : World) (v1 v2 : Value) (x : Gt) : Prop where
  a1 : IntsAt w v1 x.waits
  a2 : IntsAt w v2 x.queues
theorem GtAt.stays {w w' : World} {v1 v2 : Value} {x : Gt} (h : GtAt w v1 v2 x) (hb : Below w.heap.size w w') : GtAt w' v1 v2 x := ⟨h.a1.stays hb, h.a2.stays hb⟩
def GtC (base : Nat) (w : World) (cs : List Value) (x : Gt) : Prop := ∃ v1 v2, cs = [.int .i64 x.owner, v1, v2] ∧ IntsIn base w v1 x.waits ∧ IntsIn base w v2 x.queues
structure GtMax (x : Gt) : Prop where
  m1 : IntsMax x.waits
  m2 : IntsMax x.queues
structure GtLen (x : Gt) : Prop where
  l1 : x.waits.length ≤ 1048576
  l2 : x.queues.length ≤ 1048576
def szGt (x : Gt) : Nat := x.waits.length + x.queues.length
theorem szGt_len {x : Gt} (h : szGt x ≤ 1048576) : GtLen x := by
  unfold szGt at h
  exact ⟨by omega, by omega⟩
theorem GtC.kept {base : Nat} {w w' : World} {cs : List Value} {x : Gt} (h : GtC base w cs x) (k : KeptFrom base w w') : GtC base w' cs x := by
  obtain ⟨v1, v2, e, h1, h2⟩ := h
  exact ⟨v1, v2, e, h1.kept k, h2.kept k⟩
theorem GtC.stays {base : Nat} {w w' : World} {cs : List Value} {x : Gt} (h : GtC base w cs x) (hb : Below w.heap.size w w') : GtC base w' cs x := h.kept (KeptFrom.below hb)
theorem GtC.at {base : Nat} {w : World} {v1 v2 : Value} {u0 : Value} {x : Gt} (h : GtC base w [u0, v1, v2] x) : GtAt w v1 v2 x := by
  obtain ⟨v1', v2', e, h1, h2⟩ := h
  injection e with e0 e
  injection e with e1 e
  injection e with e2 _
  subst e1 e2
  exact ⟨h1.at, h2.at⟩
theorem GtC.form {base : Nat} {w : World} {cs : List Value} {x : Gt} (h : GtC base w cs x) : ∃ o1 c1 o2 c2, cs = [.int .i64 x.owner, .slice o1 x.waits.length c1, .slice o2 x.queues.length c2] := by
  obtain ⟨v1, v2, e, h1, h2⟩ := h
  obtain ⟨o1, c1, rfl, _⟩ := h1.at
  obtain ⟨o2, c2, rfl, _⟩ := h2.at
  exact ⟨_, _, _, _, e⟩
structure GtSh (B T : Nat) (w : World) (v1 v2 : Value) (x : Gt) : Prop where
  s1 : ShR B T 1 fInt x.waits.length w v1
  s2 : ShR B T 1 fInt x.queues.length w v2
theorem GtSh.turn {B T B' T' : Nat} {w w' : World} {v1 v2 : Value} {x : Gt} (h : GtSh B T w v1 v2 x) (ht : Turn B' T' w w') : GtSh B T w' v1 v2 x := ⟨h.s1.turn ht fun i _ => fInt_s i, h.s2.turn ht fun i _ => fInt_s i⟩
theorem GtSh.stays {B T : Nat} {w w' : World} {v1 v2 : Value} {x : Gt} (h : GtSh B T w v1 v2 x) (hb : Below w.heap.size w w') : GtSh B T w' v1 v2 x := h.turn (T' := 0) (Turn.below hb (Nat.le_refl _))
theorem GtC.sh {base T : Nat} {w : World} {v1 v2 : Value} {u0 : Value} {x : Gt} (h : GtC base w [u0, v1, v2] x) (hT : w.heap.size ≤ T) : GtSh base T w v1 v2 x := by
  obtain ⟨v1', v2', e, h1, h2⟩ := h
  injection e with e0 e
  injection e with e1 e
  injection e with e2 _
  subst e1 e2
  exact ⟨CellsIn.shI h1 hT, CellsIn.shI h2 hT⟩
/-- An answer that owns its rows, from a base on, each in a block of its own. -/
structure GtOwn (B : Nat) (w : World) (v1 v2 : Value) (x : Gt) : Prop where
  o1 : w.ownsRow B 3 1 v1 x.waits.length (x.waits.map I64)
  o2 : w.ownsRow B 3 1 v2 x.queues.length (x.queues.map I64)
  ap : ∀ i, v1.ownBlock = some i → v2.ownBlock ≠ some i
theorem GtOwn.stays {B : Nat} {w w' : World} {v1 v2 : Value} {x : Gt} (h : GtOwn B w v1 v2 x) (hb : Below w.heap.size w w') : GtOwn B w' v1 v2 x := ⟨ownsInts_stays h.o1 hb, ownsInts_stays h.o2 hb, h.ap⟩
theorem GtOwn.at {B : Nat} {w : World} {v1 v2 : Value} {x : Gt} (h : GtOwn B w v1 v2 x) : GtAt w v1 v2 x := ⟨IntsIn.at (CellsIn.own h.o1), IntsIn.at (CellsIn.own h.o2)⟩
theorem GtOwn.lo {B b : Nat} {w : World} {v1 v2 : Value} {x : Gt} (h : GtOwn B w v1 v2 x) (hb : b ≤ B) : GtOwn b w v1 v2 x := ⟨owns_lo h.o1 hb, owns_lo h.o2 hb, h.ap⟩
theorem GtOwn.turn {B T b : Nat} {w w' : World} {v1 v2 : Value} {x : Gt} (h : GtOwn b w v1 v2 x) (ht : Turn B T w w') (hb : T ≤ b) : GtOwn b w' v1 v2 x :=
  ⟨owns_eq h.o1 (fun i hi => ht.out i (Nat.le_trans hb (h.o1.lt i hi).1) (h.o1.lt i hi).2), owns_eq h.o2 (fun i hi => ht.out i (Nat.le_trans hb (h.o2.lt i hi).1) (h.o2.lt i hi).2), h.ap⟩
theorem GtOwn.low {B b : Nat} {w w' : World} {v1 v2 : Value} {x : Gt} (h : GtOwn b w v1 v2 x) (ht : Below B w w') (hb : (∀ i, v1.ownBlock = some i → i < B) ∧ (∀ i, v2.ownBlock = some i → i < B)) : GtOwn b w' v1 v2 x :=
  ⟨owns_eq h.o1 (fun i hi => ht.block i (hb.1 i hi)), owns_eq h.o2 (fun i hi => ht.block i (hb.2 i hi)), h.ap⟩
theorem GtOwn.lt {b : Nat} {w : World} {v1 v2 : Value} {x : Gt} (h : GtOwn b w v1 v2 x) : (∀ i, v1.ownBlock = some i → i < w.heap.size) ∧ (∀ i, v2.ownBlock = some i → i < w.heap.size) := ⟨fun i hi => (h.o1.lt i hi).2, fun i hi => (h.o2.lt i hi).2⟩
theorem GtOwn.boxed {B b i : Nat} {z : World} {v1 v2 : Value} {x : Gt} {cs : Array Value} {T : TypeId} (h : GtOwn B z v1 v2 x) (hb : Box z b cs T) (t3 : T ≠ 3) (u : Value) : GtOwn B (z.setCell ⟨b, i, none⟩ u) v1 v2 x :=
  ⟨owns_eq h.o1 (fun g hg => Below.heap_setCell _ ⟨b, i, none⟩ _ g (fun e => Lib.ownBlock_ne h.o1 hb t3 (by rw [hg, e]))), owns_eq h.o2 (fun g hg => Below.heap_setCell _ ⟨b, i, none⟩ _ g (fun e => Lib.ownBlock_ne h.o2 hb t3 (by rw [hg, e]))), h.ap⟩
structure GtHeld (B : Nat) (w : World) (v1 v2 : Value) (n1 n2 : Nat) : Prop where
  o1 : w.ownsRow B 3 1 v1 n1 ((nMarks (1) n1).map I64)
  o2 : w.ownsRow B 3 1 v2 n2 ((nMarks (1 + n1) n2).map I64)
theorem GtHeld.stays {B : Nat} {w w' : World} {v1 v2 : Value} {n1 n2 : Nat} (h : GtHeld B w v1 v2 n1 n2) (hb : Below w.heap.size w w') : GtHeld B w' v1 v2 n1 n2 := ⟨ownsInts_stays h.o1 hb, ownsInts_stays h.o2 hb⟩

section
open Go.ChangeShapes Go.WideShapes Go.ChangeAt Go.Deep
variable {H : Type} {enc : TypeId × Value → H} {W : World}
end
end Go.Proofs.Ytmchgmpdhfefjaa

namespace Go.Proofs.Ytmchgmpdhfefjaa
open Go.RowKit

def gateNewE (q : Int) : Gt := ⟨-1, [], List.replicate (min q.toNat 2) (-1)⟩
/-- Who is there: the owner, those that wait, those in queues. -/
def whoG (g : Gt) : List Int := (if 0 ≤ g.owner then [g.owner] else []) ++ g.waits ++ g.queues.filter fun q => decide (0 ≤ q)
def gateOkB (g : Gt) : Bool := inZ (-1) 3 g.owner && decide (g.queues.length ≤ 2) && decide (0 ≤ g.owner ∨ g.waits = []) &&
  g.waits.all (inZ 0 3) && g.queues.all (inZ (-1) 3) && decide (whoG g).Nodup
def isIn (g : Gt) (p : Int) : Bool := decide (g.owner = p) || decide (p ∈ g.waits) || decide (p ∈ g.queues)
def arriveE (g : Gt) (p : Int) : Gt × Bool :=
  if gateOkB g = false ∨ inZ 0 3 p = false ∨ isIn g p = true then (g, false)
  else if g.owner < 0 then ({ g with owner := p }, true) else ({ g with waits := g.waits ++ [p] }, false)
/-- Who is first is let in. -/
def nextG (g : Gt) : Gt := { g with owner := g.waits.headD (-1), waits := g.waits.tail }
def leaveE (g : Gt) : Gt × Int := if gateOkB g = false ∨ g.owner < 0 then (g, -1) else (nextG g, (nextG g).owner)
def delayE (g : Gt) (q : Int) : Gt × Int × Bool :=
  if gateOkB g = false ∨ g.owner < 0 ∨ inZ 0 ((g.queues.length : Int) - 1) q = false ∨ 0 ≤ g.queues.getD q.toNat (-1) then (g, -1, false)
  else (nextG { g with queues := g.queues.set q.toNat g.owner }, (nextG g).owner, true)
def contE (g : Gt) (q : Int) : Gt × Int :=
  if gateOkB g = false ∨ g.owner < 0 ∨ inZ 0 ((g.queues.length : Int) - 1) q = false then (g, -1)
  else if g.queues.getD q.toNat (-1) < 0 then (nextG g, (nextG g).owner)
  else ({ g with owner := g.queues.getD q.toNat (-1), queues := g.queues.set q.toNat (-1) }, g.queues.getD q.toNat (-1))
theorem gateNewE_len (q : Int) : GtLen (gateNewE q) := ⟨by simp [gateNewE], by simp [gateNewE]; omega⟩
theorem nextG_len {g : Gt} (h : GtLen g) : GtLen (nextG g) := ⟨by show g.waits.tail.length ≤ _; have := h.l1; rw [List.length_tail]; omega, h.l2⟩
theorem leaveE_len {g : Gt} (h : szGt g ≤ 1048576) : GtLen (leaveE g).1 := by
  unfold leaveE
  split
  · exact szGt_len h
  · exact nextG_len (szGt_len h)
theorem delayE_len {g : Gt} (h : szGt g ≤ 1048576) (q : Int) : GtLen (delayE g q).1 := by
  unfold delayE
  split
  · exact szGt_len h
  · exact nextG_len ⟨(szGt_len h).l1, by show (g.queues.set _ _).length ≤ _; rw [List.length_set]; exact (szGt_len h).l2⟩
theorem contE_len {g : Gt} (h : szGt g ≤ 1048576) (q : Int) : GtLen (contE g q).1 := by
  unfold contE
  split
  · exact szGt_len h
  · split
    · exact nextG_len (szGt_len h)
    · exact ⟨(szGt_len h).l1, by show (g.queues.set _ _).length ≤ _; rw [List.length_set]; exact (szGt_len h).l2⟩
theorem nodup_le : ∀ (l m : List Int), l.Nodup → (∀ y ∈ l, y ∈ m) → l.length ≤ m.length
  | [], m, _, _ => by simp
  | a :: l, m, hn, hm => by
    have h1 := List.nodup_cons.1 hn
    have h2 := nodup_le l (m.erase a) h1.2 fun y hy => (List.mem_erase_of_ne (a := y) (b := a) (fun e => h1.1 (by rw [← e]; exact hy))).2 (hm y (List.mem_cons_of_mem _ hy))
    have h3 := List.length_erase_of_mem (hm a List.mem_cons_self)
    have h4 := List.length_pos_of_mem (hm a List.mem_cons_self)
    rw [List.length_cons]
    omega
theorem gateOk_small {g : Gt} (h : gateOkB g = true) : g.waits.length ≤ 4 := by
  simp only [gateOkB, Bool.and_eq_true] at h
  obtain ⟨⟨⟨⟨⟨_, _⟩, _⟩, h4⟩, _⟩, h6⟩ := h
  have hn : g.waits.Nodup := by
    have := of_decide_eq_true h6
    unfold whoG at this
    exact (List.nodup_append.1 (List.nodup_append.1 this).1).2.1
  have hs : ∀ y ∈ g.waits, y ∈ [(0 : Int), 1, 2, 3] := fun y hy => by
    have := inZ_yes.1 (List.all_eq_true.1 h4 y hy)
    simp
    omega
  have := nodup_le _ _ hn hs
  simpa using this
theorem arriveE_len {g : Gt} (h : szGt g ≤ 1048576) (p : Int) : GtLen (arriveE g p).1 := by
  have hl := szGt_len h
  unfold arriveE
  split
  · exact hl
  · next hc =>
    split
    · exact ⟨hl.l1, hl.l2⟩
    · refine ⟨?_, hl.l2⟩
      have h1 : gateOkB g = true := by
        cases e : gateOkB g with
        | true => rfl
        | false => exact absurd (.inl e) hc
      have := gateOk_small h1
      show (g.waits ++ [p]).length ≤ _
      rw [List.length_append]
      simp
      omega
end Go.Proofs.Ytmchgmpdhfefjaa

namespace Go.Proofs.Ytmchgmpdhfefjaa
open Go.RowKit

set_option maxRecDepth 100000 in
set_option maxHeartbeats 1000000 in
theorem sameIntsG_same (p q : Value) (xs : List Int) (w : World) (h : IntsAt w p xs) (k : IntsAt w q xs) (hl : xs.length ≤ 1048576) :
    Calls Try.prog 10 #[p, q] w fun e w' => e = .returned (.bool true) ∧ Below w.heap.size w w' := by
  have H1 := hide h
  have H2 := hide k
  obtain ⟨ao, c, rfl, _⟩ := h
  obtain ⟨bo, d, rfl, _⟩ := k
  obtain ⟨n, en⟩ : ∃ n, xs.length = n := ⟨_, rfl⟩
  have EN := hide en
  rw [en] at H1 H2 hl ⊢
  clear en
  go_enter Try.func10, Try.ntmps10
  go_wp2
  go_loopw [5] (fun iv wr => ∃ i : Nat, i ≤ n ∧ iv = .int .i64 i ∧ Hid (Below w.heap.size w wr)) (fun iv _ => n - (intOf iv).toNat)
  case atStart => exact ⟨0, by omega, rfl, Below.refl _ _⟩
  case round =>
    obtain ⟨i, hi, rfl, HB⟩ := hrel
    by_cases hlt : i < n
    · have hlt' : (i : Int) < (n : Int) := by omega
      have hi0 : (0 : Int) ≤ (i : Int) := by omega
      have hix : i < xs.length := by rw [EN.out]; exact hlt
      obtain ⟨ao', c', e1, hc1⟩ := H1.out
      injection e1 with e2 e3 e4
      subst e2
      obtain ⟨a, rfl, ha, hx⟩ := hc1 i hix
      obtain ⟨bo', d', e1, hc2⟩ := H2.out
      injection e1 with e2 e5 e6
      subst e2
      obtain ⟨b, rfl, hb, hy⟩ := hc2 i hix
      have hx2 := (HB.out.cell (p := a.add i) (by rw [block_add]; exact ha)).trans hx
      have hy2 := (HB.out.cell (p := b.add i) (by rw [block_add]; exact hb)).trans hy
      obtain ⟨x, ex⟩ : ∃ x, xs[i] = x := ⟨_, rfl⟩
      rw [ex] at hx2 hy2
      clear hc1 hc2 e3 e4 e5 e6 ex hx hy ha hb
      go_wp2_with fail
      go_region
      all_goals go_wp2
      all_goals go_roundw
      all_goals first | (exact ⟨i + 1, by omega, by go_num, HB.out.trans (by go_grown)⟩) | (simp [intOf]; omega)
    · have hlt' : ¬ (i : Int) < (n : Int) := by omega
      go_wp2
      go_ret
      exact ⟨rfl, HB.out⟩

end Go.Proofs.Ytmchgmpdhfefjaa

namespace Go.Proofs.Ytmchgmpdhfefjaa
open Go.RowKit

set_option maxRecDepth 100000 in
set_option maxHeartbeats 2000000 in
theorem sameCore_same (p q : Value) (x : Co) (w : World) (h : CoAt w p x) (k : CoAt w q x) (hl : CoLen x) :
    Calls Try.prog 9 #[.agg #[p, .int .i64 x.pc, .int .i64 x.process], .agg #[q, .int .i64 x.pc, .int .i64 x.process]] w fun e w' => e = .returned (.bool true) ∧ Below w.heap.size w w' := by
  obtain ⟨W1, hW⟩ : ∃ W1, (w.alloc (.cells #[p, .int .i64 x.pc, .int .i64 x.process] 26)).alloc (.cells #[q, .int .i64 x.pc, .int .i64 x.process] 26) = W1 := ⟨_, rfl⟩
  have B1 : Hid (Below w.heap.size w W1) := by rw [← hW]; show Below w.heap.size w _; go_grown
  have BA : Hid (Box W1 w.heap.size #[p, .int .i64 x.pc, .int .i64 x.process] 26) := by rw [← hW]; exact hide ((Box.made _ _ _).stays ((Below.refl _ _).alloc (Nat.le_refl _) _))
  have BB : Hid (Box W1 (w.heap.size + 1) #[q, .int .i64 x.pc, .int .i64 x.process] 26) := by rw [← hW]; exact hide (Box.madeAt (by simp) _ _)
  have HA := hide h
  have HK := hide k
  have C0 := fun z h k => hide (sameIntsG_same p q x.regs z h k hl.l0)
  obtain ⟨a0, c0, rfl, _⟩ := h.a0
  obtain ⟨b0, d0, rfl, _⟩ := k.a0
  have HW := hide hW
  clear hW h k hl
  have t0 := Lib.cell_of_heap BA.out 0
  have t1 := Lib.cell_of_heap BB.out 0
  simp at t0 t1
  rw [← HW.out] at t0 t1
  go_enter Try.func9, Try.ntmps9
  go_wp2_with fail
  rw [HW.out]
  refine (unhide (C0 _ (HA.out.stays B1.out).a0 (HK.out.stays B1.out).a0)).mono ?_
  rintro e z ⟨rfl, hb⟩
  have X1 := hide (BA.out.stays hb)
  have X2 := hide (BB.out.stays hb)
  have B2 := hide (B1.out.trans (hb.mono B1.out.size))
  clear hb t0 t1
  have t4 := Lib.cell_of_heap X1.out 1
  have t5 := Lib.cell_of_heap X2.out 1
  have t6 := Lib.cell_of_heap X1.out 2
  have t7 := Lib.cell_of_heap X2.out 2
  simp at t4 t5 t6 t7
  go_wp2
  go_ret
  exact ⟨rfl, B2.out⟩
end Go.Proofs.Ytmchgmpdhfefjaa
