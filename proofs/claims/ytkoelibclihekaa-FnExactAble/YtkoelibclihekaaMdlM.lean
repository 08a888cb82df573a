/-
  Marks on a Model that was handed in.
-/
import Derived.Test.YtkoelibclihekaaMdlS
import Derived.Test.YtkoelibclihekaaFlG
import Derived.Test.YtkoelibclihekaaAid
namespace Go.Proofs.Ytkoelibclihekaa
open Go.RowKit

theorem MdLen.l0 {x : Md} (h : MdLen x) : x.prog.nodes.length ≤ 1048576 := h.p.nl
theorem MdLen.l1 {x : Md} (h : MdLen x) : x.prog.mons.length ≤ 1048576 := h.p.ml
theorem MdLen.l2 {x : Md} (h : MdLen x) : x.prog.pros.length ≤ 1048576 := h.p.pl
set_option maxRecDepth 100000 in
set_option maxHeartbeats 4000000 in
theorem turnModel_any {B T n0 n1 n2 n3 n4 n5 n6 n7 : Nat} {st : Bool} (v0 v1 v2 v3 v4 v5 v6 v7 : Value) (k0 : Int) (w : World) (h0 : ShR B T 6 (fNod B T) n0 w v0) (h1 : ShR B T 4 (fMon B T) n1 w v1) (h2 : ShR B T 4 (fPro B T) n2 w v2) (h3 : ShR B T 12 (fAc B T) n3 w v3) (h4 : ShR B T 3 (fGt B T) n4 w v4) (h5 : ShR B T 2 (fEv B T) n5 w v5) (h6 : ShR B T 1 fInt n6 w v6) (h7 : ShR B T 3 fVt n7 w v7) (l0 : n0 ≤ 1048576) (l1 : n1 ≤ 1048576) (l2 : n2 ≤ 1048576) (l3 : n3 ≤ 1048576) (l4 : n4 ≤ 1048576) (l5 : n5 ≤ 1048576) (l6 : n6 ≤ 1048576) (l7 : n7 ≤ 1048576) (hB : B ≤ w.heap.size) (hT : T ≤ w.heap.size) (hk0 : 0 < k0) (hk1 : k0 ≤ 1000000000) :
    Calls Try.prog 11 #[.agg #[v0, v1, v2, v3, v4, v5, v6, v7, .bool st], .int .i64 k0] w fun e w' => ∃ k, e = .returned (.int .i64 k) ∧ k0 ≤ k ∧ k ≤ 1000000000000000 ∧ Turn B T w w' := by
  have hb1 : Below w.heap.size w (w.alloc (.cells #[v0, v1, v2, v3, v4, v5, v6, v7, .bool st] 46)) := (Below.refl _ _).alloc (Nat.le_refl _) _
  have TU : Hid (Turn B T w (w.alloc (.cells #[v0, v1, v2, v3, v4, v5, v6, v7, .bool st] 46))) := Turn.below hb1 hB
  have BX := hide (Box.made w #[v0, v1, v2, v3, v4, v5, v6, v7, .bool st] 46)
  have S0 := hide (h0.turn TU.out fun i _ => fNod_s B T i)
  have S1 := hide (h1.turn TU.out fun i _ => fMon_s B T i)
  have S2 := hide (h2.turn TU.out fun i _ => fPro_s B T i)
  have S3 := hide (h3.turn TU.out fun i _ => fAc_s B T i)
  have S4 := hide (h4.turn TU.out fun i _ => fGt_s B T i)
  have S5 := hide (h5.turn TU.out fun i _ => fEv_s B T i)
  have S6 := hide (h6.turn TU.out fun i _ => fInt_s i)
  have S7 := hide (h7.turn TU.out fun i _ => fVt_s i)
  obtain ⟨o0, c0, rfl, _⟩ := h0
  obtain ⟨o1, c1, rfl, _⟩ := h1
  obtain ⟨o2, c2, rfl, _⟩ := h2
  obtain ⟨o3, c3, rfl, _⟩ := h3
  obtain ⟨o4, c4, rfl, _⟩ := h4
  obtain ⟨o5, c5, rfl, _⟩ := h5
  obtain ⟨o6, c6, rfl, _⟩ := h6
  obtain ⟨o7, c7, rfl, _⟩ := h7
  obtain ⟨W1, hW⟩ : ∃ W1, w.alloc (.cells #[.slice o0 n0 c0, .slice o1 n1 c1, .slice o2 n2 c2, .slice o3 n3 c3, .slice o4 n4 c4, .slice o5 n5 c5, .slice o6 n6 c6, .slice o7 n7 c7, .bool st] 46) = W1 := ⟨_, rfl⟩
  have HW := hide hW
  have HS : Hid (w.heap.size < W1.heap.size) := by rw [← hW]; show _ < _; simp
  rw [hW] at TU BX S0 S1 S2 S3 S4 S5 S6 S7
  clear hW hb1
  have q0 := Lib.cell_of_heap BX.out 0
  have q1 := Lib.cell_of_heap BX.out 1
  have q2 := Lib.cell_of_heap BX.out 2
  have q3 := Lib.cell_of_heap BX.out 3
  have q4 := Lib.cell_of_heap BX.out 4
  have q5 := Lib.cell_of_heap BX.out 5
  have q6 := Lib.cell_of_heap BX.out 6
  have q7 := Lib.cell_of_heap BX.out 7
  have q8 := Lib.cell_of_heap BX.out 8
  simp at q0 q1 q2 q3 q4 q5 q6 q7 q8
  rw [← HW.out] at q0 q1 q2 q3 q4 q5 q6 q7 q8
  go_enter Try.func11, Try.ntmps11
  go_wp2_with fail
  rw [HW.out]
  clear HW q0 q1 q2 q3 q4 q5 q6 q7 q8
  refine (turnProgram_any _ _ _ _ _ S0.out S1.out S2.out l0 l1 l2 (by have := HS.out; omega) (by have := HS.out; omega) (by omega) (by omega)).mono ?_
  rintro e z2 ⟨k2, rfl, ha2, hb2, ht⟩
  replace TU := hide (TU.out.trans ht)
  replace BX : Hid (Box z2 w.heap.size #[.slice o0 n0 c0, .slice o1 n1 c1, .slice o2 n2 c2, .slice o3 n3 c3, .slice o4 n4 c4, .slice o5 n5 c5, .slice o6 n6 c6, .slice o7 n7 c7, .bool st] 46) := (ht.out _ hT HS.out).trans BX.out
  replace S3 := hide (S3.out.turn ht fun i _ => fAc_s B T i)
  replace S4 := hide (S4.out.turn ht fun i _ => fGt_s B T i)
  replace S5 := hide (S5.out.turn ht fun i _ => fEv_s B T i)
  replace S6 := hide (S6.out.turn ht fun i _ => fInt_s i)
  replace S7 := hide (S7.out.turn ht fun i _ => fVt_s i)
  replace HS : Hid (w.heap.size < z2.heap.size) := Nat.lt_of_lt_of_le HS.out ht.bel.size
  clear ht
  have q0 := Lib.cell_of_heap BX.out 0
  have q1 := Lib.cell_of_heap BX.out 1
  have q2 := Lib.cell_of_heap BX.out 2
  have q3 := Lib.cell_of_heap BX.out 3
  have q4 := Lib.cell_of_heap BX.out 4
  have q5 := Lib.cell_of_heap BX.out 5
  have q6 := Lib.cell_of_heap BX.out 6
  have q7 := Lib.cell_of_heap BX.out 7
  have q8 := Lib.cell_of_heap BX.out 8
  simp at q0 q1 q2 q3 q4 q5 q6 q7 q8
  go_wp2_with fail
  clear q0 q1 q2 q3 q4 q5 q6 q7 q8
  refine (turnActorT_any _ _ _ S3.out l3 (by have := HS.out; omega) (by omega) (by omega)).mono ?_
  rintro e z3 ⟨k3, rfl, ha3, hb3, ht⟩
  replace TU := hide (TU.out.trans ht)
  replace BX : Hid (Box z3 w.heap.size #[.slice o0 n0 c0, .slice o1 n1 c1, .slice o2 n2 c2, .slice o3 n3 c3, .slice o4 n4 c4, .slice o5 n5 c5, .slice o6 n6 c6, .slice o7 n7 c7, .bool st] 46) := (ht.out _ hT HS.out).trans BX.out
  replace S4 := hide (S4.out.turn ht fun i _ => fGt_s B T i)
  replace S5 := hide (S5.out.turn ht fun i _ => fEv_s B T i)
  replace S6 := hide (S6.out.turn ht fun i _ => fInt_s i)
  replace S7 := hide (S7.out.turn ht fun i _ => fVt_s i)
  replace HS : Hid (w.heap.size < z3.heap.size) := Nat.lt_of_lt_of_le HS.out ht.bel.size
  clear ht
  have q0 := Lib.cell_of_heap BX.out 0
  have q1 := Lib.cell_of_heap BX.out 1
  have q2 := Lib.cell_of_heap BX.out 2
  have q3 := Lib.cell_of_heap BX.out 3
  have q4 := Lib.cell_of_heap BX.out 4
  have q5 := Lib.cell_of_heap BX.out 5
  have q6 := Lib.cell_of_heap BX.out 6
  have q7 := Lib.cell_of_heap BX.out 7
  have q8 := Lib.cell_of_heap BX.out 8
  simp at q0 q1 q2 q3 q4 q5 q6 q7 q8
  go_wp2_with fail
  clear q0 q1 q2 q3 q4 q5 q6 q7 q8
  refine (turnGateT_any _ _ _ S4.out l4 (by have := HS.out; omega) (by omega) (by omega)).mono ?_
  rintro e z4 ⟨k4, rfl, ha4, hb4, ht⟩
  replace TU := hide (TU.out.trans ht)
  replace BX : Hid (Box z4 w.heap.size #[.slice o0 n0 c0, .slice o1 n1 c1, .slice o2 n2 c2, .slice o3 n3 c3, .slice o4 n4 c4, .slice o5 n5 c5, .slice o6 n6 c6, .slice o7 n7 c7, .bool st] 46) := (ht.out _ hT HS.out).trans BX.out
  replace S5 := hide (S5.out.turn ht fun i _ => fEv_s B T i)
  replace S6 := hide (S6.out.turn ht fun i _ => fInt_s i)
  replace S7 := hide (S7.out.turn ht fun i _ => fVt_s i)
  replace HS : Hid (w.heap.size < z4.heap.size) := Nat.lt_of_lt_of_le HS.out ht.bel.size
  clear ht
  have q0 := Lib.cell_of_heap BX.out 0
  have q1 := Lib.cell_of_heap BX.out 1
  have q2 := Lib.cell_of_heap BX.out 2
  have q3 := Lib.cell_of_heap BX.out 3
  have q4 := Lib.cell_of_heap BX.out 4
  have q5 := Lib.cell_of_heap BX.out 5
  have q6 := Lib.cell_of_heap BX.out 6
  have q7 := Lib.cell_of_heap BX.out 7
  have q8 := Lib.cell_of_heap BX.out 8
  simp at q0 q1 q2 q3 q4 q5 q6 q7 q8
  go_wp2_with fail
  clear q0 q1 q2 q3 q4 q5 q6 q7 q8
  refine (turnEnvT_any _ _ _ S5.out l5 (by have := HS.out; omega) (by omega) (by omega)).mono ?_
  rintro e z5 ⟨k5, rfl, ha5, hb5, ht⟩
  replace TU := hide (TU.out.trans ht)
  replace BX : Hid (Box z5 w.heap.size #[.slice o0 n0 c0, .slice o1 n1 c1, .slice o2 n2 c2, .slice o3 n3 c3, .slice o4 n4 c4, .slice o5 n5 c5, .slice o6 n6 c6, .slice o7 n7 c7, .bool st] 46) := (ht.out _ hT HS.out).trans BX.out
  replace S6 := hide (S6.out.turn ht fun i _ => fInt_s i)
  replace S7 := hide (S7.out.turn ht fun i _ => fVt_s i)
  replace HS : Hid (w.heap.size < z5.heap.size) := Nat.lt_of_lt_of_le HS.out ht.bel.size
  clear ht
  have q0 := Lib.cell_of_heap BX.out 0
  have q1 := Lib.cell_of_heap BX.out 1
  have q2 := Lib.cell_of_heap BX.out 2
  have q3 := Lib.cell_of_heap BX.out 3
  have q4 := Lib.cell_of_heap BX.out 4
  have q5 := Lib.cell_of_heap BX.out 5
  have q6 := Lib.cell_of_heap BX.out 6
  have q7 := Lib.cell_of_heap BX.out 7
  have q8 := Lib.cell_of_heap BX.out 8
  simp at q0 q1 q2 q3 q4 q5 q6 q7 q8
  go_wp2_with fail
  clear q0 q1 q2 q3 q4 q5 q6 q7 q8
  refine (turnI_any _ _ _ S6.out l6 (by have := HS.out; omega) (by omega) (by omega)).mono ?_
  rintro e z6 ⟨k6, rfl, ha6, hb6, ht⟩
  replace TU := hide (TU.out.trans ht)
  replace BX : Hid (Box z6 w.heap.size #[.slice o0 n0 c0, .slice o1 n1 c1, .slice o2 n2 c2, .slice o3 n3 c3, .slice o4 n4 c4, .slice o5 n5 c5, .slice o6 n6 c6, .slice o7 n7 c7, .bool st] 46) := (ht.out _ hT HS.out).trans BX.out
  replace S7 := hide (S7.out.turn ht fun i _ => fVt_s i)
  replace HS : Hid (w.heap.size < z6.heap.size) := Nat.lt_of_lt_of_le HS.out ht.bel.size
  clear ht
  have q0 := Lib.cell_of_heap BX.out 0
  have q1 := Lib.cell_of_heap BX.out 1
  have q2 := Lib.cell_of_heap BX.out 2
  have q3 := Lib.cell_of_heap BX.out 3
  have q4 := Lib.cell_of_heap BX.out 4
  have q5 := Lib.cell_of_heap BX.out 5
  have q6 := Lib.cell_of_heap BX.out 6
  have q7 := Lib.cell_of_heap BX.out 7
  have q8 := Lib.cell_of_heap BX.out 8
  simp at q0 q1 q2 q3 q4 q5 q6 q7 q8
  go_wp2_with fail
  clear q0 q1 q2 q3 q4 q5 q6 q7 q8
  refine (turnEventT_any _ _ _ S7.out l7 (by have := HS.out; omega) (by omega) (by omega)).mono ?_
  rintro e z7 ⟨k7, rfl, ha7, hb7, ht⟩
  replace TU := hide (TU.out.trans ht)
  replace BX : Hid (Box z7 w.heap.size #[.slice o0 n0 c0, .slice o1 n1 c1, .slice o2 n2 c2, .slice o3 n3 c3, .slice o4 n4 c4, .slice o5 n5 c5, .slice o6 n6 c6, .slice o7 n7 c7, .bool st] 46) := (ht.out _ hT HS.out).trans BX.out
  replace HS : Hid (w.heap.size < z7.heap.size) := Nat.lt_of_lt_of_le HS.out ht.bel.size
  clear ht
  have q0 := Lib.cell_of_heap BX.out 0
  have q1 := Lib.cell_of_heap BX.out 1
  have q2 := Lib.cell_of_heap BX.out 2
  have q3 := Lib.cell_of_heap BX.out 3
  have q4 := Lib.cell_of_heap BX.out 4
  have q5 := Lib.cell_of_heap BX.out 5
  have q6 := Lib.cell_of_heap BX.out 6
  have q7 := Lib.cell_of_heap BX.out 7
  have q8 := Lib.cell_of_heap BX.out 8
  simp at q0 q1 q2 q3 q4 q5 q6 q7 q8
  go_wp2
  go_ret
  exact ⟨_, rfl, by omega, by omega, TU.out⟩
end Go.Proofs.Ytkoelibclihekaa

namespace Go.Proofs.Ytkoelibclihekaa
open Go.RowKit

def gateNewE (q : Int) : Gt := ⟨-1, [], List.replicate (min q.toNat 2) (-1)⟩
/-- Who is there: the owner, those that wait, those in queues. -/
def whoG (g : Gt) : List Int := (if 0 ≤ g.owner then [g.owner] else []) ++ g.waits ++ g.queues.filter fun q => decide (0 ≤ q)
def gateOkB (g : Gt) : Bool := inZ (-1) 3 g.owner && decide (g.queues.length ≤ 2) && decide (0 ≤ g.owner ∨ g.waits = []) &&
  g.waits.all (inZ 0 3) && g.queues.all (inZ (-1) 3) && decide (whoG g).Nodup
def isIn (g : Gt) (p : Int) : Bool := decide (g.owner = p) || decide (p ∈ g.waits) || decide (p ∈ g.queues)
def arriveE (g : Gt) (p : Int) : Gt × Bool :=
  if gateOkB g = false ∨ inZ 0 3 p = false ∨ isIn g p = true then (g, false)
  else if g.owner < 0 then ({ g with owner := p }, true) else ({ g with waits := g.waits ++ [p] }, false)
/-- Who is first is let in. -/
def nextG (g : Gt) : Gt := { g with owner := g.waits.headD (-1), waits := g.waits.tail }
def leaveE (g : Gt) : Gt × Int := if gateOkB g = false ∨ g.owner < 0 then (g, -1) else (nextG g, (nextG g).owner)
def delayE (g : Gt) (q : Int) : Gt × Int × Bool :=
  if gateOkB g = false ∨ g.owner < 0 ∨ inZ 0 ((g.queues.length : Int) - 1) q = false ∨ 0 ≤ g.queues.getD q.toNat (-1) then (g, -1, false)
  else (nextG { g with queues := g.queues.set q.toNat g.owner }, (nextG g).owner, true)
def contE (g : Gt) (q : Int) : Gt × Int :=
  if gateOkB g = false ∨ g.owner < 0 ∨ inZ 0 ((g.queues.length : Int) - 1) q = false then (g, -1)
  else if g.queues.getD q.toNat (-1) < 0 then (nextG g, (nextG g).owner)
  else ({ g with owner := g.queues.getD q.toNat (-1), queues := g.queues.set q.toNat (-1) }, g.queues.getD q.toNat (-1))
theorem gateNewE_len (q : Int) : GtLen (gateNewE q) := ⟨by simp [gateNewE], by simp [gateNewE]; omega⟩
theorem nextG_len {g : Gt} (h : GtLen g) : GtLen (nextG g) := ⟨by show g.waits.tail.length ≤ _; have := h.l1; rw [List.length_tail]; omega, h.l2⟩
theorem leaveE_len {g : Gt} (h : szGt g ≤ 1048576) : GtLen (leaveE g).1 := by
  unfold leaveE
  split
  · exact szGt_len h
  · exact nextG_len (szGt_len h)
theorem delayE_len {g : Gt} (h : szGt g ≤ 1048576) (q : Int) : GtLen (delayE g q).1 := by
  unfold delayE
  split
  · exact szGt_len h
  · exact nextG_len ⟨(szGt_len h).l1, by show (g.queues.set _ _).length ≤ _; rw [List.length_set]; exact (szGt_len h).l2⟩
theorem contE_len {g : Gt} (h : szGt g ≤ 1048576) (q : Int) : GtLen (contE g q).1 := by
  unfold contE
  split
  · exact szGt_len h
  · split
    · exact nextG_len (szGt_len h)
    · exact ⟨(szGt_len h).l1, by show (g.queues.set _ _).length ≤ _; rw [List.length_set]; exact (szGt_len h).l2⟩
theorem nodup_le : ∀ (l m : List Int), l.Nodup → (∀ y ∈ l, y ∈ m) → l.length ≤ m.length
  | [], m, _, _ => by simp
  | a :: l, m, hn, hm => by
    have h1 := List.nodup_cons.1 hn
    have h2 := nodup_le l (m.erase a) h1.2 fun y hy => (List.mem_erase_of_ne (a := y) (b := a) (fun e => h1.1 (by rw [← e]; exact hy))).2 (hm y (List.mem_cons_of_mem _ hy))
    have h3 := List.length_erase_of_mem (hm a List.mem_cons_self)
    have h4 := List.length_pos_of_mem (hm a List.mem_cons_self)
    rw [List.length_cons]
    omega
theorem gateOk_small {g : Gt} (h : gateOkB g = true) : g.waits.length ≤ 4 := by
  simp only [gateOkB, Bool.and_eq_true] at h
  obtain ⟨⟨⟨⟨⟨_, _⟩, _⟩, h4⟩, _⟩, h6⟩ := h
  have hn : g.waits.Nodup := by
    have := of_decide_eq_true h6
    unfold whoG at this
    exact (List.nodup_append.1 (List.nodup_append.1 this).1).2.1
  have hs : ∀ y ∈ g.waits, y ∈ [(0 : Int), 1, 2, 3] := fun y hy => by
    have := inZ_yes.1 (List.all_eq_true.1 h4 y hy)
    simp
    omega
  have := nodup_le _ _ hn hs
  simpa using this
theorem arriveE_len {g : Gt} (h : szGt g ≤ 1048576) (p : Int) : GtLen (arriveE g p).1 := by
  have hl := szGt_len h
  unfold arriveE
  split
  · exact hl
  · next hc =>
    split
    · exact ⟨hl.l1, hl.l2⟩
    · refine ⟨?_, hl.l2⟩
      have h1 : gateOkB g = true := by
        cases e : gateOkB g with
        | true => rfl
        | false => exact absurd (.inl e) hc
      have := gateOk_small h1
      show (g.waits ++ [p]).length ≤ _
      rw [List.length_append]
      simp
      omega
end Go.Proofs.Ytkoelibclihekaa
