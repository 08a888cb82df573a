/-
  Walks: a row cloned (package slices), a text looked for in a row, by the program.
-/
import Derived.Test.YtmchgmpdhfefjaaRuneP
import Derived.Lib.SliceRun
import Derived.Test.YtmchgmpdhfefjaaCalcS
import Derived.Laws.CopyOwn
import Derived.Test.YtmchgmpdhfefjaaCorY
import Derived.Test.YtmchgmpdhfefjaaInsP
import Derived.Lib.AppendZeros
namespace Go.Proofs.Ytmchgmpdhfefjaa
open Go.RowKit

/-- Several values appended to a row that is owned. -/
theorem wpList_appN {P : Program} {w : World} {ops : Array Oper} {rest : List Oper} {o : Oper} {a : Act} {Q : Exit → Act → World → Prop} (hgd : o.guard = none) (s x : Operand) (t : TypeId)
    (ho : o.op = .call { callee := .builtin .append, args := #[s, x], argTypes := #[t, t] })
    (base : Nat) (e : TypeId) (z : Value) (bytes : Nat) (ht : P.underlying t = some (.slice e)) (hi : (P.info? e).map (fun i => (i.zero, i.size, i.bytes)) = some (some z, 1, bytes)) (hzs : z.cells.size = 1)
    (v : Value) (n : Nat) (xs : List Value) (hs : a.eval s = v) (hown : w.ownsRow base e 1 v n xs)
    (ad : Addr) (m c : Nat) (news : List Value) (hx : a.eval x = .slice (some ad) m c) (hl : news.length = m) (hnews : ∀ j u, news[j]? = some u → w.cell? (ad.add j) = some u) (h1 : ∀ u ∈ news, u.oneCell' = true)
    (h63 : n + m ≤ maxLen) (hbytes : (n + m) * bytes ≤ 140737488355328) (hbase : base ≤ w.heap.size)
    (h : ∀ v' w', w'.ownsRow base e 1 v' (n + m) (xs ++ news) → Below base w w' → wpList P ops Q rest (a.put o.dst v') w') : wpList P ops Q (o :: rest) a w := by
  obtain ⟨i, hi, hz0, hz1, hz2⟩ := info_parts hi
  refine wpList_append_own _ hgd s x t ho base e i z 1 bytes ht hi hz0 hz1 hz2 hzs (by decide) v n xs hs hown ad m c news hx (by omega) hnews h1 h63 hbytes hbase ?_
  intro v' w' hown' hgrow _
  exact h v' w' hown' ((Below.refl base w).grown hgrow hbase (fun j hj => (hown.lt j hj).1))
theorem owns_none {w : World} {B : Nat} {e : TypeId} : w.ownsRow B e 1 (.slice none 0 0) 0 [] := ⟨rfl, .inl ⟨rfl, rfl⟩⟩


set_option maxRecDepth 100000 in
set_option maxHeartbeats 1000000 in
theorem cloneI_own (v : Value) (ks : List Int) (w : World) (hK : IntsAt w v ks) (hl : ks.length ≤ 1048576) :
    Calls Try.prog 28 #[v] w fun e w' => ∃ v', e = .returned v' ∧ w'.ownsRow w.heap.size 3 1 v' ks.length (ks.map I64) ∧ Below w.heap.size w w' := by
  obtain ⟨ao, c, rfl, hc⟩ := hK
  cases ao with
  | none =>
    have h0 : ks = [] := by
      rcases ks with _ | ⟨x, ks⟩
      · rfl
      · obtain ⟨a, ha, _⟩ := hc 0 (by simp)
        simp at ha
    subst h0
    clear hc hl
    have hnil := fun w : World => Lib.run_eql_slice_nil (P := Try.prog) w 24 3 none 0 c 0 0 Try.underlying24
    go_enter Try.func28, Try.ntmps28
    go_wp2
    go_returns
    exact ⟨_, rfl, owns_none, Below.refl _ _⟩
  | some a =>
    have HO := hide (ownsRow_empty w w.heap.size 3 (Nat.le_refl _))
    have HC : Hid (∀ j u, (ks.map I64)[j]? = some u → (w.alloc (.cells #[] 3)).cell? (a.add j) = some u) := by
      intro j u hj
      rw [List.getElem?_map] at hj
      obtain ⟨x, hx, rfl⟩ := Option.map_eq_some_iff.1 hj
      obtain ⟨hj2, rfl⟩ := List.getElem?_eq_some_iff.1 hx
      obtain ⟨a', ha, hb, hcell⟩ := hc j hj2
      cases ha
      rw [World.cell?_alloc_lt _ _ _ (by rw [block_add]; exact hb)]
      exact hcell
    have HL : Hid ((ks.map I64).length = ks.length) := List.length_map ..
    clear hc
    obtain ⟨n, hn⟩ : ∃ n, ks.length = n := ⟨_, rfl⟩
    rw [hn] at HL hl ⊢
    clear hn
    have b1 : Hid (0 + n ≤ maxLen) := by show _ ≤ _; unfold maxLen; omega
    have b2 : Hid ((0 + n) * 8 ≤ 140737488355328) := by show _ ≤ _; omega
    clear hl
    have hnil := fun w : World => Lib.run_eql_slice_nil (P := Try.prog) w 24 3 (some a) n c 0 0 Try.underlying24
    go_enter Try.func28, Try.ntmps28
    go_wp2_with (at_builtin; refine wpList_appN rfl (.tmp 5) (.tmp 6) 24 rfl w.heap.size 3 (.int .i64 0) 8 Try.underlying24 Try.infoInt rfl _ _ _ rfl HO.out _ _ _ (ks.map I64) rfl HL.out HC.out (by intro u hu; obtain ⟨x, _, rfl⟩ := List.mem_map.1 hu; rfl) b1.out b2.out (by simp) ?_)
    intro v' w4 hown4 hb4
    have R := hide hown4
    have HB : Hid (Below w.heap.size w w4) := ((Below.refl w.heap.size w).alloc (Nat.le_refl _) _).trans hb4
    clear hown4 hb4
    go_wp2
    go_returns
    exact ⟨_, rfl, R.out, HB.out⟩

theorem str_cmp' (x s : ByteArray) : (s.toList == x.toList) = eqS s x := by
  by_cases h : x = s
  · rw [eqS, decide_eq_true h]; exact str_beq.2 h.symm
  · rw [eqS, decide_eq_false h, Bool.eq_false_iff]; exact fun q => h (str_beq.1 q).symm
def IxR (w : World) (xs : List ByteArray) (s : ByteArray) (iv : Value) (wr : World) : Prop :=
  ∃ i : Nat, i ≤ xs.length ∧ iv = .int .i64 i ∧ wr = w ∧ Hid (NoneTo (eqS s) xs i)

theorem first_mem (xs : List ByteArray) (s : ByteArray) : decide (0 ≤ firstAt (eqS s) xs) = memB xs s := by
  by_cases h : s ∈ xs
  · rw [memB_iff.2 h]
    apply decide_eq_true
    rw [firstAt]
    split
    · omega
    · rename_i e
      have := List.findIdx?_eq_none_iff.1 e s h
      simp [eqS] at this
  · rw [memB_no.2 h]
    apply decide_eq_false
    rw [firstAt]
    split
    · rename_i i e
      obtain ⟨hi, hx, _⟩ := List.findIdx?_eq_some_iff_getElem.1 e
      have : xs[i] = s := of_decide_eq_true hx
      exact absurd (this ▸ List.getElem_mem hi) h
    · omega

end Go.Proofs.Ytmchgmpdhfefjaa

namespace Go.Proofs.Ytmchgmpdhfefjaa
open Go.RowKit

/-- A row with no room behind it. -/
def FullV (v : Value) (n : Nat) : Prop := ∃ b, v = .slice (some ⟨b, 0, none⟩) n n
theorem splice_whole (n : Nat) (cs : List Value) (hn : cs.length = n) (Z : List Value) (hz : Z.length = n) : splice Z 0 cs = cs := by
  unfold splice
  rw [List.drop_of_length_le (by omega), List.append_nil]
  rfl

end Go.Proofs.Ytmchgmpdhfefjaa

namespace Go.Proofs.Ytmchgmpdhfefjaa
open Go.RowKit

/-- A row of numbers that is owned. -/
def OwnI (base : Nat) (v : Value) (l : List Int) (w : World) : Prop := w.ownsRow base 3 1 v l.length (l.map I64)
theorem OwnI.more {base : Nat} {v : Value} {l k : List Int} {w : World} {m : Nat} (h : w.ownsRow base 3 1 v m (l.map I64 ++ k.map I64)) : OwnI base v (l ++ k) w := by
  have e := h.1
  rw [← List.map_append] at h
  have : m = (l ++ k).length := by
    rw [List.length_append, List.length_map, List.length_map, Nat.mul_one] at e
    rw [List.length_append]
    omega
  rw [this] at h
  exact h
/-- A row of numbers appended to one that is owned. -/
theorem wpList_app_ints {P : Program} {w : World} {ops : Array Oper} {rest : List Oper} {o : Oper} {a : Act} {Q : Exit → Act → World → Prop} (hgd : o.guard = none) (s x : Operand) (t : TypeId)
    (ho : o.op = .call { callee := .builtin .append, args := #[s, x], argTypes := #[t, t] })
    (base : Nat) (ht : P.underlying t = some (.slice 3)) (hi : (P.info? 3).map (fun i => (i.zero, i.size, i.bytes)) = some (some (.int .i64 0), 1, 8))
    (v : Value) (l : List Int) (hs : a.eval s = v) (hown : OwnI base v l w) (u : Value) (k : List Int) (hx : a.eval x = u) (hk : IntsAt w u k)
    (h63 : l.length + k.length ≤ 4194304) (hbase : base ≤ w.heap.size)
    (h : ∀ v' w', OwnI base v' (l ++ k) w' → Below base w w' → wpList P ops Q rest (a.put o.dst v') w') : wpList P ops Q (o :: rest) a w := by
  obtain ⟨ao, c, rfl, hc⟩ := hk
  cases ao with
  | some ad =>
    refine wpList_appN hgd s x t ho base 3 (.int .i64 0) 8 ht hi rfl v l.length (l.map I64) hs hown ad k.length c (k.map I64) hx (by simp) (fun j u hj => ?_) (fun u hu => ?_) (by unfold maxLen; omega) (by omega) hbase fun v' w' ho' hb' => h v' w' (OwnI.more ho') hb'
    · rw [List.getElem?_map] at hj
      obtain ⟨y, hy, rfl⟩ := Option.map_eq_some_iff.1 hj
      obtain ⟨hj2, rfl⟩ := List.getElem?_eq_some_iff.1 hy
      obtain ⟨a', ha, _, hcell⟩ := hc j hj2
      cases ha
      exact hcell
    · obtain ⟨y, _, rfl⟩ := List.mem_map.1 hu
      rfl
  | none =>
    have h0 : k = [] := by
      rcases k with _ | ⟨y, k⟩
      · rfl
      · obtain ⟨a', ha, _⟩ := hc 0 (by simp)
        simp at ha
    subst h0
    obtain ⟨i, hi2, _, _, _⟩ := info_parts hi
    have hv : ∃ b cap, v = .slice b l.length cap ∧ l.length ≤ cap := by
      rcases hown.2 with ⟨rfl, e0⟩ | ⟨g, cap, cur, rfl, _, _, hr, _⟩
      · have : l.length = 0 := e0
        rw [this]
        exact ⟨none, 0, rfl, Nat.le_refl _⟩
      · exact ⟨_, cap, rfl, hr⟩
    obtain ⟨b, cap, rfl, hr⟩ := hv
    have hrun := fun ty => run_append_none (P := P) w t ty 3 i ht hi2 b l.length cap c hr
    have hk := h (.slice b l.length cap) w (by rw [List.append_nil]; exact hown) (Below.refl _ _)
    refine wpList_plain hgd fun K hK => ?_
    unfold Oper.wp execOp
    simp only [ho, resolve, invoke, builtin, Sem.run_bind, Sem.run_pure, Result.andThen_ok, List.map_toArray, List.map_cons, List.map_nil, hs, hx]
    simp only [List.length_nil]
    rw [hrun]
    exact hK _ _ hk

theorem Try.infoIntT : ∃ i, Try.prog.info? 3 = some i ∧ i.zero = some (.int .i64 0) ∧ i.size = 1 ∧ i.bytes = 8 := by
  obtain ⟨i, h1, h2⟩ := Option.map_eq_some_iff.1 infoI3
  injection h2 with h3 h4
  injection h4 with h4 h5
  exact ⟨i, h1, h3, h4, h5⟩
theorem zeroCellsI_size (z : Value) (n : Nat) : (Builtin.zeroCells #[z] n).size = n := by
  unfold Builtin.zeroCells
  simp

/-- A row of rows of numbers. -/
def RowsI (w : World) (v : Value) (xss : List (List Int)) : Prop :=
  ∃ ao c, v = .slice ao xss.length c ∧ ∀ j (h : j < xss.length), ∃ a u, ao = some a ∧ a.block < w.heap.size ∧ w.cell? (a.add j) = some u ∧ IntsAt w u xss[j]
theorem RowsI.stays {w w' : World} {v : Value} {xss : List (List Int)} (h : RowsI w v xss) (hb : Below w.heap.size w w') : RowsI w' v xss := by
  obtain ⟨ao, c, rfl, hc⟩ := h
  refine ⟨ao, c, rfl, fun j hj => ?_⟩
  obtain ⟨a, u, rfl, ha, hx, hu⟩ := hc j hj
  exact ⟨a, u, rfl, Nat.lt_of_lt_of_le ha hb.size, (hb.cell (by rw [block_add]; exact ha)).trans hx, hu.stays hb⟩
def CcI (w : World) (xss : List (List Int)) (sv iv : Value) (wr : World) : Prop :=
  ∃ i : Nat, i ≤ xss.length ∧ iv = .int .i64 i ∧ sv = .int .i64 ((xss.take i).flatten.length : Nat) ∧ wr = w
def CdI (w : World) (xss : List (List Int)) (v iv : Value) (wr : World) : Prop :=
  ∃ i : Nat, i ≤ xss.length ∧ iv = .int .i64 i ∧ Hid (OwnI w.heap.size v (xss.take i).flatten wr) ∧ Hid (Below w.heap.size w wr) ∧ Hid (w.heap.size ≤ wr.heap.size)
theorem flatI_take_le (xss : List (List Int)) (i : Nat) : (xss.take i).flatten.length ≤ xss.flatten.length := by
  have h : xss.flatten = (xss.take i).flatten ++ (xss.drop i).flatten := by rw [← List.flatten_append, List.take_append_drop]
  rw [h, List.length_append]
  omega

end Go.Proofs.Ytmchgmpdhfefjaa
