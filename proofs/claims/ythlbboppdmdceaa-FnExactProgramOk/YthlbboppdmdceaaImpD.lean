/-
  Walks: nodes made of their types, by the program.
-/
import Derived.Test.YthlbboppdmdceaaImpC
import Derived.Lib.SliceRun
import Derived.Test.YthlbboppdmdceaaBoxP
namespace Go.Proofs.Ythlbboppdmdceaa
open Go.RowKit

theorem IntsAt.made {w : World} {g : Nat} (hg : g = w.heap.size) (xs : List Int) (t : TypeId) (n c : Nat) (hn : n = xs.length) : IntsAt (w.alloc (.cells (xs.map I64).toArray t)) (.slice (some ⟨g, 0, none⟩) n c) xs := by
  subst hg hn
  refine ⟨_, c, rfl, fun j hj => ⟨_, rfl, by simp, ?_⟩⟩
  have e : (⟨w.heap.size, 0, none⟩ : Addr).add j = ⟨w.heap.size, j, none⟩ := by
    simp only [Addr.add]
    split
    · next h => subst h; rfl
    · simp
  rw [e, World.cell?_alloc_new]
  simp [hj, I64]
theorem IntsAt.nil (w : World) : IntsAt w (.slice none 0 0) [] := ⟨none, 0, rfl, fun j hj => absurd hj (Nat.not_lt_zero j)⟩
theorem IntsAt.owned {w : World} {base n : Nat} {e : TypeId} {v : Value} {xs : List Int} (h : w.ownsRow base e 1 v n (xs.map I64)) : IntsAt w v xs := by
  have hl : xs.length = n := by simpa using h.1
  by_cases hn : 0 < n
  · obtain ⟨g, cap, rfl, _, hg, hc⟩ := ownsInts_form h hn
    refine ⟨_, cap, by rw [hl], fun j hj => ⟨_, rfl, hg, ?_⟩⟩
    have e : (⟨g, 0, none⟩ : Addr).add j = ⟨g, j, none⟩ := by
      simp only [Addr.add]
      split
      · next h => subst h; rfl
      · simp
    rw [e, hc j (by omega), List.getD_eq_getElem?_getD, List.getElem?_eq_getElem hj]
    rfl
  · have h0 : n = 0 := by omega
    subst h0
    have : xs = [] := List.length_eq_zero_iff.1 hl
    subst this
    rcases h.2 with ⟨rfl, _⟩ | ⟨g, cap, cur, rfl, _⟩
    · exact ⟨none, 0, rfl, fun j hj => absurd hj (Nat.not_lt_zero j)⟩
    · exact ⟨_, cap, rfl, fun j hj => absurd hj (Nat.not_lt_zero j)⟩

/-- Several values appended to a row that is owned. -/
theorem wpList_appn {P : Program} {w : World} {ops : Array Oper} {rest : List Oper} {o : Oper} {a : Act} {Q : Exit → Act → World → Prop} (hgd : o.guard = none) (s x : Operand) (t : TypeId)
    (ho : o.op = .call { callee := .builtin .append, args := #[s, x], argTypes := #[t, t] })
    (base : Nat) (e : TypeId) (z : Value) (bytes : Nat) (ht : P.underlying t = some (.slice e)) (hi : (P.info? e).map (fun i => (i.zero, i.size, i.bytes)) = some (some z, 1, bytes)) (hzs : z.cells.size = 1)
    (v : Value) (n : Nat) (xs : List Value) (hs : a.eval s = v) (hown : w.ownsRow base e 1 v n xs)
    (ad : Addr) (m c : Nat) (news : List Value) (hx : a.eval x = .slice (some ad) m c) (hl : news.length = m) (hnews : ∀ j u, news[j]? = some u → w.cell? (ad.add j) = some u) (h1 : ∀ u ∈ news, u.oneCell' = true)
    (h63 : n + m ≤ maxLen) (hbytes : (n + m) * bytes ≤ 140737488355328) (hbase : base ≤ w.heap.size)
    (h : ∀ v' w', w'.ownsRow base e 1 v' (n + m) (xs ++ news) → Below base w w' → wpList P ops Q rest (a.put o.dst v') w') : wpList P ops Q (o :: rest) a w := by
  obtain ⟨i, hi, hz0, hz1, hz2⟩ := info_parts hi
  refine wpList_append_own _ hgd s x t ho base e i z 1 bytes ht hi hz0 hz1 hz2 hzs (by decide) v n xs hs hown ad m c news hx (by omega) hnews h1 h63 hbytes hbase ?_
  intro v' w' hown' hgrow _
  exact h v' w' hown' ((Below.refl base w).grown hgrow hbase (fun j hj => (hown.lt j hj).1))

/-- A node as a value, its kids readable. -/
def NodeV (w : World) (x : Nd) (v : Value) : Prop := ∃ kv, v = .agg #[.int .i64 x.kind, .int .i64 x.num, .string x.name, .string x.more, .string x.into, kv] ∧ IntsAt w kv x.kids

set_option maxHeartbeats 1000000 in
theorem numNode_node (nu : Int) (w : World) :
    Calls Try.prog 96 #[.agg #[.int .i64 nu]] w fun e w' => ∃ v, e = .returned v ∧ NodeV w' ⟨1, nu, ByteArray.empty, ByteArray.empty, ByteArray.empty, []⟩ v ∧ Below w.heap.size w w' := by
  go_enter Try.func96, Try.ntmps96
  go_wp2
  (try (go_region; go_wp2))
  go_returns
  exact ⟨_, rfl, ⟨_, rfl, IntsAt.nil _⟩, by go_grown⟩
set_option maxHeartbeats 1000000 in
theorem varNode_node (nm : ByteArray) (w : World) :
    Calls Try.prog 97 #[.agg #[.string nm]] w fun e w' => ∃ v, e = .returned v ∧ NodeV w' ⟨2, 0, nm, ByteArray.empty, ByteArray.empty, []⟩ v ∧ Below w.heap.size w w' := by
  go_enter Try.func97, Try.ntmps97
  go_wp2
  (try (go_region; go_wp2))
  go_returns
  exact ⟨_, rfl, ⟨_, rfl, IntsAt.nil _⟩, by go_grown⟩
set_option maxHeartbeats 1000000 in
theorem calcNode_node (nu a b : Int) (w : World) :
    Calls Try.prog 98 #[.agg #[.int .i64 nu, .int .i64 a, .int .i64 b]] w fun e w' => ∃ v, e = .returned v ∧ NodeV w' ⟨3, nu, ByteArray.empty, ByteArray.empty, ByteArray.empty, [a, b]⟩ v ∧ Below w.heap.size w w' := by
  go_enter Try.func98, Try.ntmps98
  go_wp2
  (try (go_region; go_wp2))
  go_returns
  exact ⟨_, rfl, ⟨_, rfl, IntsAt.made (by simp) [a, b] 3 2 2 rfl⟩, by go_grown⟩
set_option maxHeartbeats 1000000 in
theorem notNode_node (a : Int) (w : World) :
    Calls Try.prog 99 #[.agg #[.int .i64 a]] w fun e w' => ∃ v, e = .returned v ∧ NodeV w' ⟨4, 0, ByteArray.empty, ByteArray.empty, ByteArray.empty, [a]⟩ v ∧ Below w.heap.size w w' := by
  go_enter Try.func99, Try.ntmps99
  go_wp2
  (try (go_region; go_wp2))
  go_returns
  exact ⟨_, rfl, ⟨_, rfl, IntsAt.made (by simp) [a] 3 1 1 rfl⟩, by go_grown⟩
set_option maxHeartbeats 1000000 in
theorem negNode_node (a : Int) (w : World) :
    Calls Try.prog 100 #[.agg #[.int .i64 a]] w fun e w' => ∃ v, e = .returned v ∧ NodeV w' ⟨5, 0, ByteArray.empty, ByteArray.empty, ByteArray.empty, [a]⟩ v ∧ Below w.heap.size w w' := by
  go_enter Try.func100, Try.ntmps100
  go_wp2
  (try (go_region; go_wp2))
  go_returns
  exact ⟨_, rfl, ⟨_, rfl, IntsAt.made (by simp) [a] 3 1 1 rfl⟩, by go_grown⟩
set_option maxHeartbeats 1000000 in
theorem setNode_node (nm : ByteArray) (a : Int) (w : World) :
    Calls Try.prog 101 #[.agg #[.string nm, .int .i64 a]] w fun e w' => ∃ v, e = .returned v ∧ NodeV w' ⟨11, 0, nm, ByteArray.empty, ByteArray.empty, [a]⟩ v ∧ Below w.heap.size w w' := by
  go_enter Try.func101, Try.ntmps101
  go_wp2
  (try (go_region; go_wp2))
  go_returns
  exact ⟨_, rfl, ⟨_, rfl, IntsAt.made (by simp) [a] 3 1 1 rfl⟩, by go_grown⟩
set_option maxHeartbeats 1000000 in
theorem whileNode_node (a b : Int) (w : World) :
    Calls Try.prog 103 #[.agg #[.int .i64 a, .int .i64 b]] w fun e w' => ∃ v, e = .returned v ∧ NodeV w' ⟨13, 0, ByteArray.empty, ByteArray.empty, ByteArray.empty, [a, b]⟩ v ∧ Below w.heap.size w w' := by
  go_enter Try.func103, Try.ntmps103
  go_wp2
  (try (go_region; go_wp2))
  go_returns
  exact ⟨_, rfl, ⟨_, rfl, IntsAt.made (by simp) [a, b] 3 2 2 rfl⟩, by go_grown⟩
set_option maxHeartbeats 1000000 in
theorem callNode_node (nm mo it : ByteArray) (a : Int) (w : World) :
    Calls Try.prog 104 #[.agg #[.string nm, .string mo, .string it, .int .i64 a]] w fun e w' => ∃ v, e = .returned v ∧ NodeV w' ⟨14, 0, nm, mo, it, [a]⟩ v ∧ Below w.heap.size w w' := by
  go_enter Try.func104, Try.ntmps104
  go_wp2
  (try (go_region; go_wp2))
  go_returns
  exact ⟨_, rfl, ⟨_, rfl, IntsAt.made (by simp) [a] 3 1 1 rfl⟩, by go_grown⟩
set_option maxHeartbeats 1000000 in
theorem printNode_node (a : Int) (w : World) :
    Calls Try.prog 105 #[.agg #[.int .i64 a]] w fun e w' => ∃ v, e = .returned v ∧ NodeV w' ⟨15, 0, ByteArray.empty, ByteArray.empty, ByteArray.empty, [a]⟩ v ∧ Below w.heap.size w w' := by
  go_enter Try.func105, Try.ntmps105
  go_wp2
  (try (go_region; go_wp2))
  go_returns
  exact ⟨_, rfl, ⟨_, rfl, IntsAt.made (by simp) [a] 3 1 1 rfl⟩, by go_grown⟩
set_option maxHeartbeats 1000000 in
theorem readNode_node (nm : ByteArray) (w : World) :
    Calls Try.prog 106 #[.agg #[.string nm]] w fun e w' => ∃ v, e = .returned v ∧ NodeV w' ⟨16, 0, nm, ByteArray.empty, ByteArray.empty, []⟩ v ∧ Below w.heap.size w w' := by
  go_enter Try.func106, Try.ntmps106
  go_wp2
  (try (go_region; go_wp2))
  go_returns
  exact ⟨_, rfl, ⟨_, rfl, IntsAt.nil _⟩, by go_grown⟩
set_option maxHeartbeats 1000000 in
theorem delayNode_node (nm : ByteArray) (w : World) :
    Calls Try.prog 107 #[.agg #[.string nm]] w fun e w' => ∃ v, e = .returned v ∧ NodeV w' ⟨17, 0, nm, ByteArray.empty, ByteArray.empty, []⟩ v ∧ Below w.heap.size w w' := by
  go_enter Try.func107, Try.ntmps107
  go_wp2
  (try (go_region; go_wp2))
  go_returns
  exact ⟨_, rfl, ⟨_, rfl, IntsAt.nil _⟩, by go_grown⟩
set_option maxHeartbeats 1000000 in
theorem contNode_node (nm : ByteArray) (w : World) :
    Calls Try.prog 108 #[.agg #[.string nm]] w fun e w' => ∃ v, e = .returned v ∧ NodeV w' ⟨18, 0, nm, ByteArray.empty, ByteArray.empty, []⟩ v ∧ Below w.heap.size w w' := by
  go_enter Try.func108, Try.ntmps108
  go_wp2
  (try (go_region; go_wp2))
  go_returns
  exact ⟨_, rfl, ⟨_, rfl, IntsAt.nil _⟩, by go_grown⟩
set_option maxHeartbeats 1000000 in
theorem skipNode_node  (w : World) :
    Calls Try.prog 109 #[.agg #[]] w fun e w' => ∃ v, e = .returned v ∧ NodeV w' ⟨19, 0, ByteArray.empty, ByteArray.empty, ByteArray.empty, []⟩ v ∧ Below w.heap.size w w' := by
  go_enter Try.func109, Try.ntmps109
  go_wp2
  (try (go_region; go_wp2))
  go_returns
  exact ⟨_, rfl, ⟨_, rfl, IntsAt.nil _⟩, by go_grown⟩

set_option maxRecDepth 100000 in
set_option maxHeartbeats 1000000 in
theorem clone_any (v : Value) (ks : List Int) (w : World) (hK : IntsAt w v ks) (hl : ks.length ≤ 1048576) :
    Calls Try.prog 111 #[v] w fun e w' => ∃ v', e = .returned v' ∧ IntsIn w.heap.size w' v' ks ∧ Below w.heap.size w w' := by
  obtain ⟨ao, c, rfl, hc⟩ := hK
  cases ao with
  | none =>
    have h0 : ks = [] := by
      rcases ks with _ | ⟨x, ks⟩
      · rfl
      · obtain ⟨a, ha, _⟩ := hc 0 (by simp)
        simp at ha
    subst h0
    clear hc hl
    have hnil := fun w : World => Lib.run_eql_slice_nil (P := Try.prog) w 43 3 none 0 c 0 0 Try.underlying43
    go_enter Try.func111, Try.ntmps111
    go_wp2
    go_returns
    exact ⟨_, rfl, ⟨none, 0, rfl, Nat.le_refl _, fun j u hj => by simp at hj⟩, Below.refl _ _⟩
  | some a =>
    have HO := hide (ownsRow_empty w w.heap.size 3 (Nat.le_refl _))
    have HC : Hid (∀ j u, (ks.map I64)[j]? = some u → (w.alloc (.cells #[] 3)).cell? (a.add j) = some u) := by
      intro j u hj
      rw [List.getElem?_map] at hj
      obtain ⟨x, hx, rfl⟩ := Option.map_eq_some_iff.1 hj
      obtain ⟨hj2, rfl⟩ := List.getElem?_eq_some_iff.1 hx
      obtain ⟨a', ha, hb, hcell⟩ := hc j hj2
      cases ha
      rw [World.cell?_alloc_lt _ _ _ (by rw [block_add]; exact hb)]
      exact hcell
    have HL : Hid ((ks.map I64).length = ks.length) := List.length_map ..
    clear hc
    obtain ⟨n, hn⟩ : ∃ n, ks.length = n := ⟨_, rfl⟩
    rw [hn] at HL hl ⊢
    clear hn
    have b1 : Hid (0 + n ≤ maxLen) := by show _ ≤ _; unfold maxLen; omega
    have b2 : Hid ((0 + n) * 8 ≤ 140737488355328) := by show _ ≤ _; omega
    clear hl
    have hnil := fun w : World => Lib.run_eql_slice_nil (P := Try.prog) w 43 3 (some a) n c 0 0 Try.underlying43
    go_enter Try.func111, Try.ntmps111
    go_wp2_with (at_builtin; refine wpList_appn rfl (.tmp 5) (.tmp 6) 43 rfl w.heap.size 3 (.int .i64 0) 8 Try.underlying43 Try.infoInt rfl _ _ _ rfl HO.out _ _ _ (ks.map I64) rfl HL.out HC.out (by intro u hu; obtain ⟨x, _, rfl⟩ := List.mem_map.1 hu; rfl) b1.out b2.out (by simp) ?_)
    intro v' w4 hown4 hb4
    have R : Hid (IntsIn w.heap.size w4 v' ks) := CellsIn.own (n := n) hown4
    have HB : Hid (Below w.heap.size w w4) := ((Below.refl w.heap.size w).alloc (Nat.le_refl _) _).trans hb4
    clear hown4 hb4
    go_wp2
    go_returns
    exact ⟨_, rfl, R.out, HB.out⟩
end Go.Proofs.Ythlbboppdmdceaa
