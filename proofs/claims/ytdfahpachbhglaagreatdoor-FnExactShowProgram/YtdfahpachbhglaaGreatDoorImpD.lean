/-
  Walks: nodes made of their types, by the program.
-/
import Derived.Test.YtdfahpachbhglaaGreatDoorImpA
import Derived.Lib.SliceRun
import Derived.Test.YtdfahpachbhglaaGreatDoorRowP
import Derived.Test.YtdfahpachbhglaaGreatDoorTreeW
import Derived.Test.YtdfahpachbhglaaGreatDoorAidCard
namespace Go.Proofs.YtdfahpachbhglaaGreatDoor
open Go.RowKit

theorem IntsAt.made {w : World} {g : Nat} (hg : g = w.heap.size) (xs : List Int) (t : TypeId) (n c : Nat) (hn : n = xs.length) : IntsAt (w.alloc (.cells (xs.map I64).toArray t)) (.slice (some ⟨g, 0, none⟩) n c) xs := by
  subst hg hn
  refine ⟨_, c, rfl, fun j hj => ⟨_, rfl, by simp, ?_⟩⟩
  have e : (⟨w.heap.size, 0, none⟩ : Addr).add j = ⟨w.heap.size, j, none⟩ := by
    simp only [Addr.add]
    split
    · next h => subst h; rfl
    · simp
  rw [e, World.cell?_alloc_new]
  simp [hj, I64]
theorem IntsAt.nil (w : World) : IntsAt w (.slice none 0 0) [] := ⟨none, 0, rfl, fun j hj => absurd hj (Nat.not_lt_zero j)⟩
theorem IntsAt.owned {w : World} {base n : Nat} {e : TypeId} {v : Value} {xs : List Int} (h : w.ownsRow base e 1 v n (xs.map I64)) : IntsAt w v xs := by
  have hl : xs.length = n := by simpa using h.1
  by_cases hn : 0 < n
  · obtain ⟨g, cap, rfl, _, hg, hc⟩ := ownsInts_form h hn
    refine ⟨_, cap, by rw [hl], fun j hj => ⟨_, rfl, hg, ?_⟩⟩
    have e : (⟨g, 0, none⟩ : Addr).add j = ⟨g, j, none⟩ := by
      simp only [Addr.add]
      split
      · next h => subst h; rfl
      · simp
    rw [e, hc j (by omega), List.getD_eq_getElem?_getD, List.getElem?_eq_getElem hj]
    rfl
  · have h0 : n = 0 := by omega
    subst h0
    have : xs = [] := List.length_eq_zero_iff.1 hl
    subst this
    rcases h.2 with ⟨rfl, _⟩ | ⟨g, cap, cur, rfl, _⟩
    · exact ⟨none, 0, rfl, fun j hj => absurd hj (Nat.not_lt_zero j)⟩
    · exact ⟨_, cap, rfl, fun j hj => absurd hj (Nat.not_lt_zero j)⟩

/-- Several values appended to a row that is owned. -/
theorem wpList_appn {P : Program} {w : World} {ops : Array Oper} {rest : List Oper} {o : Oper} {a : Act} {Q : Exit → Act → World → Prop} (hgd : o.guard = none) (s x : Operand) (t : TypeId)
    (ho : o.op = .call { callee := .builtin .append, args := #[s, x], argTypes := #[t, t] })
    (base : Nat) (e : TypeId) (z : Value) (bytes : Nat) (ht : P.underlying t = some (.slice e)) (hi : (P.info? e).map (fun i => (i.zero, i.size, i.bytes)) = some (some z, 1, bytes)) (hzs : z.cells.size = 1)
    (v : Value) (n : Nat) (xs : List Value) (hs : a.eval s = v) (hown : w.ownsRow base e 1 v n xs)
    (ad : Addr) (m c : Nat) (news : List Value) (hx : a.eval x = .slice (some ad) m c) (hl : news.length = m) (hnews : ∀ j u, news[j]? = some u → w.cell? (ad.add j) = some u) (h1 : ∀ u ∈ news, u.oneCell' = true)
    (h63 : n + m ≤ maxLen) (hbytes : (n + m) * bytes ≤ 140737488355328) (hbase : base ≤ w.heap.size)
    (h : ∀ v' w', w'.ownsRow base e 1 v' (n + m) (xs ++ news) → Below base w w' → wpList P ops Q rest (a.put o.dst v') w') : wpList P ops Q (o :: rest) a w := by
  obtain ⟨i, hi, hz0, hz1, hz2⟩ := info_parts hi
  refine wpList_append_own _ hgd s x t ho base e i z 1 bytes ht hi hz0 hz1 hz2 hzs (by decide) v n xs hs hown ad m c news hx (by omega) hnews h1 h63 hbytes hbase ?_
  intro v' w' hown' hgrow _
  exact h v' w' hown' ((Below.refl base w).grown hgrow hbase (fun j hj => (hown.lt j hj).1))

/-- A node as a value, its kids readable. -/
def NodeV (w : World) (x : Nd) (v : Value) : Prop := ∃ kv, v = .agg #[.int .i64 x.kind, .int .i64 x.num, .string x.name, .string x.more, .string x.into, kv] ∧ IntsAt w kv x.kids

set_option maxHeartbeats 1000000 in
theorem numNode_node (nu : Int) (w : World) :
    Calls Tryz.prog 145 #[.agg #[.int .i64 nu]] w fun e w' => ∃ v, e = .returned v ∧ NodeV w' ⟨1, nu, ByteArray.empty, ByteArray.empty, ByteArray.empty, []⟩ v ∧ Below w.heap.size w w' := by
  go_enter Tryz.func145, Tryz.ntmps145
  go_wp2
  (try (go_region; go_wp2))
  go_returns
  exact ⟨_, rfl, ⟨_, rfl, IntsAt.nil _⟩, by go_grown⟩
set_option maxHeartbeats 1000000 in
theorem varNode_node (nm : ByteArray) (w : World) :
    Calls Tryz.prog 146 #[.agg #[.string nm]] w fun e w' => ∃ v, e = .returned v ∧ NodeV w' ⟨2, 0, nm, ByteArray.empty, ByteArray.empty, []⟩ v ∧ Below w.heap.size w w' := by
  go_enter Tryz.func146, Tryz.ntmps146
  go_wp2
  (try (go_region; go_wp2))
  go_returns
  exact ⟨_, rfl, ⟨_, rfl, IntsAt.nil _⟩, by go_grown⟩
set_option maxHeartbeats 1000000 in
theorem calcNode_node (nu a b : Int) (w : World) :
    Calls Tryz.prog 147 #[.agg #[.int .i64 nu, .int .i64 a, .int .i64 b]] w fun e w' => ∃ v, e = .returned v ∧ NodeV w' ⟨3, nu, ByteArray.empty, ByteArray.empty, ByteArray.empty, [a, b]⟩ v ∧ Below w.heap.size w w' := by
  go_enter Tryz.func147, Tryz.ntmps147
  go_wp2
  (try (go_region; go_wp2))
  go_returns
  exact ⟨_, rfl, ⟨_, rfl, IntsAt.made (by simp) [a, b] 3 2 2 rfl⟩, by go_grown⟩
set_option maxHeartbeats 1000000 in
theorem notNode_node (a : Int) (w : World) :
    Calls Tryz.prog 148 #[.agg #[.int .i64 a]] w fun e w' => ∃ v, e = .returned v ∧ NodeV w' ⟨4, 0, ByteArray.empty, ByteArray.empty, ByteArray.empty, [a]⟩ v ∧ Below w.heap.size w w' := by
  go_enter Tryz.func148, Tryz.ntmps148
  go_wp2
  (try (go_region; go_wp2))
  go_returns
  exact ⟨_, rfl, ⟨_, rfl, IntsAt.made (by simp) [a] 3 1 1 rfl⟩, by go_grown⟩
set_option maxHeartbeats 1000000 in
theorem negNode_node (a : Int) (w : World) :
    Calls Tryz.prog 149 #[.agg #[.int .i64 a]] w fun e w' => ∃ v, e = .returned v ∧ NodeV w' ⟨5, 0, ByteArray.empty, ByteArray.empty, ByteArray.empty, [a]⟩ v ∧ Below w.heap.size w w' := by
  go_enter Tryz.func149, Tryz.ntmps149
  go_wp2
  (try (go_region; go_wp2))
  go_returns
  exact ⟨_, rfl, ⟨_, rfl, IntsAt.made (by simp) [a] 3 1 1 rfl⟩, by go_grown⟩
set_option maxHeartbeats 1000000 in
theorem setNode_node (nm : ByteArray) (a : Int) (w : World) :
    Calls Tryz.prog 150 #[.agg #[.string nm, .int .i64 a]] w fun e w' => ∃ v, e = .returned v ∧ NodeV w' ⟨11, 0, nm, ByteArray.empty, ByteArray.empty, [a]⟩ v ∧ Below w.heap.size w w' := by
  go_enter Tryz.func150, Tryz.ntmps150
  go_wp2
  (try (go_region; go_wp2))
  go_returns
  exact ⟨_, rfl, ⟨_, rfl, IntsAt.made (by simp) [a] 3 1 1 rfl⟩, by go_grown⟩
set_option maxHeartbeats 1000000 in
theorem whileNode_node (a b : Int) (w : World) :
    Calls Tryz.prog 152 #[.agg #[.int .i64 a, .int .i64 b]] w fun e w' => ∃ v, e = .returned v ∧ NodeV w' ⟨13, 0, ByteArray.empty, ByteArray.empty, ByteArray.empty, [a, b]⟩ v ∧ Below w.heap.size w w' := by
  go_enter Tryz.func152, Tryz.ntmps152
  go_wp2
  (try (go_region; go_wp2))
  go_returns
  exact ⟨_, rfl, ⟨_, rfl, IntsAt.made (by simp) [a, b] 3 2 2 rfl⟩, by go_grown⟩
set_option maxHeartbeats 1000000 in
theorem callNode_node (nm mo it : ByteArray) (a : Int) (w : World) :
    Calls Tryz.prog 153 #[.agg #[.string nm, .string mo, .string it, .int .i64 a]] w fun e w' => ∃ v, e = .returned v ∧ NodeV w' ⟨14, 0, nm, mo, it, [a]⟩ v ∧ Below w.heap.size w w' := by
  go_enter Tryz.func153, Tryz.ntmps153
  go_wp2
  (try (go_region; go_wp2))
  go_returns
  exact ⟨_, rfl, ⟨_, rfl, IntsAt.made (by simp) [a] 3 1 1 rfl⟩, by go_grown⟩
set_option maxHeartbeats 1000000 in
theorem printNode_node (a : Int) (w : World) :
    Calls Tryz.prog 154 #[.agg #[.int .i64 a]] w fun e w' => ∃ v, e = .returned v ∧ NodeV w' ⟨15, 0, ByteArray.empty, ByteArray.empty, ByteArray.empty, [a]⟩ v ∧ Below w.heap.size w w' := by
  go_enter Tryz.func154, Tryz.ntmps154
  go_wp2
  (try (go_region; go_wp2))
  go_returns
  exact ⟨_, rfl, ⟨_, rfl, IntsAt.made (by simp) [a] 3 1 1 rfl⟩, by go_grown⟩
set_option maxHeartbeats 1000000 in
theorem readNode_node (nm : ByteArray) (w : World) :
    Calls Tryz.prog 155 #[.agg #[.string nm]] w fun e w' => ∃ v, e = .returned v ∧ NodeV w' ⟨16, 0, nm, ByteArray.empty, ByteArray.empty, []⟩ v ∧ Below w.heap.size w w' := by
  go_enter Tryz.func155, Tryz.ntmps155
  go_wp2
  (try (go_region; go_wp2))
  go_returns
  exact ⟨_, rfl, ⟨_, rfl, IntsAt.nil _⟩, by go_grown⟩
set_option maxHeartbeats 1000000 in
theorem delayNode_node (nm : ByteArray) (w : World) :
    Calls Tryz.prog 156 #[.agg #[.string nm]] w fun e w' => ∃ v, e = .returned v ∧ NodeV w' ⟨17, 0, nm, ByteArray.empty, ByteArray.empty, []⟩ v ∧ Below w.heap.size w w' := by
  go_enter Tryz.func156, Tryz.ntmps156
  go_wp2
  (try (go_region; go_wp2))
  go_returns
  exact ⟨_, rfl, ⟨_, rfl, IntsAt.nil _⟩, by go_grown⟩
set_option maxHeartbeats 1000000 in
theorem contNode_node (nm : ByteArray) (w : World) :
    Calls Tryz.prog 157 #[.agg #[.string nm]] w fun e w' => ∃ v, e = .returned v ∧ NodeV w' ⟨18, 0, nm, ByteArray.empty, ByteArray.empty, []⟩ v ∧ Below w.heap.size w w' := by
  go_enter Tryz.func157, Tryz.ntmps157
  go_wp2
  (try (go_region; go_wp2))
  go_returns
  exact ⟨_, rfl, ⟨_, rfl, IntsAt.nil _⟩, by go_grown⟩
set_option maxHeartbeats 1000000 in
theorem skipNode_node  (w : World) :
    Calls Tryz.prog 158 #[.agg #[]] w fun e w' => ∃ v, e = .returned v ∧ NodeV w' ⟨19, 0, ByteArray.empty, ByteArray.empty, ByteArray.empty, []⟩ v ∧ Below w.heap.size w w' := by
  go_enter Tryz.func158, Tryz.ntmps158
  go_wp2
  (try (go_region; go_wp2))
  go_returns
  exact ⟨_, rfl, ⟨_, rfl, IntsAt.nil _⟩, by go_grown⟩

set_option maxRecDepth 100000 in
set_option maxHeartbeats 1000000 in
theorem clone_any (v : Value) (ks : List Int) (w : World) (hK : IntsAt w v ks) (hl : ks.length ≤ 1048576) :
    Calls Tryz.prog 144 #[v] w fun e w' => ∃ v', e = .returned v' ∧ IntsIn w.heap.size w' v' ks ∧ Below w.heap.size w w' := by
  obtain ⟨ao, c, rfl, hc⟩ := hK
  cases ao with
  | none =>
    have h0 : ks = [] := by
      rcases ks with _ | ⟨x, ks⟩
      · rfl
      · obtain ⟨a, ha, _⟩ := hc 0 (by simp)
        simp at ha
    subst h0
    clear hc hl
    have hnil := fun w : World => Lib.run_eql_slice_nil (P := Tryz.prog) w 67 3 none 0 c 0 0 Tryz.underlying67
    go_enter Tryz.func144, Tryz.ntmps144
    go_wp2
    go_returns
    exact ⟨_, rfl, ⟨none, 0, rfl, ⟨Nat.le_refl _, fun h => absurd h (by simp)⟩, fun j u hj => by simp at hj⟩, Below.refl _ _⟩
  | some a =>
    have HO := hide (ownsRow_empty w w.heap.size 3 (Nat.le_refl _))
    have HC : Hid (∀ j u, (ks.map I64)[j]? = some u → (w.alloc (.cells #[] 3)).cell? (a.add j) = some u) := by
      intro j u hj
      rw [List.getElem?_map] at hj
      obtain ⟨x, hx, rfl⟩ := Option.map_eq_some_iff.1 hj
      obtain ⟨hj2, rfl⟩ := List.getElem?_eq_some_iff.1 hx
      obtain ⟨a', ha, hb, hcell⟩ := hc j hj2
      cases ha
      rw [World.cell?_alloc_lt _ _ _ (by rw [block_add]; exact hb)]
      exact hcell
    have HL : Hid ((ks.map I64).length = ks.length) := List.length_map ..
    clear hc
    obtain ⟨n, hn⟩ : ∃ n, ks.length = n := ⟨_, rfl⟩
    rw [hn] at HL hl ⊢
    clear hn
    have b1 : Hid (0 + n ≤ maxLen) := by show _ ≤ _; unfold maxLen; omega
    have b2 : Hid ((0 + n) * 8 ≤ 140737488355328) := by show _ ≤ _; omega
    clear hl
    have hnil := fun w : World => Lib.run_eql_slice_nil (P := Tryz.prog) w 67 3 (some a) n c 0 0 Tryz.underlying67
    go_enter Tryz.func144, Tryz.ntmps144
    go_wp2_with (at_builtin; refine wpList_appn rfl (.tmp 5) (.tmp 6) 67 rfl w.heap.size 3 (.int .i64 0) 8 Tryz.underlying67 Tryz.infoInt rfl _ _ _ rfl HO.out _ _ _ (ks.map I64) rfl HL.out HC.out (by intro u hu; obtain ⟨x, _, rfl⟩ := List.mem_map.1 hu; rfl) b1.out b2.out (by simp) ?_)
    intro v' w4 hown4 hb4
    have R : Hid (IntsIn w.heap.size w4 v' ks) := CellsIn.own (n := n) hown4
    have HB : Hid (Below w.heap.size w w4) := ((Below.refl w.heap.size w).alloc (Nat.le_refl _) _).trans hb4
    clear hown4 hb4
    go_wp2
    go_returns
    exact ⟨_, rfl, R.out, HB.out⟩
end Go.Proofs.YtdfahpachbhglaaGreatDoor

namespace Go.Proofs.YtdfahpachbhglaaGreatDoor
open Go.RowKit

def StmtsR (W1 : World) (l : List Int) (m : Nat) (iv : Value) (wr : World) : Prop :=
  ∃ i : Nat, i ≤ m ∧ iv = .int .i64 i ∧ Hid (Below W1.heap.size W1 wr) ∧ Hid (∀ j x, j < i → l[j]? = some x → stmtQ x = true)
theorem all_no {α : Type} {q : α → Bool} {l : List α} {i : Nat} {x : α} (h : l[i]? = some x) (hq : q x = false) : l.all q = false := by
  have := all_drop_no (n := 0) h (Nat.zero_le _) hq
  simpa using this
theorem all_yes {α : Type} {q : α → Bool} {l : List α} (h : ∀ (j : Nat) (x : α), l[j]? = some x → q x = true) : l.all q = true := by
  have := all_drop_yes (l := l) (q := q) (n := 0) (fun j x _ => h j x)
  simpa using this

set_option maxRecDepth 100000 in
set_option maxHeartbeats 4000000 in
theorem l05Kids_any (nv mv pv : Value) (ns : List Nd) (k : Nat) (w : World) (hN : NdsAt w nv ns) (hk : k < ns.length) (hl : ns.length ≤ 1048576) (hkl : ns[k].kids.length ≤ 1048576) :
    Calls Tryz.prog 75 #[.agg #[nv, mv, pv], .int .i64 (k : Int)] w fun e w' => e = .returned (.bool (kidsB ns[k].kind (kinds ns k))) ∧ Below w.heap.size w w' := by
  have hb1 : Below w.heap.size w (w.alloc (.cells #[nv, mv, pv] 34)) := (Below.refl _ _).alloc (Nat.le_refl _) _
  have HN := hide (hN.stays hb1)
  have HX := hide (Boxed.made w nv mv pv 34)
  have HB := hide hb1
  obtain ⟨a, c, p, kv, rfl, hpa, hpb, hcell⟩ := HN.out.node k hk
  have d0 := hcell.c0
  have d5 := hcell.c5
  obtain ⟨bo, cb, rfl, _⟩ := hcell.kids
  have hi0 : (0 : Int) ≤ (k : Int) := by omega
  have hi1 : (k : Int) < (ns.length : Int) := by omega
  have CV := fun n hn w (h : NdsAt w (.slice (some a) ns.length c) ns) => hide (l05Values_any (.slice (some a) ns.length c) mv pv ns k n w h hk hn hl hkl)
  have CB := fun n hn w (h : NdsAt w (.slice (some a) ns.length c) ns) => hide (l05Blocks_any (.slice (some a) ns.length c) mv pv ns k n w h hk hn hl hkl)
  have CK := fun i hi w (h : NdsAt w (.slice (some a) ns.length c) ns) => hide (l05Kid_any (.slice (some a) ns.length c) mv pv ns k i w h hk hi hl)
  have HL := hide (kinds_len hk)
  have HK := fun i hi => hide (kinds_at? (i := i) hk hi)
  obtain ⟨l, el⟩ : ∃ l, kinds ns k = l := ⟨_, rfl⟩
  simp only [el] at CV CB HL HK ⊢
  obtain ⟨kd, ek⟩ : ∃ kd, ns[k].kind = kd := ⟨_, rfl⟩
  rw [ek] at d0 ⊢
  obtain ⟨m, em⟩ : ∃ m, ns[k].kids.length = m := ⟨_, rfl⟩
  rw [em] at d5 hkl
  have EM := hide em
  clear hN hb1 hcell el ek em hpb
  by_cases h0 : kd = 1 ∨ kd = 2 ∨ kd = 16 ∨ kd = 17 ∨ kd = 18 ∨ kd = 19
  · have HF : Hid (kidsB kd l = decide (m = 0)) := by show _ = _; rw [kidsB, if_pos h0, HL.out, EM.out]
    by_cases hm : m = 0
    · subst hm
      rcases h0 with rfl | rfl | rfl | rfl | rfl | rfl
      all_goals
        go_enter Tryz.func75, Tryz.ntmps75
        go_wp2
        go_ret
        exact ⟨by rw [HF.out]; rfl, HB.out⟩
    · have hm' : ¬ (m : Int) = 0 := by omega
      rcases h0 with rfl | rfl | rfl | rfl | rfl | rfl
      all_goals
        go_enter Tryz.func75, Tryz.ntmps75
        go_wp2
        go_ret
        exact ⟨by rw [HF.out]; simp [hm], HB.out⟩
  by_cases h3 : kd = 3
  · subst h3
    have HF : Hid (kidsB 3 l = (decide (m = 2) && (l.take 2).all valueQ)) := by show _ = _; rw [kidsB, if_neg h0, if_pos rfl, HL.out, EM.out]
    clear h0
    by_cases hm : m = 2
    · subst hm
      have C := CV 2 (by rw [EM.out]; omega)
      clear CV CB CK HK
      obtain ⟨b, eb⟩ : ∃ b, (l.take 2).all valueQ = b := ⟨_, rfl⟩
      simp only [eb] at C HF
      clear eb
      go_enter Tryz.func75, Tryz.ntmps75
      go_wp2_with (go_at_call 93; refine (unhide (C _ HN.out)).mono ?_; rintro e w2 ⟨rfl, hb2⟩)
      go_ret
      exact ⟨by rw [HF.out]; rfl, HB.out.trans (hb2.mono HB.out.size)⟩
    · have hm' : ¬ (m : Int) = 2 := by omega
      clear CV CB CK HK
      go_enter Tryz.func75, Tryz.ntmps75
      go_wp2
      go_ret
      exact ⟨by rw [HF.out]; simp [hm], HB.out⟩
  by_cases h4 : kd = 4 ∨ kd = 5 ∨ kd = 11 ∨ kd = 14 ∨ kd = 15
  · have HF : Hid (kidsB kd l = (decide (m = 1) && (l.take 1).all valueQ)) := by show _ = _; rw [kidsB, if_neg h0, if_neg h3, if_pos h4, HL.out, EM.out]
    clear h0 h3
    by_cases hm : m = 1
    · subst hm
      have C := CV 1 (by rw [EM.out]; omega)
      clear CV CB CK HK
      obtain ⟨b, eb⟩ : ∃ b, (l.take 1).all valueQ = b := ⟨_, rfl⟩
      simp only [eb] at C HF
      clear eb
      rcases h4 with rfl | rfl | rfl | rfl | rfl
      all_goals
        go_enter Tryz.func75, Tryz.ntmps75
        go_wp2_with (go_at_call 93; refine (unhide (C _ HN.out)).mono ?_; rintro e w2 ⟨rfl, hb2⟩)
        go_ret
        exact ⟨by rw [HF.out]; rfl, HB.out.trans (hb2.mono HB.out.size)⟩
    · have hm' : ¬ (m : Int) = 1 := by omega
      clear CV CB CK HK
      rcases h4 with rfl | rfl | rfl | rfl | rfl
      all_goals
        go_enter Tryz.func75, Tryz.ntmps75
        go_wp2
        go_ret
        exact ⟨by rw [HF.out]; simp [hm], HB.out⟩
  by_cases h12 : kd = 12
  · subst h12
    have HF : Hid (kidsB 12 l = (decide (m = 2 ∨ m = 3) && (l.take 1).all valueQ && (l.drop 1).all blockQ)) := by show _ = _; rw [kidsB, if_neg h0, if_neg h3, if_neg h4, if_pos rfl, HL.out, EM.out]
    clear h0 h3 h4
    by_cases hm : m = 2 ∨ m = 3
    · have C1 := CV 1 (by rw [EM.out]; omega)
      have C2 := CB 1 (by rw [EM.out]; omega)
      clear CV CB CK HK
      obtain ⟨b1, eb1⟩ : ∃ b, (l.take 1).all valueQ = b := ⟨_, rfl⟩
      obtain ⟨b2, eb2⟩ : ∃ b, (l.drop 1).all blockQ = b := ⟨_, rfl⟩
      simp only [eb1, eb2] at C1 C2 HF
      clear eb1 eb2
      rcases hm with rfl | rfl
      all_goals
        cases b1
        all_goals
          go_enter Tryz.func75, Tryz.ntmps75
          go_wp2_with (first | (go_at_call 93; refine (unhide (C1 _ HN.out)).mono ?_; rintro e w2 ⟨rfl, hb2⟩; obtain ⟨g0, g1, g2, _⟩ := HX.out.stays hb2) | (go_at_call 94; refine (unhide (C2 _ (HN.out.stays hb2))).mono ?_; rintro e w3 ⟨rfl, hb3⟩))
          go_ret
          first
          | exact ⟨by rw [HF.out]; rfl, HB.out.trans ((hb2.trans (hb3.mono hb2.size)).mono HB.out.size)⟩
          | exact ⟨by rw [HF.out]; rfl, HB.out.trans (hb2.mono HB.out.size)⟩
    · have hm2 : ¬ (m : Int) = 2 := by omega
      have hm3 : ¬ (m : Int) = 3 := by omega
      clear CV CB CK HK
      go_enter Tryz.func75, Tryz.ntmps75
      go_wp2
      go_ret
      exact ⟨by rw [HF.out]; simp [hm], HB.out⟩
  by_cases h13 : kd = 13
  · subst h13
    have HF : Hid (kidsB 13 l = (decide (m = 2) && (l.take 1).all valueQ && (l.drop 1).all blockQ)) := by show _ = _; rw [kidsB, if_neg h0, if_neg h3, if_neg h4, if_neg h12, if_pos rfl, HL.out, EM.out]
    clear h0 h3 h4 h12
    by_cases hm : m = 2
    · have C1 := CV 1 (by rw [EM.out]; omega)
      have C2 := CB 1 (by rw [EM.out]; omega)
      clear CV CB CK HK
      obtain ⟨b1, eb1⟩ : ∃ b, (l.take 1).all valueQ = b := ⟨_, rfl⟩
      obtain ⟨b2, eb2⟩ : ∃ b, (l.drop 1).all blockQ = b := ⟨_, rfl⟩
      simp only [eb1, eb2] at C1 C2 HF
      clear eb1 eb2
      subst hm
      cases b1
      all_goals
        go_enter Tryz.func75, Tryz.ntmps75
        go_wp2_with (first | (go_at_call 93; refine (unhide (C1 _ HN.out)).mono ?_; rintro e w2 ⟨rfl, hb2⟩; obtain ⟨g0, g1, g2, _⟩ := HX.out.stays hb2) | (go_at_call 94; refine (unhide (C2 _ (HN.out.stays hb2))).mono ?_; rintro e w3 ⟨rfl, hb3⟩))
        go_ret
        first
        | exact ⟨by rw [HF.out]; rfl, HB.out.trans ((hb2.trans (hb3.mono hb2.size)).mono HB.out.size)⟩
        | exact ⟨by rw [HF.out]; rfl, HB.out.trans (hb2.mono HB.out.size)⟩
    · have hm2 : ¬ (m : Int) = 2 := by omega
      clear CV CB CK HK
      go_enter Tryz.func75, Tryz.ntmps75
      go_wp2
      go_ret
      exact ⟨by rw [HF.out]; simp [hm], HB.out⟩
  have HF : Hid (kidsB kd l = (l.all stmtQ && inZ 1 12 m)) := by show _ = _; rw [kidsB, if_neg h0, if_neg h3, if_neg h4, if_neg h12, if_neg h13, HL.out, EM.out]
  simp only [not_or] at h0 h4
  obtain ⟨n1, n2, n16, n17, n18, n19⟩ := h0
  obtain ⟨n4, n5, n11, n14, n15⟩ := h4
  clear CV CB
  go_enter Tryz.func75, Tryz.ntmps75
  go_wp2
  obtain ⟨W1, hW⟩ : ∃ W1, w.alloc (.cells #[.slice (some a) ns.length c, mv, pv] 34) = W1 := ⟨_, rfl⟩
  rw [hW] at HN HX HB ⊢
  have eb : ∀ y : Int, ¬ kd = y → (kd == y) = false := fun y h => by simp [h]
  simp only [eb _ n1, eb _ n2, eb _ n16, eb _ n17, eb _ n18, eb _ n19, eb _ n4, eb _ n5, eb _ n11, eb _ n14, eb _ n15, eb _ h3, eb _ h12, eb _ h13]
  clear eb
  clear d0 d5 hW n1 n2 n16 n17 n18 n19 n4 n5 n11 n14 n15 h3 h12 h13
  go_loopw [6] (StmtsR W1 l m) (fun iv _ => m - (intOf iv).toNat)
  case atStart => exact ⟨0, by omega, rfl, Below.refl _ _, fun j x hj => absurd hj (Nat.not_lt_zero j)⟩
  case round =>
    obtain ⟨i, hi, rfl, HB2, HA⟩ := hrel
    obtain ⟨c0, c1, c2, _⟩ := HX.out.stays HB2.out
    by_cases hlt : i < m
    · have hlt' : (i : Int) < (m : Int) := by omega
      have hik : i < ns[k].kids.length := by rw [EM.out]; exact hlt
      have C1 := CK i hik
      have C2 := fun x w => hide (l05Statement_any x w)
      have hx := HK i hik
      obtain ⟨x, ex⟩ : ∃ x, x = kidKind ns k ns[k].kids[i] := ⟨_, rfl⟩
      rw [← ex] at hx
      simp only [← ex] at C1
      clear ex CK HK
      have HN2 := hide (HN.out.stays HB2.out)
      cases hv : stmtQ x with
      | true =>
        have C2 := C2 x
        rw [hv] at C2
        go_wp2_with (first | (go_at_call 95; refine (unhide (C1 _ HN2.out)).mono ?_; rintro e w2 ⟨rfl, hb2⟩; have HB3 := hide hb2; clear hb2) | (go_at_call 74; refine (unhide (C2 _)).mono ?_; rintro e w3 ⟨rfl, rfl⟩))
        go_roundw
        case rel => exact ⟨i + 1, by omega, by go_num, HB2.out.trans (HB3.out.mono HB2.out.size), fun j y hj hy => by
          rcases Nat.lt_succ_iff_lt_or_eq.1 hj with hj | hj
          · exact HA.out j y hj hy
          · subst hj; rw [hx.out] at hy; cases hy; exact hv⟩
        case measure => simp [intOf]; omega
      | false =>
        have C2 := C2 x
        rw [hv] at C2
        go_wp2_with (first | (go_at_call 95; refine (unhide (C1 _ HN2.out)).mono ?_; rintro e w2 ⟨rfl, hb2⟩; have HB3 := hide hb2; clear hb2) | (go_at_call 74; refine (unhide (C2 _)).mono ?_; rintro e w3 ⟨rfl, rfl⟩))
        go_ret
        exact ⟨by rw [HF.out, all_no hx.out hv]; rfl, HB.out.trans ((HB2.out.trans (HB3.out.mono HB2.out.size)).mono HB.out.size)⟩
    · have hlt' : ¬ (i : Int) < (m : Int) := by omega
      have HA2 : Hid (l.all stmtQ = true) := all_yes (fun j x hx => HA.out j x (by have := (List.getElem?_eq_some_iff.1 hx).1; rw [HL.out, EM.out] at this; omega) hx)
      have C := fun w => hide (l01In_gen (m : Int) 1 12 w)
      go_wp2_with (go_at_call 30; refine (unhide (C _)).mono ?_; rintro e w3 ⟨rfl, rfl⟩)
      go_ret
      exact ⟨by rw [HF.out, HA2.out]; rfl, HB.out.trans (HB2.out.mono HB.out.size)⟩
end Go.Proofs.YtdfahpachbhglaaGreatDoor

namespace Go.Proofs.YtdfahpachbhglaaGreatDoor
open Go.RowKit

theorem IntsAt.more {w : World} {g : Nat} (hg : g = w.heap.size) (xs : List Int) (zs : Array Value) (t : TypeId) (n c : Nat) (hn : n = xs.length) : IntsAt (w.alloc (.cells ((xs.map I64).toArray ++ zs) t)) (.slice (some ⟨g, 0, none⟩) n c) xs := by
  subst hg hn
  refine ⟨_, c, rfl, fun j hj => ⟨_, rfl, by simp, ?_⟩⟩
  have e : (⟨w.heap.size, 0, none⟩ : Addr).add j = ⟨w.heap.size, j, none⟩ := by
    simp only [Addr.add]
    split
    · next h => subst h; rfl
    · simp
  rw [e, World.cell?_alloc_new]
  rw [Array.getElem?_append_left (by simpa using hj)]
  simp [hj, I64]
def ifKids (a b c : Int) : List Int := if c = -1 then [a, b] else [a, b, c]

set_option maxRecDepth 100000 in
set_option maxHeartbeats 1000000 in
theorem ifNode_node (a b c : Int) (w : World) :
    Calls Tryz.prog 151 #[.agg #[.int .i64 a, .int .i64 b, .int .i64 c]] w fun e w' => ∃ v, e = .returned v ∧ NodeV w' ⟨12, 0, ByteArray.empty, ByteArray.empty, ByteArray.empty, ifKids a b c⟩ v ∧ Below w.heap.size w w' := by
  by_cases hc : c = -1
  · have HK : Hid (ifKids a b c = [a, b]) := if_pos hc
    rw [HK.out]
    subst hc
    go_enter Tryz.func151, Tryz.ntmps151
    go_wp2
    go_returns
    exact ⟨_, rfl, ⟨_, rfl, IntsAt.made (by simp) [a, b] 3 2 2 rfl⟩, by go_grown⟩
  · have HK : Hid (ifKids a b c = [a, b, c]) := if_neg hc
    rw [HK.out]
    go_enter Tryz.func151, Tryz.ntmps151
    go_wp2
    go_returns
    exact ⟨_, rfl, ⟨_, rfl, (IntsAt.more (by simp) [a, b, c] _ 3 3 _ rfl).stays (Below.refl _ _).drew⟩, by go_grown⟩

set_option maxHeartbeats 1000000 in
theorem blockNode_node (v : Value) (ks : List Int) (w : World) (hK : IntsAt w v ks) (hl : ks.length ≤ 1048576) :
    Calls Tryz.prog 143 #[.agg #[v]] w fun e w' => ∃ v, e = .returned v ∧ NodeV w' ⟨20, 0, ByteArray.empty, ByteArray.empty, ByteArray.empty, ks⟩ v ∧ Below w.heap.size w w' := by
  have C := fun w h => hide (clone_any v ks w h hl)
  have HP : Hid (Box ((w.alloc (.cells #[v] 130)).alloc (.cells #[.int .i64 0, .int .i64 0, .string ⟨#[]⟩, .string ⟨#[]⟩, .string ⟨#[]⟩, .slice none 0 0] 78)) (w.heap.size + 1) #[.int .i64 0, .int .i64 0, .string ⟨#[]⟩, .string ⟨#[]⟩, .string ⟨#[]⟩, .slice none 0 0] 78) := Box.madeAt (by simp) _ _
  have HK : Hid (IntsAt ((w.alloc (.cells #[v] 130)).alloc (.cells #[.int .i64 0, .int .i64 0, .string ⟨#[]⟩, .string ⟨#[]⟩, .string ⟨#[]⟩, .slice none 0 0] 78)) v ks) := (hK.stays ((Below.refl _ _).alloc (Nat.le_refl _) _)).stays ((Below.refl _ _).alloc (Nat.le_refl _) _)
  have HB0 : Hid (Below w.heap.size w ((w.alloc (.cells #[v] 130)).alloc (.cells #[.int .i64 0, .int .i64 0, .string ⟨#[]⟩, .string ⟨#[]⟩, .string ⟨#[]⟩, .slice none 0 0] 78))) := by show Below _ _ _; go_grown
  obtain ⟨ao, c, rfl, _⟩ := hK
  clear hl
  go_enter Tryz.func143, Tryz.ntmps143
  go_wp2_with (go_at_call 144; refine (unhide (C _ HK.out)).mono ?_; rintro e w2 ⟨v2, rfl, hv2, hb2⟩; have HB := hide (HB0.out.trans (hb2.mono HB0.out.size)); have HW := hide hv2; obtain ⟨o2, c2, rfl, hr2, hc2⟩ := hv2; rw [List.length_map] at HW; have hlm : (ks.map I64).length = ks.length := List.length_map ..; have hp := HP.out.stays hb2; have HQ := hide hp; have f0 := Lib.cell_of_heap hp 0; have f1 := Lib.cell_of_heap hp 1; have f2 := Lib.cell_of_heap hp 2; have f3 := Lib.cell_of_heap hp 3; have f4 := Lib.cell_of_heap hp 4; have f5 := Lib.cell_of_heap hp 5; have z0 := Lib.frozen_of_heap hp 0; have z1 := Lib.frozen_of_heap hp 1; have z2 := Lib.frozen_of_heap hp 2; have z3 := Lib.frozen_of_heap hp 3; have z4 := Lib.frozen_of_heap hp 4; have z5 := Lib.frozen_of_heap hp 5; simp at f0 f1 f2 f3 f4 f5; clear hb2 hc2 hp hr2)
  refine box_ret (g := w.heap.size + 1) (cs := #[.int .i64 20, .int .i64 0, .string ⟨#[]⟩, .string ⟨#[]⟩, .string ⟨#[]⟩, .slice o2 ks.length c2]) rfl rfl (by simpa using (((((HQ.out.set 0 _).set 1 _).set 2 _).set 3 _).set 4 _).set 5 _) _ Tryz.underlying78 rfl (by kernel_rfl) rfl ?_
  refine ⟨_, rfl, ⟨_, rfl, ?_⟩, ?_⟩
  · refine IntsIn.at (base := w.heap.size + 2) ?_
    iterate 6 refine CellsIn.kept ?_ (KeptFrom.setCell (by omega) _ _ _)
    have := HW.out.mono (base' := w.heap.size + 2) (by simp)
    simpa using this
  · exact (((((HB.out.setCell (by simp) _).setCell (by simp) _).setCell (by simp) _).setCell (by simp) _).setCell (by simp) _).setCell (by simp) _
end Go.Proofs.YtdfahpachbhglaaGreatDoor
