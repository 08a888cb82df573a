/-
  Walks: a row cloned (package slices), a text looked for in a row, by the program.
-/
import Derived.Test.YtmckcbgdkjbpfaaCopE
import Derived.Lib.SliceRun
import Derived.Test.YtmckcbgdkjbpfaaChecked
import Derived.BigQuiet
import Derived.Test.YtmckcbgdkjbpfaaAid
namespace Go.Proofs.Ytmckcbgdkjbpfaa
open Go.RowKit

/-- Several values appended to a row that is owned. -/
theorem wpList_appN {P : Program} {w : World} {ops : Array Oper} {rest : List Oper} {o : Oper} {a : Act} {Q : Exit → Act → World → Prop} (hgd : o.guard = none) (s x : Operand) (t : TypeId)
    (ho : o.op = .call { callee := .builtin .append, args := #[s, x], argTypes := #[t, t] })
    (base : Nat) (e : TypeId) (z : Value) (bytes : Nat) (ht : P.underlying t = some (.slice e)) (hi : (P.info? e).map (fun i => (i.zero, i.size, i.bytes)) = some (some z, 1, bytes)) (hzs : z.cells.size = 1)
    (v : Value) (n : Nat) (xs : List Value) (hs : a.eval s = v) (hown : w.ownsRow base e 1 v n xs)
    (ad : Addr) (m c : Nat) (news : List Value) (hx : a.eval x = .slice (some ad) m c) (hl : news.length = m) (hnews : ∀ j u, news[j]? = some u → w.cell? (ad.add j) = some u) (h1 : ∀ u ∈ news, u.oneCell' = true)
    (h63 : n + m ≤ maxLen) (hbytes : (n + m) * bytes ≤ 140737488355328) (hbase : base ≤ w.heap.size)
    (h : ∀ v' w', w'.ownsRow base e 1 v' (n + m) (xs ++ news) → Below base w w' → wpList P ops Q rest (a.put o.dst v') w') : wpList P ops Q (o :: rest) a w := by
  obtain ⟨i, hi, hz0, hz1, hz2⟩ := info_parts hi
  refine wpList_append_own _ hgd s x t ho base e i z 1 bytes ht hi hz0 hz1 hz2 hzs (by decide) v n xs hs hown ad m c news hx (by omega) hnews h1 h63 hbytes hbase ?_
  intro v' w' hown' hgrow _
  exact h v' w' hown' ((Below.refl base w).grown hgrow hbase (fun j hj => (hown.lt j hj).1))
theorem owns_none {w : World} {B : Nat} {e : TypeId} : w.ownsRow B e 1 (.slice none 0 0) 0 [] := ⟨rfl, .inl ⟨rfl, rfl⟩⟩


set_option maxRecDepth 100000 in
set_option maxHeartbeats 1000000 in
theorem cloneI_own (v : Value) (ks : List Int) (w : World) (hK : IntsAt w v ks) (hl : ks.length ≤ 1048576) :
    Calls Try.prog 58 #[v] w fun e w' => ∃ v', e = .returned v' ∧ w'.ownsRow w.heap.size 3 1 v' ks.length (ks.map I64) ∧ Below w.heap.size w w' := by
  obtain ⟨ao, c, rfl, hc⟩ := hK
  cases ao with
  | none =>
    have h0 : ks = [] := by
      rcases ks with _ | ⟨x, ks⟩
      · rfl
      · obtain ⟨a, ha, _⟩ := hc 0 (by simp)
        simp at ha
    subst h0
    clear hc hl
    have hnil := fun w : World => Lib.run_eql_slice_nil (P := Try.prog) w 23 3 none 0 c 0 0 Try.underlying23
    go_enter Try.func58, Try.ntmps58
    go_wp2
    go_returns
    exact ⟨_, rfl, owns_none, Below.refl _ _⟩
  | some a =>
    have HO := hide (ownsRow_empty w w.heap.size 3 (Nat.le_refl _))
    have HC : Hid (∀ j u, (ks.map I64)[j]? = some u → (w.alloc (.cells #[] 3)).cell? (a.add j) = some u) := by
      intro j u hj
      rw [List.getElem?_map] at hj
      obtain ⟨x, hx, rfl⟩ := Option.map_eq_some_iff.1 hj
      obtain ⟨hj2, rfl⟩ := List.getElem?_eq_some_iff.1 hx
      obtain ⟨a', ha, hb, hcell⟩ := hc j hj2
      cases ha
      rw [World.cell?_alloc_lt _ _ _ (by rw [block_add]; exact hb)]
      exact hcell
    have HL : Hid ((ks.map I64).length = ks.length) := List.length_map ..
    clear hc
    obtain ⟨n, hn⟩ : ∃ n, ks.length = n := ⟨_, rfl⟩
    rw [hn] at HL hl ⊢
    clear hn
    have b1 : Hid (0 + n ≤ maxLen) := by show _ ≤ _; unfold maxLen; omega
    have b2 : Hid ((0 + n) * 8 ≤ 140737488355328) := by show _ ≤ _; omega
    clear hl
    have hnil := fun w : World => Lib.run_eql_slice_nil (P := Try.prog) w 23 3 (some a) n c 0 0 Try.underlying23
    go_enter Try.func58, Try.ntmps58
    go_wp2_with (at_builtin; refine wpList_appN rfl (.tmp 5) (.tmp 6) 23 rfl w.heap.size 3 (.int .i64 0) 8 Try.underlying23 Try.infoInt rfl _ _ _ rfl HO.out _ _ _ (ks.map I64) rfl HL.out HC.out (by intro u hu; obtain ⟨x, _, rfl⟩ := List.mem_map.1 hu; rfl) b1.out b2.out (by simp) ?_)
    intro v' w4 hown4 hb4
    have R := hide hown4
    have HB : Hid (Below w.heap.size w w4) := ((Below.refl w.heap.size w).alloc (Nat.le_refl _) _).trans hb4
    clear hown4 hb4
    go_wp2
    go_returns
    exact ⟨_, rfl, R.out, HB.out⟩

set_option maxRecDepth 100000 in
set_option maxHeartbeats 1000000 in
theorem cloneS_own (v : Value) (ks : List ByteArray) (w : World) (hK : StrsAt w v ks) (hl : ks.length ≤ 1048576) :
    Calls Try.prog 57 #[v] w fun e w' => ∃ v', e = .returned v' ∧ w'.ownsRow w.heap.size 9 1 v' ks.length (ks.map Value.string) ∧ Below w.heap.size w w' := by
  obtain ⟨ao, c, rfl, hc⟩ := hK
  cases ao with
  | none =>
    have h0 : ks = [] := by
      rcases ks with _ | ⟨x, ks⟩
      · rfl
      · obtain ⟨a, ha, _⟩ := hc 0 (by simp)
        simp at ha
    subst h0
    clear hc hl
    have hnil := fun w : World => Lib.run_eql_slice_nil (P := Try.prog) w 22 9 none 0 c 0 0 Try.underlying22
    go_enter Try.func57, Try.ntmps57
    go_wp2
    go_returns
    exact ⟨_, rfl, owns_none, Below.refl _ _⟩
  | some a =>
    have HO := hide (ownsRow_empty w w.heap.size 9 (Nat.le_refl _))
    have HC : Hid (∀ j u, (ks.map Value.string)[j]? = some u → (w.alloc (.cells #[] 9)).cell? (a.add j) = some u) := by
      intro j u hj
      rw [List.getElem?_map] at hj
      obtain ⟨x, hx, rfl⟩ := Option.map_eq_some_iff.1 hj
      obtain ⟨hj2, rfl⟩ := List.getElem?_eq_some_iff.1 hx
      obtain ⟨a', ha, hb, hcell⟩ := hc j hj2
      cases ha
      rw [World.cell?_alloc_lt _ _ _ (by rw [block_add]; exact hb)]
      exact hcell
    have HL : Hid ((ks.map Value.string).length = ks.length) := List.length_map ..
    clear hc
    obtain ⟨n, hn⟩ : ∃ n, ks.length = n := ⟨_, rfl⟩
    rw [hn] at HL hl ⊢
    clear hn
    have b1 : Hid (0 + n ≤ maxLen) := by show _ ≤ _; unfold maxLen; omega
    have b2 : Hid ((0 + n) * 16 ≤ 140737488355328) := by show _ ≤ _; omega
    clear hl
    have hnil := fun w : World => Lib.run_eql_slice_nil (P := Try.prog) w 22 9 (some a) n c 0 0 Try.underlying22
    go_enter Try.func57, Try.ntmps57
    go_wp2_with (at_builtin; refine wpList_appN rfl (.tmp 5) (.tmp 6) 22 rfl w.heap.size 9 (.string ⟨#[]⟩) 16 Try.underlying22 Try.infoStr rfl _ _ _ rfl HO.out _ _ _ (ks.map Value.string) rfl HL.out HC.out (by intro u hu; obtain ⟨x, _, rfl⟩ := List.mem_map.1 hu; rfl) b1.out b2.out (by simp) ?_)
    intro v' w4 hown4 hb4
    have R := hide hown4
    have HB : Hid (Below w.heap.size w w4) := ((Below.refl w.heap.size w).alloc (Nat.le_refl _) _).trans hb4
    clear hown4 hb4
    go_wp2
    go_returns
    exact ⟨_, rfl, R.out, HB.out⟩

theorem str_cmp' (x s : ByteArray) : (s.toList == x.toList) = eqS s x := by
  by_cases h : x = s
  · rw [eqS, decide_eq_true h]; exact str_beq.2 h.symm
  · rw [eqS, decide_eq_false h, Bool.eq_false_iff]; exact fun q => h (str_beq.1 q).symm
def IxR (w : World) (xs : List ByteArray) (s : ByteArray) (iv : Value) (wr : World) : Prop :=
  ∃ i : Nat, i ≤ xs.length ∧ iv = .int .i64 i ∧ wr = w ∧ Hid (NoneTo (eqS s) xs i)

set_option maxRecDepth 100000 in
set_option maxHeartbeats 1000000 in
theorem indexS_any (v : Value) (xs : List ByteArray) (s : ByteArray) (w : World) (h1 : StrsAt w v xs) (hl : xs.length ≤ 1048576) :
    Calls Try.prog 61 #[v, .string s] w fun e w' => e = .returned (.int .i64 (firstAt (eqS s) xs)) ∧ w' = w := by
  have H1 := hide h1
  obtain ⟨ao, c, rfl, _⟩ := h1
  obtain ⟨n, en⟩ : ∃ n, xs.length = n := ⟨_, rfl⟩
  have EN := hide en
  rw [en] at H1 hl ⊢
  clear en
  go_enter Try.func61, Try.ntmps61
  go_wp2
  go_loopw [8] (IxR w xs s) (fun iv _ => n - (intOf iv).toNat)
  case atStart => exact ⟨0, by omega, rfl, rfl, NoneTo.zero _ _⟩
  case round =>
    obtain ⟨i, hi, rfl, rfl, HA⟩ := hrel
    rw [EN.out] at hi
    by_cases hlt : i < n
    · have hlt' : (i : Int) < (n : Int) := by omega
      have hi0 : (0 : Int) ≤ (i : Int) := by omega
      have hix : i < xs.length := by rw [EN.out]; exact hlt
      obtain ⟨ao', c', e1, hc1⟩ := H1.out
      injection e1 with e2 e3 e4
      subst e2
      obtain ⟨a, rfl, _, hx⟩ := hc1 i hix
      have HH := hide (HA.out.hit hix)
      have HST := hide (HA.out.step (i := i))
      have hcmp := str_cmp' xs[i] s
      have HX : Hid (∀ hi : i < xs.length, xs[i] = xs[i]) := fun _ => rfl
      obtain ⟨y, ey⟩ : ∃ y, xs[i] = y := ⟨_, rfl⟩
      rw [ey] at hx hcmp HH
      have HEY := hide ey
      clear hc1 e3 e4 ey HX
      obtain ⟨q, eq⟩ : ∃ q, eqS s y = q := ⟨_, rfl⟩
      rw [eq] at hcmp
      cases q with
      | true =>
        have HF := hide (HH.out eq)
        clear eq HH HST
        go_wp2
        go_ret
        exact ⟨by rw [HF.out]; rfl, rfl⟩
      | false =>
        have HS2 := hide (HST.out (fun _ => by rw [HEY.out]; exact eq))
        clear eq HH HST
        go_wp2
        go_roundw
        case rel => exact ⟨i + 1, by rw [EN.out]; omega, by go_num, rfl, HS2.out⟩
        case measure => simp [intOf]; omega
    · have hlt' : ¬ (i : Int) < (n : Int) := by omega
      have HF := hide (HA.out.none (by rw [EN.out]; omega))
      go_wp2
      go_ret
      exact ⟨by rw [HF.out]; rfl, rfl⟩
theorem first_mem (xs : List ByteArray) (s : ByteArray) : decide (0 ≤ firstAt (eqS s) xs) = memB xs s := by
  by_cases h : s ∈ xs
  · rw [memB_iff.2 h]
    apply decide_eq_true
    rw [firstAt]
    split
    · omega
    · rename_i e
      have := List.findIdx?_eq_none_iff.1 e s h
      simp [eqS] at this
  · rw [memB_no.2 h]
    apply decide_eq_false
    rw [firstAt]
    split
    · rename_i i e
      obtain ⟨hi, hx, _⟩ := List.findIdx?_eq_some_iff_getElem.1 e
      have : xs[i] = s := of_decide_eq_true hx
      exact absurd (this ▸ List.getElem_mem hi) h
    · omega

theorem containsS_any (v : Value) (xs : List ByteArray) (s : ByteArray) (w : World) (h1 : StrsAt w v xs) (hl : xs.length ≤ 1048576) :
    Calls Try.prog 50 #[v, .string s] w fun e w' => e = .returned (.bool (memB xs s)) ∧ w' = w := by
  have C := fun w h => hide (indexS_any v xs s w h hl)
  rw [← first_mem]
  obtain ⟨i, ei⟩ : ∃ i, firstAt (eqS s) xs = i := ⟨_, rfl⟩
  simp only [ei] at C ⊢
  have H1 := hide h1
  clear h1 ei
  go_enter Try.func50, Try.ntmps50
  go_wp2_with (go_at_call 61; refine (unhide (C _ H1.out)).mono ?_; rintro e w1 ⟨rfl, rfl⟩)
  go_ret
  exact ⟨by simp, rfl⟩
end Go.Proofs.Ytmckcbgdkjbpfaa

namespace Go.Proofs.Ytmckcbgdkjbpfaa
open Go.RowKit

/-- A world of a class. -/
structure InC (S : World → Prop) where
  z : World
  h : S z
theorem wp_region_class {P : Program} (S : World → Prop) {id : Nat} {Q : Exit → Act → World → Prop} {a : Act} {w : World} {l : List Oper} (hm : P.follows .mixedOrders = true) (hB : Region.lexB .any l.toArray = true) (hC : S w.drew)
    (h : wpQuiet P l.toArray (fun w' => ∃ s : InC S, w' = s.z) (fun a' => ∀ s : InC S, Q .normal a' s.z) l a) : (Code.region id l.toArray true).wp P Q a w := by
  refine wp_region_quiet (C := fun w' => ∃ s : InC S, w' = s.z) hm hB ⟨⟨_, hC⟩, rfl⟩ ?_
  have e : (fun a' => ∀ w', (∃ s : InC S, w' = s.z) → Q .normal a' w') = (fun a' => ∀ s : InC S, Q .normal a' s.z) := by
    funext a'
    exact propext ⟨fun h s => h _ ⟨s, rfl⟩, fun h w' ⟨s, hs⟩ => by subst hs; exact h s⟩
  rw [e]
  simpa using h
/-- A callee's contract, in the class. -/
theorem calls_class {P : Program} {S : World → Prop} {f : FuncId} {args : Array Value} {v : Value} (s : InC S) (k : ∀ w', Below s.z.heap.size s.z w' → S w') (h : Calls P f args s.z fun e w' => e = .returned v ∧ Below s.z.heap.size s.z w') :
    Calls P f args s.z fun e w'' => e = .returned v ∧ ∃ s' : InC S, w'' = s'.z :=
  h.mono fun _ w' ⟨he, hb⟩ => ⟨he, ⟨w', k w' hb⟩, rfl⟩
theorem calls_class_same {P : Program} {S : World → Prop} {f : FuncId} {args : Array Value} {v : Value} (s : InC S) (h : Calls P f args s.z fun e w' => e = .returned v ∧ w' = s.z) :
    Calls P f args s.z fun e w'' => e = .returned v ∧ ∃ s' : InC S, w'' = s'.z :=
  h.mono fun _ _ ⟨he, hb⟩ => ⟨he, s, hb⟩
end Go.Proofs.Ytmckcbgdkjbpfaa
