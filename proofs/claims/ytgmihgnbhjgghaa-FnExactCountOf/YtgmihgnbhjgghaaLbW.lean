/-
  Walks of the program: labels of lines, and how many words are ahead of them.
-/
import Derived.Test.YtgmihgnbhjgghaaLbP
import Derived.Test.YtgmihgnbhjgghaaLinW
import Derived.Test.YtgmihgnbhjgghaaBoxP
import Derived.Test.YtgmihgnbhjgghaaSetW
import Derived.Maps.OwnOps
import Derived.Maps.OwnSet
import Derived.BigQuiet
import Derived.WalkSmall
namespace Go.Proofs.Ytgmihgnbhjgghaa
open Go.RowKit Go.Maps
open Go.WideMaps (keyOf_string_mk)

/-- The labels of the first i lines, in a block of its own. -/
def LabAt (w : World) (b n : Nat) (xs : List Ln) (i : Nat) : Prop :=
  ∃ D, w.ownsMap Try.prog 9 (plainElem (H := Unit) Try.prog 3) b n D ∧ (∀ s : ByteArray, Maps.has D (.string s.data.toList) = inTo xs i s) ∧ (∀ s : ByteArray, D.atKey (.string s.data.toList) (.lit (.int .i64 0)) = .lit (.int .i64 (atTo xs i s))) ∧ Maps.size D = sizeTo xs i
theorem zeroI (w : World) : (zeroValue 3).run Try.prog w = .ok (.int .i64 0) w := by kernel_rfl
theorem atTo_zero (xs : List Ln) (s : ByteArray) : atTo xs 0 s = 0 := by unfold atTo; rw [inTo_zero]; rfl
theorem LabAt.made (w : World) (xs : List Ln) : LabAt (w.alloc (.map #[] 0)) w.heap.size 0 xs 0 := ⟨_, World.ownsMap_made _ _ _ _, fun s => by rw [inTo_zero]; rfl, fun s => by rw [atTo_zero]; rfl, rfl⟩
theorem LabAt.lt {w : World} {b n i : Nat} {xs : List Ln} (h : LabAt w b n xs i) : b < w.heap.size := by
  obtain ⟨D, h1, _⟩ := h
  exact h1.lt
theorem LabAt.stays {w w' : World} {b n i k : Nat} {xs : List Ln} (h : LabAt w b n xs i) (hb : Below k w w') (hk : b < k) : LabAt w' b n xs i := by
  obtain ⟨D, ⟨es, cl, q1, q2⟩, h2⟩ := h
  exact ⟨D, ⟨es, cl, (hb.block b hk).trans q1, q2⟩, h2⟩
theorem LabAt.mono {w : World} {b n m i : Nat} {xs : List Ln} (h : LabAt w b n xs i) (hn : n ≤ m) : LabAt w b m xs i := by
  obtain ⟨D, h1, h2⟩ := h
  exact ⟨D, h1.mono hn, h2⟩
theorem LabAt.same {w : World} {b n i : Nat} {xs : List Ln} (h : LabAt w b n xs i) (hn : newAt xs i = false) : LabAt w b n xs (i + 1) := by
  obtain ⟨D, h1, h2, h3, h4⟩ := h
  exact ⟨D, h1, fun s => (h2 s).trans (inTo_same hn s).symm, fun s => (h3 s).trans (by rw [atTo_same hn]), h4.trans (size_same hn).symm⟩
/-- A label more. -/
theorem LabAt.more {w : World} {b n i : Nat} {xs : List Ln} (h : LabAt w b n xs i) (hi : i < xs.length) (ho : xs[i].op = 0) (hin : inTo xs i xs[i].label = false) (hn : n ≤ 4194304) (hs : xs[i].label.size ≤ 1048576) (hl : xs.length ≤ 1048576) :
    ∃ w', (Instr.mapUpdate 44 (.map (some b)) (.string xs[i].label) (.int .i64 (countL (xs.take i)))).run Try.prog w = .ok () w' ∧ LabAt w' b (n + 1) xs (i + 1) ∧ w.grownBy w' (some b) := by
  obtain ⟨D, h1, h2, h3, h4⟩ := h
  have hcl := count_le (xs.take i)
  rw [List.length_take] at hcl
  have hwf : (Lit.int .i64 (countL (xs.take i))).wf = true := by
    simp [Lit.wf, IntKind.min, IntKind.signed, IntKind.bits]
    omega
  obtain ⟨w', r1, r2, r3⟩ := h1.update lawN Try.underlying44 (by unfold maxLen; omega) (keyOf_string_mk Try.underlying9 (s := xs[i].label) (by unfold maxLen; omega)) (plainElem_int Try.underlying3 hwf)
  have hnew := new_yes hi ho hin
  refine ⟨w', r1, ⟨_, r2, fun s => ?_, fun s => ?_, ?_⟩, r3⟩
  · rw [inTo_more hi ho hin]
    by_cases e : s = xs[i].label
    · subst e
      rw [has_put_same h1.isMap (show WideAt.IsKeyLit (.string xs[i].label.data.toList) from trivial), decide_eq_true rfl]; rfl
    · rw [has_put_other (lit_ne e), h2 s, decide_eq_false e, Bool.false_or]
  · by_cases e : s = xs[i].label
    · subst e
      rw [atKey_put_same h1.isMap (show WideAt.IsKeyLit (.string xs[i].label.data.toList) from trivial), atTo_own hi ho hin]
    · rw [atKey_put_other (lit_ne e), h3 s, atTo_other hi ho hin e]
  · rw [size_put (h1.tidy lawN), h2, hin, sizeTo_succ, hnew, h4]
    rfl
theorem LabAt.look {w : World} {b n i : Nat} {xs : List Ln} (h : LabAt w b n xs i) {s : ByteArray} (hs : s.size ≤ 1048576) : (Instr.lookup 44 (.map (some b)) (.string s) true).run Try.prog w = .ok (.tuple #[.int .i64 (atTo xs i s), .bool (inTo xs i s)]) w := by
  obtain ⟨D, h1, h2, h3, _⟩ := h
  obtain ⟨v, ps, hrun, hv⟩ := h1.look_ok lawN Try.underlying44 (zeroI w) (plainElem_int Try.underlying3 (by decide)) (keyOf_string_mk Try.underlying9 (s := s) (by unfold maxLen; omega))
  rw [h3 s] at hv
  obtain ⟨c, rfl, hc, _⟩ := plainElem_int_inv Try.underlying3 hv
  have e := congrArg Prod.fst hc
  injection e with e
  injection e with _ e
  rw [hrun, h2 s, e]
theorem LabAt.len {w : World} {b n i : Nat} {xs : List Ln} (h : LabAt w b n xs i) (ty : TypeId) : (Builtin.len_ #[44] ty #[.map (some b)]).run Try.prog w = .ok (.int .i64 (sizeTo xs i)) w := by
  obtain ⟨D, h1, _, _, h4⟩ := h
  rw [h1.len Try.underlying44 ty, h4]

set_option maxRecDepth 100000 in
set_option maxHeartbeats 1000000 in
theorem labHas_any (b n : Nat) (xs : List Ln) (i : Nat) (s : ByteArray) (w : World) (h : LabAt w b n xs i) (hs : s.size ≤ 1048576) :
    Calls Try.prog 25 #[.map (some b), .string s] w fun e w' => e = .returned (.bool (inTo xs i s)) ∧ w' = w := by
  have hL := h.look hs
  clear h
  go_enter Try.func25, Try.ntmps25
  go_wp2
  go_ret
  exact ⟨rfl, rfl⟩

set_option maxHeartbeats 1000000 in
theorem isWord_any (lb tg : ByteArray) (op a b c : Int) (w : World) :
    Calls Try.prog 23 #[.agg #[.string lb, .int .i64 op, .int .i64 a, .int .i64 b, .int .i64 c, .string tg]] w fun e w' => e = .returned (.bool (decide (op ≠ 0))) ∧ w' = w.alloc (.cells #[.string lb, .int .i64 op, .int .i64 a, .int .i64 b, .int .i64 c, .string tg] 39) := by
  by_cases h : op = 0
  · subst h
    go_enter Try.func23, Try.ntmps23
    go_wp2
    go_ret
    exact ⟨rfl, rfl⟩
  · go_enter Try.func23, Try.ntmps23
    go_wp2
    go_ret
    exact ⟨by simp [h], rfl⟩

/-- How things stand while labels are entered. -/
def LbR (w : World) (xs : List Ln) (nv iv : Value) (wr : World) : Prop :=
  ∃ i : Nat, i ≤ xs.length ∧ nv = .int .i64 (countL (xs.take i)) ∧ iv = .int .i64 (i : Int) ∧ Hid (LabAt wr w.heap.size i xs i) ∧ Hid (Below w.heap.size w wr)

set_option maxRecDepth 100000 in
set_option maxHeartbeats 4000000 in
theorem labelsOf_any (v : Value) (xs : List Ln) (w : World) (h : LnsAt w v xs) (hl : xs.length ≤ 1048576) (hs : ∀ x ∈ xs, x.label.size ≤ 1048576) :
    Calls Try.prog 20 #[v] w fun e w' => e = .returned (.map (some w.heap.size)) ∧ LabAt w' w.heap.size xs.length xs xs.length ∧ Below w.heap.size w w' := by
  have hmm := @run_makeMap Try.prog
  have H0 := hide (LabAt.made w xs)
  have HB0 : Hid (Below w.heap.size w (w.alloc (.map #[] 0))) := (Below.refl _ _).alloc (Nat.le_refl _) _
  have CW := fun lb tg op a b c z => hide (isWord_any lb tg op a b c z)
  have CH := fun n i s z h hs => hide (labHas_any w.heap.size n xs i s z h hs)
  have H := hide h
  obtain ⟨ao, c, rfl, _⟩ := h
  obtain ⟨n, en⟩ : ∃ n, xs.length = n := ⟨_, rfl⟩
  have EN := hide en
  have HS := hide hs
  have HL := hide hl
  rw [en] at H hl ⊢
  clear en hs
  go_enter Try.func20, Try.ntmps20
  go_wp2
  go_loopw [4, 10] (LbR w xs) (fun _ iv _ => n - (intOf iv).toNat)
  case atStart => exact ⟨0, by omega, by simp [countL], rfl, H0, HB0⟩
  case round =>
    clear H0 HB0
    obtain ⟨i, hi, rfl, rfl, HM, HB⟩ := hrel
    rw [EN.out] at hi
    by_cases hlt : i < n
    · have hlt' : (i : Int) < (n : Int) := by omega
      have hi0 : (0 : Int) ≤ (i : Int) := by omega
      have hix : i < xs.length := by rw [EN.out]; exact hlt
      have hwi : wrap64 ((i : Int) + 1) = (i : Int) + 1 := by unfold wrap64; omega
      have hcl := count_le (xs.take i)
      rw [List.length_take] at hcl
      have HT := hide (count_take hix)
      have HA := hide (H.out.stays HB.out)
      obtain ⟨ao', cc, e5, hc⟩ := HA.out
      injection e5 with e6 e7 e8
      subst e6
      obtain ⟨a, rfl, hab, d0, d1, d2, d3, d4, d5⟩ := hc i hix
      have hsx := HS.out _ (List.getElem_mem hix)
      have HW := hide (fun h => new_word hix h)
      have HN := hide (fun h => new_has hix h)
      have HMo := hide (fun ho hin z n h hn => LabAt.more (w := z) (b := w.heap.size) (n := n) h hix ho hin hn hsx HL.out)
      obtain ⟨⟨lb, op, x1, x2, x3, tg⟩, ey⟩ : ∃ y, xs[i] = y := ⟨_, rfl⟩
      rw [ey] at d0 d1 d2 d3 d4 d5 HT HW HN HMo hsx
      dsimp only at d0 d1 d2 d3 d4 d5 HT HW HN HMo hsx
      obtain ⟨k, ek⟩ : ∃ k, countL (xs.take i) = k := ⟨_, rfl⟩
      rw [ek] at HT hcl HMo ⊢
      clear hc e7 e8 ey hix ek
      have hk : wrap64 (k + 1) = k + 1 := by unfold wrap64; omega
      clear hcl
      have hbx : Below wr.heap.size wr (wr.alloc (.cells #[.string lb, .int .i64 op, .int .i64 x1, .int .i64 x2, .int .i64 x3, .string tg] 39)) := (Below.refl _ _).alloc (Nat.le_refl _) _
      have hb2 := hbx.alloc hbx.size (.cells #[.string lb, .int .i64 op, .int .i64 x1, .int .i64 x2, .int .i64 x3, .string tg] 39)
      have HB2 := hide (HB.out.trans (hb2.mono HB.out.size))
      have HM2 := hide (HM.out.stays hb2 HM.out.lt)
      clear hbx hb2
      by_cases ho : op = 0
      · subst ho
        rw [if_pos rfl, Int.add_zero] at HT
        have CW1 := fun z => CW lb tg 0 x1 x2 x3 z
        rw [decide_eq_false (fun h => h rfl)] at CW1
        clear CW HW
        obtain ⟨q, eq⟩ : ∃ q, inTo xs i lb = q := ⟨_, rfl⟩
        have CH1 := fun z h => CH i i lb z h hsx
        rw [eq] at CH1 HN HMo
        clear CH eq
        cases q with
        | true =>
          have HM3 := hide (HM2.out.same (HN.out rfl))
          clear HN HMo
          go_wp2_with (first
            | (go_at_call 23; refine (unhide (CW1 _)).mono ?_; rintro e z ⟨rfl, rfl⟩)
            | (go_at_call 25; refine (unhide (CH1 _ HM2.out)).mono ?_; rintro e z ⟨rfl, rfl⟩))
          go_roundw
          case rel => exact ⟨i + 1, by rw [EN.out]; omega, by rw [HT.out], by go_num, hide (HM3.out.mono (Nat.le_succ _)), HB2⟩
          case measure => simp [intOf]; omega
        | false =>
          obtain ⟨w5, hU, hm5, hg5⟩ := HMo.out rfl rfl _ _ HM2.out (by omega)
          have HM3 := hide hm5
          have HB3 := hide (grown_below HB2.out hg5 HB2.out.size (Nat.le_refl _))
          clear HN HMo hm5 hg5
          go_wp2_with (first
            | (go_at_call 23; refine (unhide (CW1 _)).mono ?_; rintro e z ⟨rfl, rfl⟩)
            | (go_at_call 25; refine (unhide (CH1 _ HM2.out)).mono ?_; rintro e z ⟨rfl, rfl⟩))
          go_roundw
          case rel => exact ⟨i + 1, by rw [EN.out]; omega, by rw [HT.out], by go_num, HM3, HB3⟩
          case measure => simp [intOf]; omega
      · rw [if_neg ho] at HT
        have HM3 := hide (HM2.out.same (HW.out ho))
        have CW1 := fun z => CW lb tg op x1 x2 x3 z
        rw [decide_eq_true (p := op ≠ 0) ho] at CW1
        clear CW CH HW HN HMo
        go_wp2_with (go_at_call 23; refine (unhide (CW1 _)).mono ?_; rintro e z ⟨rfl, rfl⟩)
        go_roundw
        case rel => exact ⟨i + 1, by rw [EN.out]; omega, by rw [HT.out]; go_num, by go_num, hide (HM3.out.mono (Nat.le_succ _)), HB2⟩
        case measure => simp [intOf]; omega
    · have hlt' : ¬ (i : Int) < (n : Int) := by omega
      have e9 : i = n := by omega
      subst e9
      clear CW CH
      go_wp2
      go_ret
      exact ⟨rfl, by rw [← EN.out] at HM ⊢; exact HM.out, HB.out⟩
end Go.Proofs.Ytgmihgnbhjgghaa
