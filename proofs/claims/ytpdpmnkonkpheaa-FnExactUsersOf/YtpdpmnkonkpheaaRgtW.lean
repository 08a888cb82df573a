/-
  Walks of the program: rights of a process: bits by the names of monitors.
-/
import Derived.Test.YtpdpmnkonkpheaaUnlP
import Derived.Test.YtpdpmnkonkpheaaTreeY
import Derived.Test.YtpdpmnkonkpheaaBoxP
import Derived.Maps.OwnOps
import Derived.Maps.OwnSet
import Derived.BigQuiet
import Derived.WalkSmall
namespace Go.Proofs.Ytpdpmnkonkpheaa
open Go.RowKit Go.Maps
open Go.WideMaps (keyOf_string_mk)

/-- The bits of a name: it is used, it is called. -/
def bitsR (us cs : List ByteArray) (s : ByteArray) : Int := (if memB us s = true then 1 else 0) + (if memB cs s = true then 2 else 0)
theorem bitsR_cases (us cs : List ByteArray) (s : ByteArray) : bitsR us cs s = 0 ∨ bitsR us cs s = 1 ∨ bitsR us cs s = 2 ∨ bitsR us cs s = 3 := by
  unfold bitsR
  cases memB us s <;> cases memB cs s <;> simp
theorem rlit_ne {s t : ByteArray} (h : s ≠ t) : Lit.string s.data.toList ≠ Lit.string t.data.toList := fun e => h (ByteArray.ext (Array.toList_inj.1 (Lit.string.inj e)))
/-- A map of just these rights, in a block of its own. -/
def RtAt (w : World) (b n : Nat) (us cs : List ByteArray) : Prop :=
  ∃ D, w.ownsMap Try.prog 9 (plainElem (H := Unit) Try.prog 58) b n D ∧ ∀ s : ByteArray, D.atKey (.string s.data.toList) (.lit (.int .u8 0)) = .lit (.int .u8 (bitsR us cs s))
theorem lawR : Keyed Try.prog 9 := string_keyed Try.underlying9
theorem zeroR (w : World) : (zeroValue 58).run Try.prog w = .ok (.int .u8 0) w := by kernel_rfl
theorem RtAt.made (w : World) : RtAt (w.alloc (.map #[] 0)) w.heap.size 0 [] [] := ⟨_, World.ownsMap_made _ _ _ _, fun _ => rfl⟩
theorem RtAt.lt {w : World} {b n : Nat} {us cs : List ByteArray} (h : RtAt w b n us cs) : b < w.heap.size := by
  obtain ⟨D, h1, _⟩ := h
  exact h1.lt
theorem RtAt.stays {w w' : World} {b n k : Nat} {us cs : List ByteArray} (h : RtAt w b n us cs) (hb : Below k w w') (hk : b < k) : RtAt w' b n us cs := by
  obtain ⟨D, ⟨es, cl, q1, q2⟩, h2⟩ := h
  exact ⟨D, ⟨es, cl, (hb.block b hk).trans q1, q2⟩, h2⟩
theorem RtAt.mono {w : World} {b n m : Nat} {us cs : List ByteArray} (h : RtAt w b n us cs) (hn : n ≤ m) : RtAt w b m us cs := by
  obtain ⟨D, h1, h2⟩ := h
  exact ⟨D, h1.mono hn, h2⟩
set_option maxRecDepth 100000 in
theorem RtAt.look {w : World} {b n : Nat} {us cs : List ByteArray} (h : RtAt w b n us cs) {s : ByteArray} (hs : s.size ≤ 1048576) : (Instr.lookup 60 (.map (some b)) (.string s) false).run Try.prog w = .ok (.int .u8 (bitsR us cs s)) w := by
  obtain ⟨D, h1, h2⟩ := h
  obtain ⟨c, hrun, hat, hwc⟩ := h1.lookup_int lawR Try.underlying60 Try.underlying58 (zeroR w) (keyOf_string_mk Try.underlying9 (s := s) (by unfold maxLen; omega))
  have e := h2 s
  rw [hat] at e
  injection e with e
  injection e with _ e
  rw [hrun, e]
theorem memB_snoc (us : List ByteArray) (t s : ByteArray) : memB (us ++ [t]) s = (memB us s || decide (t = s)) := by simp [memB]
/-- A name more that is used. -/
theorem RtAt.use {w : World} {b n : Nat} {us cs : List ByteArray} (h : RtAt w b n us cs) {t : ByteArray} (ht : t.size ≤ 1048576) (hn : n ≤ 4194304) {c : Int} (hc : c = bitsR (us ++ [t]) cs t) :
    ∃ w', (Instr.mapUpdate 60 (.map (some b)) (.string t) (.int .u8 c)).run Try.prog w = .ok () w' ∧ RtAt w' b (n + 1) (us ++ [t]) cs ∧ w.grownBy w' (some b) := by
  obtain ⟨D, h1, h2⟩ := h
  have hwf : (Lit.int .u8 c).wf = true := by rw [hc]; rcases bitsR_cases (us ++ [t]) cs t with e | e | e | e <;> rw [e] <;> rfl
  obtain ⟨w', r1, r2, r3⟩ := h1.update lawR Try.underlying60 (by unfold maxLen; omega) (keyOf_string_mk Try.underlying9 (s := t) (by unfold maxLen; omega)) (plainElem_int Try.underlying58 hwf)
  refine ⟨w', r1, ⟨_, r2, fun s => ?_⟩, r3⟩
  by_cases e : s = t
  · subst e
    rw [atKey_put_same h1.isMap (show WideAt.IsKeyLit (.string s.data.toList) from trivial), hc]
  · rw [atKey_put_other (rlit_ne e), h2 s]
    unfold bitsR
    rw [memB_snoc, decide_eq_false (fun q => e q.symm), Bool.or_false]
/-- A name more that is called. -/
theorem RtAt.call {w : World} {b n : Nat} {us cs : List ByteArray} (h : RtAt w b n us cs) {t : ByteArray} (ht : t.size ≤ 1048576) (hn : n ≤ 4194304) {c : Int} (hc : c = bitsR us (cs ++ [t]) t) :
    ∃ w', (Instr.mapUpdate 60 (.map (some b)) (.string t) (.int .u8 c)).run Try.prog w = .ok () w' ∧ RtAt w' b (n + 1) us (cs ++ [t]) ∧ w.grownBy w' (some b) := by
  obtain ⟨D, h1, h2⟩ := h
  have hwf : (Lit.int .u8 c).wf = true := by rw [hc]; rcases bitsR_cases us (cs ++ [t]) t with e | e | e | e <;> rw [e] <;> rfl
  obtain ⟨w', r1, r2, r3⟩ := h1.update lawR Try.underlying60 (by unfold maxLen; omega) (keyOf_string_mk Try.underlying9 (s := t) (by unfold maxLen; omega)) (plainElem_int Try.underlying58 hwf)
  refine ⟨w', r1, ⟨_, r2, fun s => ?_⟩, r3⟩
  by_cases e : s = t
  · subst e
    rw [atKey_put_same h1.isMap (show WideAt.IsKeyLit (.string s.data.toList) from trivial), hc]
  · rw [atKey_put_other (rlit_ne e), h2 s]
    unfold bitsR
    rw [memB_snoc, decide_eq_false (fun q => e q.symm), Bool.or_false]

/-- Has it all these bits? -/
def hasR (c b : Int) : Bool := if b = 1 then decide (c = 1 ∨ c = 3) else if b = 2 then decide (c = 2 ∨ c = 3) else decide (c = 3)
set_option maxHeartbeats 1000000 in
theorem rightHas_any (c b : Int) (w : World) (hc : c = 0 ∨ c = 1 ∨ c = 2 ∨ c = 3) (hb : b = 1 ∨ b = 2) :
    Calls Try.prog 27 #[.int .u8 c, .int .u8 b] w fun e w' => e = .returned (.bool (hasR c b)) ∧ w' = w := by
  rcases hc with rfl | rfl | rfl | rfl <;> rcases hb with rfl | rfl <;>
  (go_enter Try.func27, Try.ntmps27
   go_wp2
   go_ret
   exact ⟨rfl, rfl⟩)

theorem rgrown_below {B b : Nat} {w0 w w' : World} (h : Below B w0 w) (hg : w.grownBy w' (some b)) (hB : B ≤ w.heap.size) (hb : B ≤ b) : Below B w0 w' := h.grown hg hB (fun j hj => by cases hj; exact hb)
/-- How things stand while what is used is entered. -/
def RtU (w : World) (b : Nat) (xs : List ByteArray) (iv : Value) (wr : World) : Prop := ∃ i : Nat, i ≤ xs.length ∧ iv = .int .i64 i ∧ Hid (RtAt wr b i (xs.take i) []) ∧ Hid (Below w.heap.size w wr)

set_option maxRecDepth 100000 in
set_option maxHeartbeats 4000000 in
theorem rightsUse_any (nv mv pv uv vv : Value) (nm : ByteArray) (bd : Int) (xs : List ByteArray) (w : World) (hu : StrsAt w uv xs) (hl : xs.length ≤ 1048576) (hs : ∀ x ∈ xs, x.size ≤ 1048576) :
    Calls Try.prog 26 #[.agg #[nv, mv, pv], .agg #[.string nm, uv, vv, .int .i64 bd], .int .u8 1] w fun e w' => ∃ b n, e = .returned (.map (some b)) ∧ RtAt w' b n xs [] ∧ Below w.heap.size w w' := by
  have hmm := @run_makeMap Try.prog
  have CH1 : ∀ w, Hid (Calls Try.prog 27 #[.int .u8 1, .int .u8 1] w fun e w' => e = .returned (.bool true) ∧ w' = w) := fun w => hide (rightHas_any 1 1 w (.inr (.inl rfl)) (.inl rfl))
  have CH2 : ∀ w, Hid (Calls Try.prog 27 #[.int .u8 1, .int .u8 2] w fun e w' => e = .returned (.bool false) ∧ w' = w) := fun w => hide (rightHas_any 1 2 w (.inr (.inl rfl)) (.inr rfl))
  have H := hide hu
  obtain ⟨ao, c, rfl, _⟩ := hu
  obtain ⟨n, en⟩ : ∃ n, xs.length = n := ⟨_, rfl⟩
  have EN := hide en
  have HS := hide hs
  rw [en] at H hl ⊢
  clear en hs
  go_enter Try.func26, Try.ntmps26
  go_wp2_with fail
  obtain ⟨W, hW⟩ : ∃ W, ((w.alloc (.cells #[nv, mv, pv] 33)).alloc (.cells #[.string nm, .slice ao n c, vv, .int .i64 bd] 50)).alloc (.map #[] 0) = W := ⟨_, rfl⟩
  have hb1 : Below w.heap.size w (w.alloc (.cells #[nv, mv, pv] 33)) := (Below.refl _ _).alloc (Nat.le_refl _) _
  have hb2 := hb1.alloc hb1.size (.cells #[.string nm, .slice ao n c, vv, .int .i64 bd] 50)
  have HB0 : Hid (Below w.heap.size w W) := by rw [← hW]; exact hb2.alloc hb2.size _
  have H0 : Hid (RtAt W (w.heap.size + 1 + 1) 0 [] []) := by
    rw [← hW]
    have h := RtAt.made ((w.alloc (.cells #[nv, mv, pv] 33)).alloc (.cells #[.string nm, .slice ao n c, vv, .int .i64 bd] 50))
    simp at h
    exact hide h
  have d1 : W.cell? ⟨w.heap.size + 1, 1, none⟩ = some (.slice ao n c) := by
    rw [← hW]
    have h := Lib.cell_of_heap ((Box.made (w.alloc (.cells #[nv, mv, pv] 33)) #[.string nm, .slice ao n c, vv, .int .i64 bd] 50).stays ((Below.refl _ _).alloc (Nat.le_refl _) (.map #[] 0))) 1
    simp at h
    exact h
  rw [hW]
  clear hW hb1 hb2
  refine (unhide (CH1 _)).mono ?_
  rintro e z ⟨rfl, rfl⟩
  go_wp2
  go_loopw [18] (fun iv wr => RtU w (w.heap.size + 1 + 1) xs iv wr) (fun iv _ => n - (intOf iv).toNat)
  case atStart => exact ⟨0, by omega, rfl, H0.out, HB0.out⟩
  case round =>
    clear H0 HB0 d1
    obtain ⟨i, hi, rfl, HM, HB⟩ := hrel
    rw [EN.out] at hi
    by_cases hlt : i < n
    · have hlt' : (i : Int) < (n : Int) := by omega
      have hi0 : (0 : Int) ≤ (i : Int) := by omega
      have hix : i < xs.length := by rw [EN.out]; exact hlt
      obtain ⟨ao', c', e1, hc1⟩ := H.out.stays HB.out
      injection e1 with e2 e3 e4
      subst e2
      obtain ⟨a, rfl, _, hx⟩ := hc1 i hix
      have HT : Hid (xs.take (i + 1) = xs.take i ++ [xs[i]]) := List.take_succ_eq_append_getElem hix
      have hsx := HS.out _ (List.getElem_mem hix)
      obtain ⟨x, ex⟩ : ∃ x, xs[i] = x := ⟨_, rfl⟩
      rw [ex] at hx HT hsx
      clear e3 e4 ex hc1
      have hL := HM.out.look hsx
      obtain ⟨w5, hU, hrt5, hg5⟩ := HM.out.use hsx (by omega) (c := 1) (by unfold bitsR; rw [memB_snoc, decide_eq_true rfl]; simp [memB])
      have HM5 := hide hrt5
      have HB5 := hide (rgrown_below HB.out hg5 HB.out.size (by omega))
      clear hrt5 hg5
      have hk : bitsR (xs.take i) [] x = 0 ∨ bitsR (xs.take i) [] x = 1 := by unfold bitsR; cases memB (xs.take i) x <;> simp [memB]
      obtain ⟨k, ek⟩ : ∃ k, bitsR (xs.take i) [] x = k := ⟨_, rfl⟩
      rw [ek] at hk hL
      clear ek
      have hor0 : bits BinOp.or IntKind.u8 0 1 = 1 := by kernel_rfl
      have hor1 : bits BinOp.or IntKind.u8 1 1 = 1 := by kernel_rfl
      rcases hk with rfl | rfl
      all_goals go_wp2
      all_goals go_roundw
      case rel => exact ⟨i + 1, by rw [EN.out]; omega, by go_num, by rw [HT.out]; exact HM5.out, HB5.out⟩
      case measure => simp [intOf]; omega
      case rel => exact ⟨i + 1, by rw [EN.out]; omega, by go_num, by rw [HT.out]; exact HM5.out, HB5.out⟩
      case measure => simp [intOf]; omega
    · have hlt' : ¬ (i : Int) < (n : Int) := by omega
      have HF : Hid (RtAt wr (w.heap.size + 1 + 1) n xs []) := by
        have h := HM.out
        rw [List.take_of_length_le (by rw [EN.out]; omega)] at h
        exact h.mono (by omega)
      go_wp2_with (go_at_call 27; refine (unhide (CH2 _)).mono ?_; rintro e z ⟨rfl, rfl⟩)
      go_ret
      exact ⟨_, _, rfl, HF.out, HB.out⟩
end Go.Proofs.Ytpdpmnkonkpheaa
