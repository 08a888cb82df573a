/-
  Walks: sets of names: made, asked, a name more, a name less.
-/
import Derived.Test.YtmckcbgdkjbpfaaChecked
import Derived.Test.YtmckcbgdkjbpfaaUnlP
import Derived.Maps.OwnSet
import Derived.BigQuiet
import Derived.WalkSmall
namespace Go.Proofs.Ytmckcbgdkjbpfaa
open Go.RowKit Go.Maps
open Go.WideMaps (keyOf_string_mk)

/-- A set of just these names, in a block of its own. -/
def SetAt (w : World) (b n : Nat) (ks : List ByteArray) : Prop :=
  ∃ D, w.ownsMap Try.prog 9 (unitElem (H := Unit)) b n D ∧ ∀ s : ByteArray, Maps.has D (.string s.data.toList) = memB ks s
theorem lawN : Keyed Try.prog 9 := string_keyed Try.underlying9
theorem zeroN (w : World) : (zeroValue 76).run Try.prog w = .ok (.agg #[]) w := by kernel_rfl
theorem SetAt.made (w : World) : SetAt (w.alloc (.map #[] 0)) w.heap.size 0 [] := ⟨_, World.ownsMap_made _ _ _ _, fun _ => rfl⟩
theorem SetAt.lt {w : World} {b n : Nat} {ks : List ByteArray} (h : SetAt w b n ks) : b < w.heap.size := by
  obtain ⟨D, h1, _⟩ := h
  exact h1.lt
theorem SetAt.kept {w w' : World} {b n : Nat} {ks : List ByteArray} {row : Option Nat} (h : SetAt w b n ks) (hg : w.grownBy w' row) (hne : some b ≠ row) : SetAt w' b n ks := by
  obtain ⟨D, h1, h2⟩ := h
  exact ⟨D, h1.kept hg hne, h2⟩
theorem SetAt.stays {w w' : World} {b n k : Nat} {ks : List ByteArray} (h : SetAt w b n ks) (hb : Below k w w') (hk : b < k) : SetAt w' b n ks := by
  obtain ⟨D, ⟨es, cl, q1, q2⟩, h2⟩ := h
  exact ⟨D, ⟨es, cl, (hb.block b hk).trans q1, q2⟩, h2⟩
theorem SetAt.mono {w : World} {b n m : Nat} {ks : List ByteArray} (h : SetAt w b n ks) (hn : n ≤ m) : SetAt w b m ks := by
  obtain ⟨D, h1, h2⟩ := h
  exact ⟨D, h1.mono hn, h2⟩
theorem SetAt.same {w : World} {b n : Nat} {ks ls : List ByteArray} (h : SetAt w b n ks) (e : ∀ s, s ∈ ks ↔ s ∈ ls) : SetAt w b n ls := by
  obtain ⟨D, h1, h2⟩ := h
  exact ⟨D, h1, fun s => (h2 s).trans (memB_congr (e s))⟩
theorem lit_ne {s t : ByteArray} (h : s ≠ t) : Lit.string s.data.toList ≠ Lit.string t.data.toList := fun e => h (ByteArray.ext (Array.toList_inj.1 (Lit.string.inj e)))
theorem has_more {D : DataW Unit} {ks : List ByteArray} (hD : IsMap D) (h : ∀ s : ByteArray, Maps.has D (.string s.data.toList) = memB ks s) (t s : ByteArray) :
    Maps.has (D.put (.string t.data.toList) (.agg [])) (.string s.data.toList) = memB (ks ++ [t]) s := by
  by_cases e : s = t
  · subst e
    rw [has_put_same hD (show WideAt.IsKeyLit (.string s.data.toList) from trivial)]
    exact (memB_iff.2 (by simp)).symm
  · rw [has_put_other (lit_ne e), h s]
    exact memB_congr (by simp [e])
theorem has_less {D : DataW Unit} {ks : List ByteArray} (h : ∀ s : ByteArray, Maps.has D (.string s.data.toList) = memB ks s) (t s : ByteArray) :
    Maps.has (D.del (.string t.data.toList)) (.string s.data.toList) = memB (ks.filter fun x => !decide (x = t)) s := by
  by_cases e : s = t
  · subst e
    rw [has_del_same]
    exact (memB_no.2 (by simp)).symm
  · rw [has_del_other (lit_ne e), h s]
    exact memB_congr (by simp [e])

set_option maxRecDepth 100000 in
set_option maxHeartbeats 1000000 in
theorem setHas_any (b n : Nat) (ks : List ByteArray) (s : ByteArray) (w : World) (h : SetAt w b n ks) (hs : s.size ≤ 1048576) :
    Calls Try.prog 45 #[.map (some b), .string s] w fun e w' => e = .returned (.bool (memB ks s)) ∧ Below w.heap.size w w' := by
  obtain ⟨D, h1, h2⟩ := h
  have H2 := hide (h2 s)
  clear h2
  go_enter Try.func45, Try.ntmps45
  go_wp2_with (at_lookup; refine wpList_lookup_own_unit _ rfl _ _ 62 rfl 9 76 lawN Try.underlying62 (zeroN _) b n D rfl h1 _ _ rfl (keyOf_string_mk Try.underlying9 (by unfold maxLen; omega)) ?_; rw [H2.out])
  go_ret
  exact ⟨rfl, (Below.refl _ _).alloc (Nat.le_refl _) _⟩

set_option maxRecDepth 100000 in
set_option maxHeartbeats 1000000 in
theorem setEnter_any (b n : Nat) (ks : List ByteArray) (s : ByteArray) (w : World) (h : SetAt w b n ks) (hn : n ≤ 4194304) (hs : s.size ≤ 1048576) :
    Calls Try.prog 62 #[.map (some b), .string s] w fun e w' => e = .returned (.tuple #[]) ∧ SetAt w' b (n + 1) (ks ++ [s]) ∧ w.grownBy w' (some b) := by
  obtain ⟨D, h1, h2⟩ := h
  have H2 := hide (fun t => has_more h1.isMap h2 s t)
  clear h2
  go_enter Try.func62, Try.ntmps62
  go_wp2_with (at_mapUpdate; refine wpList_mapUpdate_own _ rfl _ _ _ 62 rfl 9 76 lawN Try.underlying62 _ b n D rfl h1 (by unfold maxLen; omega) _ _ _ rfl rfl (keyOf_string_mk Try.underlying9 (by unfold maxLen; omega)) _ [] unitElem_mk ?_; intro w1 hown1 hgrow1)
  go_end0
  exact ⟨rfl, ⟨_, hown1, H2.out⟩, hgrow1⟩

theorem grown_below {B b : Nat} {w0 w w' : World} (h : Below B w0 w) (hg : w.grownBy w' (some b)) (hB : B ≤ w.heap.size) (hb : B ≤ b) : Below B w0 w' := h.grown hg hB (fun j hj => by cases hj; exact hb)

/-- How things stand while names are entered: the set, what was there. -/
def NmA (w W : World) (b m : Nat) (xs : List ByteArray) (iv : Value) (wr : World) : Prop := ∃ i : Nat, i ≤ xs.length ∧ iv = .int .i64 i ∧ Hid (SetAt wr b (m + i) (xs.take i)) ∧ Hid (Below W.heap.size w wr)

set_option maxRecDepth 100000 in
set_option maxHeartbeats 2000000 in
theorem namesIn_any (v : Value) (xs : List ByteArray) (w : World) (h : StrsAt w v xs) (hl : xs.length ≤ 1048576) (hs : ∀ x ∈ xs, x.size ≤ 1048576) :
    Calls Try.prog 44 #[v] w fun e w' => e = .returned (.map (some w.heap.size)) ∧ SetAt w' w.heap.size xs.length xs ∧ Below w.heap.size w w' := by
  have hmm := @run_makeMap Try.prog
  have H0 := hide (SetAt.made w)
  have HB0 : Hid (Below w.heap.size w (w.alloc (.map #[] 0))) := (Below.refl _ _).alloc (Nat.le_refl _) _
  have H := hide h
  have CE := fun n ks s W h hn hs => hide (setEnter_any w.heap.size n ks s W h hn hs)
  obtain ⟨ao, c, rfl, _⟩ := h
  obtain ⟨n, en⟩ : ∃ n, xs.length = n := ⟨_, rfl⟩
  have EN := hide en
  have HS := hide hs
  rw [en] at H hl ⊢
  clear en hs
  go_enter Try.func44, Try.ntmps44
  go_wp2
  go_loopw [9] (fun iv wr => NmA w w w.heap.size 0 xs iv wr) (fun iv _ => n - (intOf iv).toNat)
  case atStart => exact ⟨0, by omega, rfl, H0.out, HB0.out⟩
  case round =>
    obtain ⟨i, hi, rfl, HM, HB⟩ := hrel
    rw [EN.out] at hi
    by_cases hlt : i < n
    · have hlt' : (i : Int) < (n : Int) := by omega
      have hi0 : (0 : Int) ≤ (i : Int) := by omega
      have hix : i < xs.length := by rw [EN.out]; exact hlt
      obtain ⟨ao', c', e1, hc1⟩ := H.out.stays HB.out
      injection e1 with e2 e3 e4
      subst e2
      obtain ⟨a, rfl, _, hx⟩ := hc1 i hix
      have HT : Hid (xs.take (i + 1) = xs.take i ++ [xs[i]]) := List.take_succ_eq_append_getElem hix
      have hsx := HS.out _ (List.getElem_mem hix)
      obtain ⟨x, ex⟩ : ∃ x, xs[i] = x := ⟨_, rfl⟩
      rw [ex] at hx HT hsx
      clear e3 e4 ex hc1
      go_wp2_with (go_at_call 62; refine (unhide (CE _ _ _ _ HM.out (by omega) hsx)).mono ?_; rintro e w1 ⟨rfl, hm1, hg1⟩; have HM1 := hide hm1; have HB1 := hide (grown_below HB.out hg1 HB.out.size (Nat.le_refl _)); clear hm1 hg1)
      go_roundw
      case rel => exact ⟨i + 1, by rw [EN.out]; omega, by go_num, by rw [HT.out, ← Nat.add_assoc]; exact HM1.out, HB1.out⟩
      case measure => simp [intOf]; omega
    · have hlt' : ¬ (i : Int) < (n : Int) := by omega
      have HF : Hid (SetAt wr w.heap.size n xs) := by
        have h := HM.out
        rw [List.take_of_length_le (by rw [EN.out]; omega)] at h
        exact h.mono (by omega)
      go_wp2
      go_ret
      exact ⟨rfl, HF.out, HB.out⟩

def UnC (w : World) (xs : List ByteArray) (iv : Value) (wr : World) : Prop := ∃ i : Nat, i ≤ xs.length ∧ iv = .int .i64 i ∧ Hid (SetAt wr (w.heap.size + 1) (1 + i) (resultN :: xs.take i)) ∧ Hid (Below w.heap.size w wr) ∧ Hid (unlikeB (xs.take i) = true)

end Go.Proofs.Ytmckcbgdkjbpfaa
