/-
  Walks: sets of names: made, asked, a name more, a name less.
-/
import Derived.Test.YtenhmecbebibkaaGreatChecked
import Derived.Test.YtenhmecbebibkaaGreatUndW
import Derived.Maps.OwnSet
import Derived.BigQuiet
import Derived.WalkSmall
import Derived.Test.YtenhmecbebibkaaGreatImpG
import Derived.Test.YtenhmecbebibkaaGreatImpB
import Derived.Test.YtenhmecbebibkaaGreatAid
import Derived.Maps.OwnOps
namespace Go.Proofs.YtenhmecbebibkaaGreat
open Go.RowKit Go.Maps
open Go.WideMaps (keyOf_string_mk)

/-- A set of just these names, in a block of its own. -/
def SetAt (w : World) (b n : Nat) (ks : List ByteArray) : Prop :=
  ∃ D, w.ownsMap Tryz.prog 9 (unitElem (H := Unit)) b n D ∧ ∀ s : ByteArray, Maps.has D (.string s.data.toList) = memB ks s
theorem lawN : Keyed Tryz.prog 9 := string_keyed Tryz.underlying9
theorem zeroN (w : World) : (zeroValue 119).run Tryz.prog w = .ok (.agg #[]) w := by kernel_rfl
theorem SetAt.made (w : World) : SetAt (w.alloc (.map #[] 0)) w.heap.size 0 [] := ⟨_, World.ownsMap_made _ _ _ _, fun _ => rfl⟩
theorem SetAt.lt {w : World} {b n : Nat} {ks : List ByteArray} (h : SetAt w b n ks) : b < w.heap.size := by
  obtain ⟨D, h1, _⟩ := h
  exact h1.lt
theorem SetAt.kept {w w' : World} {b n : Nat} {ks : List ByteArray} {row : Option Nat} (h : SetAt w b n ks) (hg : w.grownBy w' row) (hne : some b ≠ row) : SetAt w' b n ks := by
  obtain ⟨D, h1, h2⟩ := h
  exact ⟨D, h1.kept hg hne, h2⟩
theorem SetAt.stays {w w' : World} {b n k : Nat} {ks : List ByteArray} (h : SetAt w b n ks) (hb : Below k w w') (hk : b < k) : SetAt w' b n ks := by
  obtain ⟨D, ⟨es, cl, q1, q2⟩, h2⟩ := h
  exact ⟨D, ⟨es, cl, (hb.block b hk).trans q1, q2⟩, h2⟩
theorem SetAt.mono {w : World} {b n m : Nat} {ks : List ByteArray} (h : SetAt w b n ks) (hn : n ≤ m) : SetAt w b m ks := by
  obtain ⟨D, h1, h2⟩ := h
  exact ⟨D, h1.mono hn, h2⟩
theorem SetAt.same {w : World} {b n : Nat} {ks ls : List ByteArray} (h : SetAt w b n ks) (e : ∀ s, s ∈ ks ↔ s ∈ ls) : SetAt w b n ls := by
  obtain ⟨D, h1, h2⟩ := h
  exact ⟨D, h1, fun s => (h2 s).trans (memB_congr (e s))⟩
theorem lit_ne {s t : ByteArray} (h : s ≠ t) : Lit.string s.data.toList ≠ Lit.string t.data.toList := fun e => h (ByteArray.ext (Array.toList_inj.1 (Lit.string.inj e)))
theorem has_more {D : DataW Unit} {ks : List ByteArray} (hD : IsMap D) (h : ∀ s : ByteArray, Maps.has D (.string s.data.toList) = memB ks s) (t s : ByteArray) :
    Maps.has (D.put (.string t.data.toList) (.agg [])) (.string s.data.toList) = memB (ks ++ [t]) s := by
  by_cases e : s = t
  · subst e
    rw [has_put_same hD (show WideAt.IsKeyLit (.string s.data.toList) from trivial)]
    exact (memB_iff.2 (by simp)).symm
  · rw [has_put_other (lit_ne e), h s]
    exact memB_congr (by simp [e])
theorem has_less {D : DataW Unit} {ks : List ByteArray} (h : ∀ s : ByteArray, Maps.has D (.string s.data.toList) = memB ks s) (t s : ByteArray) :
    Maps.has (D.del (.string t.data.toList)) (.string s.data.toList) = memB (ks.filter fun x => !decide (x = t)) s := by
  by_cases e : s = t
  · subst e
    rw [has_del_same]
    exact (memB_no.2 (by simp)).symm
  · rw [has_del_other (lit_ne e), h s]
    exact memB_congr (by simp [e])

set_option maxRecDepth 100000 in
set_option maxHeartbeats 1000000 in
theorem setHas_any (b n : Nat) (ks : List ByteArray) (s : ByteArray) (w : World) (h : SetAt w b n ks) (hs : s.size ≤ 1048576) :
    Calls Tryz.prog 77 #[.map (some b), .string s] w fun e w' => e = .returned (.bool (memB ks s)) ∧ Below w.heap.size w w' := by
  obtain ⟨D, h1, h2⟩ := h
  have H2 := hide (h2 s)
  clear h2
  go_enter Tryz.func77, Tryz.ntmps77
  go_wp2_with (at_lookup; refine wpList_lookup_own_unit _ rfl _ _ 60 rfl 9 119 lawN Tryz.underlying60 (zeroN _) b n D rfl h1 _ _ rfl (keyOf_string_mk Tryz.underlying9 (by unfold maxLen; omega)) ?_; rw [H2.out])
  go_ret
  exact ⟨rfl, (Below.refl _ _).alloc (Nat.le_refl _) _⟩

set_option maxRecDepth 100000 in
set_option maxHeartbeats 1000000 in
theorem setEnter_any (b n : Nat) (ks : List ByteArray) (s : ByteArray) (w : World) (h : SetAt w b n ks) (hn : n ≤ 4194304) (hs : s.size ≤ 1048576) :
    Calls Tryz.prog 53 #[.map (some b), .string s] w fun e w' => e = .returned (.tuple #[]) ∧ SetAt w' b (n + 1) (ks ++ [s]) ∧ w.grownBy w' (some b) := by
  obtain ⟨D, h1, h2⟩ := h
  have H2 := hide (fun t => has_more h1.isMap h2 s t)
  clear h2
  go_enter Tryz.func53, Tryz.ntmps53
  go_wp2_with (at_mapUpdate; refine wpList_mapUpdate_own _ rfl _ _ _ 60 rfl 9 119 lawN Tryz.underlying60 _ b n D rfl h1 (by unfold maxLen; omega) _ _ _ rfl rfl (keyOf_string_mk Tryz.underlying9 (by unfold maxLen; omega)) _ [] unitElem_mk ?_; intro w1 hown1 hgrow1)
  go_end0
  exact ⟨rfl, ⟨_, hown1, H2.out⟩, hgrow1⟩

theorem grown_below {B b : Nat} {w0 w w' : World} (h : Below B w0 w) (hg : w.grownBy w' (some b)) (hB : B ≤ w.heap.size) (hb : B ≤ b) : Below B w0 w' := h.grown hg hB (fun j hj => by cases hj; exact hb)

/-- How things stand while names are entered: the set, what was there. -/
def NmA (w W : World) (b m : Nat) (xs : List ByteArray) (iv : Value) (wr : World) : Prop := ∃ i : Nat, i ≤ xs.length ∧ iv = .int .i64 i ∧ Hid (SetAt wr b (m + i) (xs.take i)) ∧ Hid (Below W.heap.size w wr)

set_option maxRecDepth 100000 in
set_option maxHeartbeats 2000000 in
theorem namesIn_any (v : Value) (xs : List ByteArray) (w : World) (h : StrsAt w v xs) (hl : xs.length ≤ 1048576) (hs : ∀ x ∈ xs, x.size ≤ 1048576) :
    Calls Tryz.prog 52 #[v] w fun e w' => e = .returned (.map (some w.heap.size)) ∧ SetAt w' w.heap.size xs.length xs ∧ Below w.heap.size w w' := by
  have hmm := @run_makeMap Tryz.prog
  have H0 := hide (SetAt.made w)
  have HB0 : Hid (Below w.heap.size w (w.alloc (.map #[] 0))) := (Below.refl _ _).alloc (Nat.le_refl _) _
  have H := hide h
  have CE := fun n ks s W h hn hs => hide (setEnter_any w.heap.size n ks s W h hn hs)
  obtain ⟨ao, c, rfl, _⟩ := h
  obtain ⟨n, en⟩ : ∃ n, xs.length = n := ⟨_, rfl⟩
  have EN := hide en
  have HS := hide hs
  rw [en] at H hl ⊢
  clear en hs
  go_enter Tryz.func52, Tryz.ntmps52
  go_wp2
  go_loopw [9] (fun iv wr => NmA w w w.heap.size 0 xs iv wr) (fun iv _ => n - (intOf iv).toNat)
  case atStart => exact ⟨0, by omega, rfl, H0.out, HB0.out⟩
  case round =>
    obtain ⟨i, hi, rfl, HM, HB⟩ := hrel
    rw [EN.out] at hi
    by_cases hlt : i < n
    · have hlt' : (i : Int) < (n : Int) := by omega
      have hi0 : (0 : Int) ≤ (i : Int) := by omega
      have hix : i < xs.length := by rw [EN.out]; exact hlt
      obtain ⟨ao', c', e1, hc1⟩ := H.out.stays HB.out
      injection e1 with e2 e3 e4
      subst e2
      obtain ⟨a, rfl, _, hx⟩ := hc1 i hix
      have HT : Hid (xs.take (i + 1) = xs.take i ++ [xs[i]]) := List.take_succ_eq_append_getElem hix
      have hsx := HS.out _ (List.getElem_mem hix)
      obtain ⟨x, ex⟩ : ∃ x, xs[i] = x := ⟨_, rfl⟩
      rw [ex] at hx HT hsx
      clear e3 e4 ex hc1
      go_wp2_with (go_at_call 53; refine (unhide (CE _ _ _ _ HM.out (by omega) hsx)).mono ?_; rintro e w1 ⟨rfl, hm1, hg1⟩; have HM1 := hide hm1; have HB1 := hide (grown_below HB.out hg1 HB.out.size (Nat.le_refl _)); clear hm1 hg1)
      go_roundw
      case rel => exact ⟨i + 1, by rw [EN.out]; omega, by go_num, by rw [HT.out, ← Nat.add_assoc]; exact HM1.out, HB1.out⟩
      case measure => simp [intOf]; omega
    · have hlt' : ¬ (i : Int) < (n : Int) := by omega
      have HF : Hid (SetAt wr w.heap.size n xs) := by
        have h := HM.out
        rw [List.take_of_length_le (by rw [EN.out]; omega)] at h
        exact h.mono (by omega)
      go_wp2
      go_ret
      exact ⟨rfl, HF.out, HB.out⟩

def UnC (w : World) (xs : List ByteArray) (iv : Value) (wr : World) : Prop := ∃ i : Nat, i ≤ xs.length ∧ iv = .int .i64 i ∧ Hid (SetAt wr (w.heap.size + 1) (1 + i) (resultN :: xs.take i)) ∧ Hid (Below w.heap.size w wr) ∧ Hid (unlikeB (xs.take i) = true)

set_option maxRecDepth 100000 in
set_option maxHeartbeats 2000000 in
theorem implUnlike_any (v : Value) (xs : List ByteArray) (w : World) (h : StrsAt w v xs) (hl : xs.length ≤ 1048576) (hs : ∀ x ∈ xs, x.size ≤ 1048576) :
    Calls Tryz.prog 50 #[v] w fun e w' => e = .returned (.bool (unlikeB xs)) ∧ Below w.heap.size w w' := by
  have CN := fun v W h => hide (namesIn_any v [resultN] W h (by decide) (by intro x hx; rw [List.mem_singleton.1 hx]; decide))
  have CE := fun n ks s W h hn hs => hide (setEnter_any (w.heap.size + 1) n ks s W h hn hs)
  have CH := fun n ks s W h hs => hide (setHas_any (w.heap.size + 1) n ks s W h hs)
  have R0 : Hid (StrsAt (w.alloc (.cells #[.string resultN] 9)) (.slice (some ⟨w.heap.size, 0, none⟩) 1 1) [resultN]) := by
    refine ⟨_, _, rfl, fun j hj => ?_⟩
    have e0 : j = 0 := by simp at hj; omega
    subst e0
    exact ⟨_, rfl, by simp, by simp [Addr.add]⟩
  have HB0 : Hid (Below w.heap.size w (w.alloc (.cells #[.string resultN] 9))) := (Below.refl _ _).alloc (Nat.le_refl _) _
  have H := hide h
  obtain ⟨ao, c, rfl, _⟩ := h
  obtain ⟨n, en⟩ : ∃ n, xs.length = n := ⟨_, rfl⟩
  have EN := hide en
  have HS := hide hs
  rw [en] at H hl ⊢
  clear en hs
  go_enter Tryz.func50, Tryz.ntmps50
  go_wp2_with fail
  refine (unhide (CN _ _ R0.out)).mono ?_
  rintro e w1 ⟨rfl, hm1, hb1⟩
  have E1 : (w.alloc (.cells #[.string resultN] 9)).heap.size = w.heap.size + 1 := by simp
  rw [E1] at hm1 ⊢
  have HM1 : Hid (SetAt w1 (w.heap.size + 1) 1 [resultN]) := hm1
  have HB1 := hide (HB0.out.trans (hb1.mono HB0.out.size))
  have HZ : Hid (w.heap.size + 1 ≤ w1.heap.size) := Nat.le_of_lt HM1.out.lt
  clear hm1 hb1 E1
  go_wp2
  go_loopw [10] (fun iv wr => UnC w xs iv wr) (fun iv _ => n - (intOf iv).toNat)
  case atStart => exact ⟨0, by omega, rfl, HM1.out, HB1.out, unlike_nil⟩
  case round =>
    clear HM1 HB1 R0 HB0 CN
    obtain ⟨i, hi, rfl, HM, HB, HU⟩ := hrel
    rw [EN.out] at hi
    by_cases hlt : i < n
    · have hlt' : (i : Int) < (n : Int) := by omega
      have hi0 : (0 : Int) ≤ (i : Int) := by omega
      have hix : i < xs.length := by rw [EN.out]; exact hlt
      obtain ⟨ao', c', e1, hc1⟩ := H.out.stays HB.out
      injection e1 with e2 e3 e4
      subst e2
      obtain ⟨a, rfl, _, hx⟩ := hc1 i hix
      have HT : Hid (xs.take (i + 1) = xs.take i ++ [xs[i]]) := List.take_succ_eq_append_getElem hix
      have HP := hide (unlike_step hix HU.out)
      have HE := hide (unlike_stop hix)
      have hsx := HS.out _ (List.getElem_mem hix)
      obtain ⟨x, ex⟩ : ∃ x, xs[i] = x := ⟨_, rfl⟩
      rw [ex] at hx HT hsx HP HE
      clear e3 e4 ex hc1
      have CH1 := fun n ks W h => CH n ks x W h hsx
      clear CH
      obtain ⟨q, eq⟩ : ∃ q, memB (resultN :: xs.take i) x = q := ⟨_, rfl⟩
      cases q with
      | true =>
        have HF : Hid (unlikeB xs = false) := HE.out (by
          rcases List.mem_cons.1 (memB_iff.1 eq) with h | h
          · exact Or.inl h
          · exact Or.inr h)
        have EQ := hide eq
        clear eq
        go_wp2_with (go_at_call 77; refine (unhide (CH1 _ _ _ HM.out)).mono ?_; rintro e w2 ⟨rfl, hb2⟩; rw [EQ.out]; have HB2 := hide (HB.out.trans (hb2.mono HB.out.size)); clear hb2)
        go_ret
        exact ⟨by rw [HF.out]; rfl, HB2.out⟩
      | false =>
        have hq := memB_no.1 eq
        rw [List.mem_cons, not_or] at hq
        have HU2 : Hid (unlikeB (xs.take (i + 1)) = true) := HP.out hq.1 hq.2
        have EQ := hide eq
        clear eq hq
        go_wp2_with (first
          | (go_at_call 77; refine (unhide (CH1 _ _ _ HM.out)).mono ?_; rintro e w2 ⟨rfl, hb2⟩; rw [EQ.out]; have HB2 := hide (HB.out.trans (hb2.mono HB.out.size)); have HM2 := hide (HM.out.stays hb2 HM.out.lt); clear hb2)
          | (go_at_call 53; refine (unhide (CE _ _ _ _ HM2.out (by omega) hsx)).mono ?_; rintro e w3 ⟨rfl, hm3, hg3⟩; have HM3 := hide hm3; have HB3 := hide (grown_below HB2.out hg3 HB2.out.size (Nat.le_succ _)); clear hm3 hg3))
        go_roundw
        case rel => exact ⟨i + 1, by rw [EN.out]; omega, by go_num, by rw [HT.out, ← Nat.add_assoc]; exact HM3.out, HB3.out, HU2.out⟩
        case measure => simp [intOf]; omega
    · have hlt' : ¬ (i : Int) < (n : Int) := by omega
      have HF : Hid (unlikeB xs = true) := by
        have h := HU.out
        rw [List.take_of_length_le (by rw [EN.out]; omega)] at h
        exact h
      go_wp2
      go_ret
      exact ⟨by rw [HF.out]; rfl, HB.out⟩
end Go.Proofs.YtenhmecbebibkaaGreat

namespace Go.Proofs.YtenhmecbebibkaaGreat
open Go.RowKit Go.Maps
open Go.WideMaps (keyOf_string_mk)

theorem zeroSet (w : World) : (zeroValue 60).run Tryz.prog w = .ok (.map none) w := by kernel_rfl
theorem keyN {s : ByteArray} (hs : s.size ≤ 1048576) : keyOf Tryz.prog 9 (.string s) = some (.string s.data.toList) := keyOf_string_mk Tryz.underlying9 (by unfold maxLen; omega)
/-- A set that may be none at all. -/
def MsAt (w : World) (v : Value) (ks : List ByteArray) : Prop := (v = .map none ∧ ks = []) ∨ ∃ b n, v = .map (some b) ∧ SetAt w b n ks
theorem SetAt.all {w w' : World} {b n : Nat} {ks : List ByteArray} (h : SetAt w b n ks) (hb : Below w.heap.size w w') : SetAt w' b n ks := h.stays hb h.lt
theorem MsAt.stays {w w' : World} {v : Value} {ks : List ByteArray} (h : MsAt w v ks) (hb : Below w.heap.size w w') : MsAt w' v ks := by
  rcases h with h | ⟨b, n, rfl, h⟩
  · exact .inl h
  · exact .inr ⟨b, n, rfl, h.all hb⟩
def mapElem : Value → Option (DataW Unit × List MemPlace)
  | .map none => some (.lit (.bool false), [])
  | .map (some b) => some (.lit (.int .i64 (b : Int)), [])
  | _ => none
theorem mapElem_inj {v u : Value} {d : DataW Unit} {p q : List MemPlace} (hv : mapElem v = some (d, p)) (hu : mapElem u = some (d, q)) : v = u := by
  unfold mapElem at hv hu
  split at hv <;> split at hu <;> simp_all
  · obtain ⟨rfl, _⟩ := hv
    cases hu.1
  · obtain ⟨rfl, _⟩ := hv
    cases hu.1
  · obtain ⟨rfl, _⟩ := hv
    have h := hu.1
    injection h with h
    injection h with _ h
    exact_mod_cast h.symm
/-- Sets by name: of each name its set. -/
def EsAt (w : World) (v : Value) (f : ByteArray → List ByteArray) : Prop := (v = .map none ∧ ∀ s, f s = []) ∨
  ∃ b n D, v = .map (some b) ∧ w.ownsMap Tryz.prog 9 mapElem b n D ∧ ∀ s : ByteArray, ∃ u, mapElem u = some (D.atKey (.string s.data.toList) (.lit (.bool false)), []) ∧ MsAt w u (f s)
theorem ownsMap_all {w w' : World} {b n : Nat} {D : DataW Unit} {R : Value → Option (DataW Unit × List MemPlace)} (h : w.ownsMap Tryz.prog 9 R b n D) (hb : Below w.heap.size w w') : w'.ownsMap Tryz.prog 9 R b n D := by
  have hl := h.lt
  obtain ⟨es, cl, q1, q2⟩ := h
  exact ⟨es, cl, (hb.block b hl).trans q1, q2⟩
theorem EsAt.stays {w w' : World} {v : Value} {f : ByteArray → List ByteArray} (h : EsAt w v f) (hb : Below w.heap.size w w') : EsAt w' v f := by
  rcases h with h | ⟨b, n, D, rfl, h1, h2⟩
  · exact .inl h
  · refine .inr ⟨b, n, D, rfl, ownsMap_all h1 hb, fun s => ?_⟩
    obtain ⟨u, h3, h4⟩ := h2 s
    exact ⟨u, h3, h4.stays hb⟩
theorem EsAt.look {w : World} {v : Value} {f : ByteArray → List ByteArray} (h : EsAt w v f) {s : ByteArray} (hs : s.size ≤ 1048576) : ∃ u, (Instr.lookup 61 v (.string s) false).run Tryz.prog w = .ok u w ∧ MsAt w u (f s) := by
  rcases h with ⟨rfl, h⟩ | ⟨b, n, D, rfl, h1, h2⟩
  · refine ⟨.map none, ?_, .inl ⟨rfl, h s⟩⟩
    have := Maps.look_nil (w := w) false lawN Tryz.underlying61 (zeroSet w) (keyN hs)
    exact this
  · obtain ⟨u, h3, h4⟩ := h2 s
    obtain ⟨u', ps, hrun, hu⟩ := h1.lookup lawN Tryz.underlying61 (zeroSet w) (zd := .lit (.bool false)) (zp := []) rfl (keyN hs)
    obtain rfl := mapElem_inj hu h3
    exact ⟨u', hrun, h4⟩

set_option maxRecDepth 100000 in
set_option maxHeartbeats 1000000 in
theorem hasM_any (v : Value) (ks : List ByteArray) (s : ByteArray) (w : World) (h : MsAt w v ks) (hs : s.size ≤ 1048576) :
    Calls Tryz.prog 77 #[v, .string s] w fun e w' => e = .returned (.bool (memB ks s)) ∧ Below w.heap.size w w' := by
  rcases h with ⟨rfl, rfl⟩ | ⟨b, n, rfl, h⟩
  · have hl := Maps.look_nil (w := w) true lawN Tryz.underlying60 (zeroN w) (keyN hs)
    simp only [if_true] at hl
    go_enter Tryz.func77, Tryz.ntmps77
    go_wp2
    go_ret
    exact ⟨rfl, (Below.refl _ _).alloc (Nat.le_refl _) _⟩
  · exact setHas_any b n ks s w h hs

/-- Which names may stand in a body. -/
structure Sco where
  inE : Bool
  vars : List ByteArray
  queues : List ByteArray
  ents : ByteArray → List ByteArray
structure ScAt (w : World) (va qa ea : Value) (s : Sco) : Prop where
  vars : MsAt w va s.vars
  queues : MsAt w qa s.queues
  ents : EsAt w ea s.ents
theorem ScAt.stays {w w' : World} {va qa ea : Value} {s : Sco} (h : ScAt w va qa ea s) (hb : Below w.heap.size w w') : ScAt w' va qa ea s := ⟨h.vars.stays hb, h.queues.stays hb, h.ents.stays hb⟩
def varS (s : Sco) (nm : ByteArray) : Int := if memB s.vars nm = true then 0 else 2
def queueS (s : Sco) (nm : ByteArray) : Int := if s.inE = true then (if memB s.queues nm = true then 0 else 3) else 5
def readS (s : Sco) (nm : ByteArray) : Int := if s.inE = true then 5 else varS s nm
def callS (s : Sco) (nm mo it : ByteArray) : Int := if s.inE = true then 5 else if it.toList.isEmpty = false ∧ memB s.vars it = false then 2 else if memB (s.ents nm) mo = true then 0 else 4
def codeS (s : Sco) (kd : Int) (nm mo it : ByteArray) : Int :=
  if kd = 2 ∨ kd = 11 then varS s nm else if kd = 16 then readS s nm else if kd = 14 then callS s nm mo it else if kd = 17 ∨ kd = 18 then queueS s nm else 0
theorem MsAt.is {w : World} {v : Value} {ks : List ByteArray} (h : MsAt w v ks) : ∃ m, v = .map m := by
  rcases h with ⟨rfl, _⟩ | ⟨b, n, rfl, _⟩
  · exact ⟨_, rfl⟩
  · exact ⟨_, rfl⟩
theorem EsAt.is {w : World} {v : Value} {f : ByteArray → List ByteArray} (h : EsAt w v f) : ∃ m, v = .map m := by
  rcases h with ⟨rfl, _⟩ | ⟨b, n, D, rfl, _⟩
  · exact ⟨_, rfl⟩
  · exact ⟨_, rfl⟩

set_option maxRecDepth 100000 in
set_option maxHeartbeats 1000000 in
theorem codeVar_any (va qa ea : Value) (s : Sco) (nm : ByteArray) (w : World) (h : ScAt w va qa ea s) (hn : nm.size ≤ 1048576) :
    Calls Tryz.prog 80 #[.agg #[.bool s.inE, va, qa, ea], .string nm] w fun e w' => e = .returned (.int .i64 (varS s nm)) ∧ Below w.heap.size w w' := by
  have hb : Below w.heap.size w (w.alloc (.cells #[.bool s.inE, va, qa, ea] 63)) := (Below.refl _ _).alloc (Nat.le_refl _) _
  have CH := hide (hasM_any va s.vars nm _ (h.vars.stays hb) hn)
  have HB := hide hb
  obtain ⟨m1, rfl⟩ := h.vars.is
  obtain ⟨m2, rfl⟩ := h.queues.is
  obtain ⟨m3, rfl⟩ := h.ents.is
  clear hb h
  unfold varS
  obtain ⟨i, ei⟩ : ∃ i, s.inE = i := ⟨_, rfl⟩
  rw [ei] at CH HB ⊢
  cases hq : memB s.vars nm with
  | true =>
    rw [hq] at CH
    rw [if_pos rfl]
    go_enter Tryz.func80, Tryz.ntmps80
    go_wp2_with (go_at_call 77; refine (unhide CH).mono ?_; rintro e w2 ⟨rfl, hb2⟩)
    go_ret
    exact ⟨rfl, HB.out.trans (hb2.mono HB.out.size)⟩
  | false =>
    rw [hq] at CH
    rw [if_neg (by decide)]
    go_enter Tryz.func80, Tryz.ntmps80
    go_wp2_with (go_at_call 77; refine (unhide CH).mono ?_; rintro e w2 ⟨rfl, hb2⟩)
    go_ret
    exact ⟨rfl, HB.out.trans (hb2.mono HB.out.size)⟩

set_option maxRecDepth 100000 in
set_option maxHeartbeats 1000000 in
theorem codeQueue_any (va qa ea : Value) (s : Sco) (nm : ByteArray) (w : World) (h : ScAt w va qa ea s) (hn : nm.size ≤ 1048576) :
    Calls Tryz.prog 83 #[.agg #[.bool s.inE, va, qa, ea], .string nm] w fun e w' => e = .returned (.int .i64 (queueS s nm)) ∧ Below w.heap.size w w' := by
  have hb : Below w.heap.size w (w.alloc (.cells #[.bool s.inE, va, qa, ea] 63)) := (Below.refl _ _).alloc (Nat.le_refl _) _
  have CH := hide (hasM_any qa s.queues nm _ (h.queues.stays hb) hn)
  have HB := hide hb
  obtain ⟨m1, rfl⟩ := h.vars.is
  obtain ⟨m2, rfl⟩ := h.queues.is
  obtain ⟨m3, rfl⟩ := h.ents.is
  clear hb h
  unfold queueS
  obtain ⟨i, ei⟩ : ∃ i, s.inE = i := ⟨_, rfl⟩
  rw [ei] at CH HB ⊢
  cases i with
  | false =>
    rw [if_neg (by decide)]
    clear CH
    go_enter Tryz.func83, Tryz.ntmps83
    go_wp2
    go_ret
    exact ⟨rfl, HB.out⟩
  | true =>
    rw [if_pos rfl]
    cases hq : memB s.queues nm with
    | true =>
      rw [hq] at CH
      rw [if_pos rfl]
      go_enter Tryz.func83, Tryz.ntmps83
      go_wp2_with (go_at_call 77; refine (unhide CH).mono ?_; rintro e w2 ⟨rfl, hb2⟩)
      go_ret
      exact ⟨rfl, HB.out.trans (hb2.mono HB.out.size)⟩
    | false =>
      rw [hq] at CH
      rw [if_neg (by decide)]
      go_enter Tryz.func83, Tryz.ntmps83
      go_wp2_with (go_at_call 77; refine (unhide CH).mono ?_; rintro e w2 ⟨rfl, hb2⟩)
      go_ret
      exact ⟨rfl, HB.out.trans (hb2.mono HB.out.size)⟩

set_option maxRecDepth 100000 in
set_option maxHeartbeats 1000000 in
theorem codeRead_any (va qa ea : Value) (s : Sco) (nm : ByteArray) (w : World) (h : ScAt w va qa ea s) (hn : nm.size ≤ 1048576) :
    Calls Tryz.prog 81 #[.agg #[.bool s.inE, va, qa, ea], .agg #[.string nm]] w fun e w' => e = .returned (.int .i64 (readS s nm)) ∧ Below w.heap.size w w' := by
  have hb : Below w.heap.size w ((w.alloc (.cells #[.bool s.inE, va, qa, ea] 63)).alloc (.cells #[.string nm] 125)) := ((Below.refl _ _).alloc (Nat.le_refl _) _).alloc ((Below.refl _ _).alloc (Nat.le_refl _) _).size _
  have CV := hide (codeVar_any va qa ea s nm _ (h.stays hb) hn)
  have HB := hide hb
  obtain ⟨m1, rfl⟩ := h.vars.is
  obtain ⟨m2, rfl⟩ := h.queues.is
  obtain ⟨m3, rfl⟩ := h.ents.is
  clear hb h
  unfold readS
  obtain ⟨r, er⟩ : ∃ r, varS s nm = r := ⟨_, rfl⟩
  rw [er] at CV ⊢
  obtain ⟨i, ei⟩ : ∃ i, s.inE = i := ⟨_, rfl⟩
  rw [ei] at CV HB ⊢
  clear ei er
  cases i with
  | true =>
    rw [if_pos rfl]
    clear CV
    go_enter Tryz.func81, Tryz.ntmps81
    go_wp2
    go_ret
    exact ⟨rfl, HB.out⟩
  | false =>
    rw [if_neg (by decide)]
    have bx := (Below.refl (w.alloc (.cells #[.bool false, .map m1, .map m2, .map m3] 63)).heap.size (w.alloc (.cells #[.bool false, .map m1, .map m2, .map m3] 63))).alloc (Nat.le_refl _) (.cells #[.string nm] 125)
    have BX := (Box.made w #[.bool false, .map m1, .map m2, .map m3] 63).stays bx
    have q0 := Lib.cell_of_heap BX 0
    have q1 := Lib.cell_of_heap BX 1
    have q2 := Lib.cell_of_heap BX 2
    have q3 := Lib.cell_of_heap BX 3
    simp only [List.getElem?_toArray, List.getElem?_cons_succ, List.getElem?_cons_zero] at q0 q1 q2 q3
    clear bx BX
    go_enter Tryz.func81, Tryz.ntmps81
    go_wp2_with (go_at_call 80; refine (unhide CV).mono ?_; rintro e w2 ⟨rfl, hb2⟩)
    go_ret
    exact ⟨rfl, HB.out.trans (hb2.mono HB.out.size)⟩

set_option maxRecDepth 100000 in
set_option maxHeartbeats 1000000 in
theorem codeCall_any (va qa ea : Value) (s : Sco) (nm mo it : ByteArray) (k : Int) (w : World) (h : ScAt w va qa ea s) (hn : nm.size ≤ 1048576) (hm : mo.size ≤ 1048576) (hi : it.size ≤ 1048576) :
    Calls Tryz.prog 82 #[.agg #[.bool s.inE, va, qa, ea], .agg #[.string nm, .string mo, .string it, .int .i64 k]] w fun e w' => e = .returned (.int .i64 (callS s nm mo it)) ∧ Below w.heap.size w w' := by
  have hb : Below w.heap.size w ((w.alloc (.cells #[.bool s.inE, va, qa, ea] 63)).alloc (.cells #[.string nm, .string mo, .string it, .int .i64 k] 128)) := ((Below.refl _ _).alloc (Nat.le_refl _) _).alloc ((Below.refl _ _).alloc (Nat.le_refl _) _).size _
  have CV := fun z hz => hide (hasM_any va s.vars it z hz hi)
  have CE := fun u z hz => hide (hasM_any u (s.ents nm) mo z hz hm)
  have H1 := hide (h.stays hb)
  have HB := hide hb
  obtain ⟨m1, rfl⟩ := h.vars.is
  obtain ⟨m2, rfl⟩ := h.queues.is
  obtain ⟨m3, rfl⟩ := h.ents.is
  clear hb h
  obtain ⟨R, eR⟩ : ∃ R, callS s nm mo it = R := ⟨_, rfl⟩
  have ER := hide eR
  rw [eR]
  clear eR
  unfold callS at ER
  obtain ⟨i, ei⟩ : ∃ i, s.inE = i := ⟨_, rfl⟩
  rw [ei] at HB H1 ER ⊢
  clear ei
  have bx := (Below.refl (w.alloc (.cells #[.bool i, .map m1, .map m2, .map m3] 63)).heap.size (w.alloc (.cells #[.bool i, .map m1, .map m2, .map m3] 63))).alloc (Nat.le_refl _) (.cells #[.string nm, .string mo, .string it, .int .i64 k] 128)
  have BX := hide ((Box.made w #[.bool i, .map m1, .map m2, .map m3] 63).stays bx)
  have BY := hide (Box.made (w.alloc (.cells #[.bool i, .map m1, .map m2, .map m3] 63)) #[.string nm, .string mo, .string it, .int .i64 k] 128)
  clear bx
  have hsz : (w.alloc (.cells #[.bool i, .map m1, .map m2, .map m3] 63)).heap.size = w.heap.size + 1 := by simp
  rw [hsz] at BY
  clear hsz
  cases i with
  | true =>
    have eR2 : R = 5 := by rw [← ER.out, if_pos rfl]
    subst eR2
    have q0 := Lib.cell_of_heap BX.out 0
    simp only [List.getElem?_toArray, List.getElem?_cons_zero] at q0
    clear CV CE
    go_enter Tryz.func82, Tryz.ntmps82
    go_wp2
    go_ret
    exact ⟨rfl, HB.out⟩
  | false =>
    have ER2 : Hid ((if it.toList.isEmpty = false ∧ memB s.vars it = false then 2 else if memB (s.ents nm) mo = true then 0 else 4) = R) := by
      have h := ER.out
      rw [if_neg (show ¬ (false = true) by decide)] at h
      exact h
    clear ER
    cases h3 : it.toList.isEmpty with
    | true =>
      have h3' : it.toList = [] := by simpa using h3
      have HQ : Hid (¬ (it.toList.isEmpty = false ∧ memB s.vars it = false)) := fun h => by rw [h3] at h; cases h.1
      clear CV
      have q0 := Lib.cell_of_heap BX.out 0
      have q1 := Lib.cell_of_heap BX.out 1
      have q3 := Lib.cell_of_heap BX.out 3
      have r0 := Lib.cell_of_heap BY.out 0
      have r1 := Lib.cell_of_heap BY.out 1
      have r2 := Lib.cell_of_heap BY.out 2
      simp only [List.getElem?_toArray, List.getElem?_cons_succ, List.getElem?_cons_zero] at q0 q1 q3 r0 r1 r2
      obtain ⟨u, hl, hu⟩ := H1.out.ents.look hn
      have CE1 := CE u _ hu
      clear hu
      cases hq : memB (s.ents nm) mo with
      | true =>
        rw [hq] at CE1
        have eR2 : R = 0 := by rw [← ER2.out, if_neg HQ.out, if_pos hq]
        subst eR2
        clear hq
        go_enter Tryz.func82, Tryz.ntmps82
        go_wp2_with (go_at_call 77; refine (unhide CE1).mono ?_; rintro e w3 ⟨rfl, hb3⟩)
        go_ret
        exact ⟨rfl, HB.out.trans (hb3.mono HB.out.size)⟩
      | false =>
        rw [hq] at CE1
        have eR2 : R = 4 := by rw [← ER2.out, if_neg HQ.out, if_neg (by rw [hq]; decide)]
        subst eR2
        clear hq
        go_enter Tryz.func82, Tryz.ntmps82
        go_wp2_with (go_at_call 77; refine (unhide CE1).mono ?_; rintro e w3 ⟨rfl, hb3⟩)
        go_ret
        exact ⟨rfl, HB.out.trans (hb3.mono HB.out.size)⟩
    | false =>
      have h3' : ¬ it.toList = [] := by simpa using h3
      have CV1 := CV _ H1.out.vars
      clear CV
      have q0 := Lib.cell_of_heap BX.out 0
      have q1 := Lib.cell_of_heap BX.out 1
      have q3 := Lib.cell_of_heap BX.out 3
      have r0 := Lib.cell_of_heap BY.out 0
      have r1 := Lib.cell_of_heap BY.out 1
      have r2 := Lib.cell_of_heap BY.out 2
      simp only [List.getElem?_toArray, List.getElem?_cons_succ, List.getElem?_cons_zero] at q0 q1 q3 r0 r1 r2
      cases hv : memB s.vars it with
      | false =>
        rw [hv] at CV1
        have eR2 : R = 2 := by rw [← ER2.out, if_pos ⟨h3, hv⟩]
        subst eR2
        clear hv CE
        go_enter Tryz.func82, Tryz.ntmps82
        go_wp2_with (go_at_call 77; refine (unhide CV1).mono ?_; rintro e w2 ⟨rfl, hb2⟩)
        go_ret
        exact ⟨rfl, HB.out.trans (hb2.mono HB.out.size)⟩
      | true =>
        rw [hv] at CV1
        have HQ : Hid (¬ (it.toList.isEmpty = false ∧ memB s.vars it = false)) := fun h => by rw [hv] at h; cases h.2
        clear hv
        go_enter Tryz.func82, Tryz.ntmps82
        go_wp2_with fail
        refine (unhide CV1).mono ?_
        rintro e w2 ⟨rfl, hb2⟩
        have H2 := hide (H1.out.stays hb2)
        have HB2 := hide (HB.out.trans (hb2.mono HB.out.size))
        have BX2 := hide (BX.out.stays hb2)
        have BY2 := hide (BY.out.stays hb2)
        clear hb2 q0 q1 q3 r0 r1 r2 H1 HB BX BY CV1
        have q0 := Lib.cell_of_heap BX2.out 0
        have q1 := Lib.cell_of_heap BX2.out 1
        have q3 := Lib.cell_of_heap BX2.out 3
        have r0 := Lib.cell_of_heap BY2.out 0
        have r1 := Lib.cell_of_heap BY2.out 1
        have r2 := Lib.cell_of_heap BY2.out 2
        simp only [List.getElem?_toArray, List.getElem?_cons_succ, List.getElem?_cons_zero] at q0 q1 q3 r0 r1 r2
        obtain ⟨u, hl, hu⟩ := H2.out.ents.look hn
        have CE1 := CE u _ hu
        clear hu
        cases hq : memB (s.ents nm) mo with
        | true =>
          rw [hq] at CE1
          have eR2 : R = 0 := by rw [← ER2.out, if_neg HQ.out, if_pos hq]
          subst eR2
          clear hq
          go_wp2_with (go_at_call 77; refine (unhide CE1).mono ?_; rintro e w3 ⟨rfl, hb3⟩)
          go_ret
          exact ⟨rfl, HB2.out.trans (hb3.mono HB2.out.size)⟩
        | false =>
          rw [hq] at CE1
          have eR2 : R = 4 := by rw [← ER2.out, if_neg HQ.out, if_neg (by rw [hq]; decide)]
          subst eR2
          clear hq
          go_wp2_with (go_at_call 77; refine (unhide CE1).mono ?_; rintro e w3 ⟨rfl, hb3⟩)
          go_ret
          exact ⟨rfl, HB2.out.trans (hb3.mono HB2.out.size)⟩
end Go.Proofs.YtenhmecbebibkaaGreat
