/-
  Walks: what is to be done as a list behind pointers, by the program: one more on top, one less.
-/
import Derived.Test.YtipmgmmchmdajaaCopT
import Derived.Test.YtipmgmmchmdajaaRowP
namespace Go.Proofs.Ytipmgmmchmdajaa
open Go.RowKit

/-- The items from the top on. -/
def Chain (w : World) : Value → List Int → Prop
  | v, [] => v = .pointer none
  | v, k :: ks => ∃ b nx, v = .pointer (some ⟨b, 0, none⟩) ∧ Box w b #[.int .i64 k, nx] 120 ∧ Chain w nx ks
theorem Chain.eq {w w' : World} : ∀ {ks : List Int} {v : Value}, Chain w v ks → (∀ b cs, Box w b cs 120 → Box w' b cs 120) → Chain w' v ks
  | [], _, h, _ => h
  | _ :: _, _, ⟨b, nx, e, hb, hc⟩, k => ⟨b, nx, e, k b _ hb, hc.eq k⟩
theorem Chain.stays {w w' : World} {ks : List Int} {v : Value} (h : Chain w v ks) (hb : Below w.heap.size w w') : Chain w' v ks := h.eq fun _ _ k => k.stays hb
theorem Chain.other {w : World} {ks : List Int} {v : Value} (h : Chain w v ks) {g : Nat} {cs : Array Value} {t : TypeId} (hg : Box w g cs t) (ht : t ≠ 120) (i : Nat) (u : Value) : Chain (w.setCell ⟨g, i, none⟩ u) v ks :=
  h.eq fun b _ k => k.other _ _ fun e => by
    have e' : b = g := e
    subst e'
    have h1 : w.heap[b]? = _ := k
    have h2 : w.heap[b]? = _ := hg
    rw [h1] at h2
    injection h2 with h2
    injection h2 with _ h2
    exact ht h2.symm
theorem Chain.form {w : World} {ks : List Int} {v : Value} (h : Chain w v ks) : ∃ o, v = .pointer o := by
  cases ks with
  | nil => exact ⟨_, h⟩
  | cons k ks => obtain ⟨b, nx, e, _⟩ := h; exact ⟨_, e⟩

set_option maxRecDepth 100000 in
set_option maxHeartbeats 1000000 in
theorem push_any (b o : Nat) (k n : Int) (t : Option Addr) (cs : Array Value) (T : TypeId) (w : World) (hb : Box w b cs T) (h0 : cs[o]? = some (.pointer t)) (h1 : cs[o + 1]? = some (.int .i64 n)) (hn0 : 0 ≤ n) (hn : n ≤ 9000000000000000) :
    Calls Try.prog 75 #[.pointer (some ⟨b, o, none⟩), .int .i64 k] w fun e w' => e = .returned (.tuple #[]) ∧ w' = ((w.alloc (.cells #[.int .i64 k, .pointer t] 120)).setCell ⟨b, o, none⟩ (.pointer (some ⟨w.heap.size, 0, none⟩))).setCell ⟨b, o + 1, none⟩ (.int .i64 (n + 1)) := by
  have hw : wrap64 (n + 1) = n + 1 := by unfold wrap64; omega
  have b1 : Box (w.alloc (.cells #[.int .i64 k, .pointer t] 120)) b cs T := hb.stays ((Below.refl _ _).alloc (Nat.le_refl _) _)
  have b2 := b1.set o (.pointer (some ⟨w.heap.size, 0, none⟩))
  have c0 := (Lib.cell_of_heap hb o).trans h0
  have c1 := (Lib.cell_of_heap b1 o).trans h0
  have f1 := Lib.frozen_of_heap b1 o
  have c2 := Lib.cell_of_heap b2 (o + 1)
  have f2 := Lib.frozen_of_heap b2 (o + 1)
  rw [Array.getElem?_setIfInBounds_ne (by omega), h1] at c2
  clear b1 b2 hb h0 h1
  go_enter Try.func75, Try.ntmps75
  go_wp2
  go_end0
  exact ⟨rfl, rfl⟩

set_option maxRecDepth 100000 in
set_option maxHeartbeats 1000000 in
theorem dropNone_any (b o : Nat) (cs : Array Value) (T : TypeId) (w : World) (hb : Box w b cs T) (h0 : cs[o]? = some (.pointer none)) :
    Calls Try.prog 53 #[.pointer (some ⟨b, o, none⟩)] w fun e w' => e = .returned (.tuple #[]) ∧ w' = w := by
  have c0 := (Lib.cell_of_heap hb o).trans h0
  clear hb h0
  go_enter Try.func53, Try.ntmps53
  go_wp2
  refine bodyPost_ret (results_none rfl _ _ _) rfl ?_
  exact ⟨rfl, rfl⟩

set_option maxRecDepth 100000 in
set_option maxHeartbeats 1000000 in
theorem drop_any (b o g : Nat) (k n : Int) (nx : Option Addr) (cs : Array Value) (T : TypeId) (w : World) (hb : Box w b cs T) (h0 : cs[o]? = some (.pointer (some ⟨g, 0, none⟩))) (h1 : cs[o + 1]? = some (.int .i64 n)) (hg : Box w g #[.int .i64 k, .pointer nx] 120) (hn0 : 0 ≤ n) (hn : n ≤ 9000000000000000) :
    Calls Try.prog 53 #[.pointer (some ⟨b, o, none⟩)] w fun e w' => e = .returned (.tuple #[]) ∧ w' = (w.setCell ⟨b, o, none⟩ (.pointer nx)).setCell ⟨b, o + 1, none⟩ (.int .i64 (n - 1)) := by
  have hw : wrap64 (n - 1) = n - 1 := by unfold wrap64; omega
  have b2 := hb.set o (.pointer nx)
  have c0 := (Lib.cell_of_heap hb o).trans h0
  have f1 := Lib.frozen_of_heap hb o
  have c2 := Lib.cell_of_heap b2 (o + 1)
  have f2 := Lib.frozen_of_heap b2 (o + 1)
  have d1 := Lib.cell_of_heap hg 1
  simp at d1
  rw [Array.getElem?_setIfInBounds_ne (by omega), h1] at c2
  clear b2 hb h0 h1 hg
  go_enter Try.func53, Try.ntmps53
  go_wp2
  go_end0
  exact ⟨rfl, rfl⟩

theorem Chain.made {w : World} {ks : List Int} {t : Option Addr} (h : Chain w (.pointer t) ks) {b o : Nat} {cs : Array Value} {T : TypeId} (hb : Box w b cs T) (hT : T ≠ 120) (k : Int) (u v : Value) : Chain (((w.alloc (.cells #[.int .i64 k, .pointer t] 120)).setCell ⟨b, o, none⟩ u).setCell ⟨b, o + 1, none⟩ v) (.pointer (some ⟨w.heap.size, 0, none⟩)) (k :: ks) := by
  have hb1 : Below w.heap.size w (w.alloc (.cells #[.int .i64 k, .pointer t] 120)) := (Below.refl _ _).alloc (Nat.le_refl _) _
  have b1 := hb.stays hb1
  have c1 : Chain (w.alloc (.cells #[.int .i64 k, .pointer t] 120)) (.pointer (some ⟨w.heap.size, 0, none⟩)) (k :: ks) := ⟨w.heap.size, _, rfl, Box.made w _ _, h.stays hb1⟩
  exact (c1.other b1 hT o u).other (b1.set o u) hT (o + 1) v

/-- A list under way: the result's box, the list's own. -/
structure TdZ (w : World) (t : Value) (ks : List Int) (z : World) : Prop where
  bR : Box z w.heap.size #[.pointer none, .int .i64 0] 84
  bL : Box z (w.heap.size + 1) #[t, .int .i64 (ks.length : Int)] 84
  ch : Chain z t ks
  bel : Below w.heap.size w z
theorem TdZ.push {w z : World} {t : Option Addr} {ks : List Int} (h : TdZ w (.pointer t) ks z) (k : Int) : TdZ w (.pointer (some ⟨z.heap.size, 0, none⟩)) (k :: ks) (((z.alloc (.cells #[.int .i64 k, .pointer t] 120)).setCell ⟨w.heap.size + 1, 0, none⟩ (.pointer (some ⟨z.heap.size, 0, none⟩))).setCell ⟨w.heap.size + 1, 0 + 1, none⟩ (.int .i64 ((ks.length : Int) + 1))) := by
  have hb1 : Below z.heap.size z (z.alloc (.cells #[.int .i64 k, .pointer t] 120)) := (Below.refl _ _).alloc (Nat.le_refl _) _
  have ne : w.heap.size ≠ w.heap.size + 1 := by omega
  refine ⟨((h.bR.stays hb1).other ⟨w.heap.size + 1, 0, none⟩ _ ne).other ⟨w.heap.size + 1, 0 + 1, none⟩ _ ne, ?_, h.ch.made h.bL (by decide) k _ _, ((h.bel.trans (hb1.mono h.bel.size)).setCell (p := ⟨w.heap.size + 1, 0, none⟩) (by show w.heap.size ≤ w.heap.size + 1; omega) _).setCell (p := ⟨w.heap.size + 1, 0 + 1, none⟩) (by show w.heap.size ≤ w.heap.size + 1; omega) _⟩
  have := ((h.bL.stays hb1).set 0 (.pointer (some ⟨z.heap.size, 0, none⟩))).set (0 + 1) (.int .i64 ((ks.length : Int) + 1))
  simpa using this
def TdQ (w : World) (xs : List Int) (iv : Value) (z : World) : Prop := ∃ (i : Nat) (t : Option Addr), i ≤ xs.length ∧ iv = .int .i64 (i : Int) ∧ Hid (TdZ w (.pointer t) (xs.take i).reverse z)

set_option maxRecDepth 100000 in
set_option maxHeartbeats 2000000 in
theorem todoOf_any (v : Value) (xs : List Int) (w : World) (h : IntsAt w v xs) (hl : xs.length ≤ 1048576) :
    Calls Try.prog 67 #[v] w fun e w' => ∃ t, e = .returned (.agg #[.pointer t, .int .i64 (xs.length : Int)]) ∧ Chain w' (.pointer t) xs.reverse ∧ Below w.heap.size w w' := by
  have HA := hide h
  obtain ⟨o, c, rfl, _⟩ := h
  obtain ⟨W1, hW⟩ : ∃ W1, (w.alloc (.cells #[.pointer none, .int .i64 0] 84)).alloc (.cells #[.pointer none, .int .i64 0] 84) = W1 := ⟨_, rfl⟩
  have Z1 : Hid (TdZ w (.pointer none) [] W1) := by
    rw [← hW]
    exact hide ⟨(Box.made w _ _).stays ((Below.refl _ _).alloc (Nat.le_refl _) _), Box.madeAt (by simp) _ _, rfl, by go_grown⟩
  have HW := hide hW
  clear hW
  obtain ⟨n, en⟩ : ∃ n, xs.length = n := ⟨_, rfl⟩
  have EN := hide en
  rw [en] at hl ⊢
  clear en
  have CP := fun t ks k z (h : TdZ w (.pointer t) ks z) (hk : ks.length ≤ 1048576) => hide (push_any (w.heap.size + 1) 0 k (ks.length : Int) t _ _ z h.bL rfl rfl (by omega) (by omega))
  go_enter Try.func67, Try.ntmps67
  go_wp2_with fail
  rw [HW.out]
  go_loopw [9] (fun iv z => TdQ w xs iv z) (fun iv _ => n - (intOf iv).toNat)
  case atStart => exact ⟨0, none, by omega, rfl, Z1⟩
  case round =>
    clear Z1 HW
    obtain ⟨i, t, hi, rfl, Z⟩ := hrel
    rw [EN.out] at hi
    have q0 := Lib.cell_of_heap Z.out.bL 0
    have q1 := Lib.cell_of_heap Z.out.bL 1
    have f0 := Lib.frozen_of_heap Z.out.bR 0
    have f1 := Lib.frozen_of_heap Z.out.bR 1
    have r0 := Lib.cell_of_heap Z.out.bR 0
    have r1 := Lib.cell_of_heap Z.out.bR 1
    simp at q0 q1 r0 r1
    have hm : min i xs.length = i := by rw [EN.out]; omega
    rw [hm] at q1
    by_cases hlt : i < n
    · have hlt' : (i : Int) < (n : Int) := by omega
      have hi0 : (0 : Int) ≤ (i : Int) := by omega
      have hin : i < xs.length := by rw [EN.out]; exact hlt
      obtain ⟨o', c', e1, hc1⟩ := HA.out.stays Z.out.bel
      injection e1 with e2 e3 e4
      subst e2
      obtain ⟨a, rfl, ha, hx⟩ := hc1 i hin
      have ET : Hid ((xs.take (i + 1)).reverse = xs[i] :: (xs.take i).reverse) := by
        show _ = _
        rw [List.take_succ_eq_append_getElem hin]
        simp
      obtain ⟨k, ek⟩ : ∃ k, xs[i] = k := ⟨_, rfl⟩
      rw [ek] at hx ET
      clear hc1 e3 e4 ek hm q0 q1 f0 f1 r0 r1
      have CQ := CP t _ k _ Z.out (by rw [List.length_reverse, List.length_take]; omega)
      go_wp2_with (go_at_call 75; refine (unhide CQ).mono ?_; rintro e z ⟨rfl, hz⟩; have Z2 := hide (Z.out.push k); rw [← hz] at Z2; clear hz)
      go_roundw
      case rel => exact ⟨i + 1, _, by rw [EN.out]; omega, by go_num, by rw [ET.out]; exact Z2⟩
      case measure => simp [intOf]; omega
    · have hlt' : ¬ (i : Int) < (n : Int) := by omega
      obtain rfl : i = n := by omega
      have ET : Hid ((xs.take i).reverse = xs.reverse) := by
        show _ = _
        rw [List.take_of_length_le (by rw [EN.out]; omega)]
      have BF : Hid (Box ((wr.setCell ⟨w.heap.size, 0, none⟩ (.pointer t)).setCell ⟨w.heap.size, 1, none⟩ (.int .i64 (i : Int))) w.heap.size #[.pointer t, .int .i64 (i : Int)] 84) := by
        have := (Z.out.bR.set 0 (.pointer t)).set 1 (.int .i64 (i : Int))
        exact hide (by simpa using this)
      have CF : Hid (Chain ((wr.setCell ⟨w.heap.size, 0, none⟩ (.pointer t)).setCell ⟨w.heap.size, 1, none⟩ (.int .i64 (i : Int))) (.pointer t) (xs.take i).reverse) := (Z.out.ch.other Z.out.bR (by decide) 0 _).other (Z.out.bR.set 0 _) (by decide) 1 _
      have WF : Hid (Below w.heap.size w ((wr.setCell ⟨w.heap.size, 0, none⟩ (.pointer t)).setCell ⟨w.heap.size, 1, none⟩ (.int .i64 (i : Int)))) := (Z.out.bel.setCell (p := ⟨w.heap.size, 0, none⟩) (Nat.le_refl _) _).setCell (p := ⟨w.heap.size, 1, none⟩) (Nat.le_refl _) _
      clear hm
      go_wp2
      refine box_ret (g := w.heap.size) (t := 84) (cs := #[.pointer t, .int .i64 (i : Int)]) rfl rfl ?_ _ Try.underlying84 rfl (by kernel_rfl) rfl ?_
      · exact BF.out
      · exact ⟨_, rfl, by rw [← ET.out]; exact CF.out, WF.out⟩
end Go.Proofs.Ytipmgmmchmdajaa
