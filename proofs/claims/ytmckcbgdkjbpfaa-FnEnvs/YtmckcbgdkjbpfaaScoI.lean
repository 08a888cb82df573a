/-
  Scopes, by the specification: is a name in a list?
-/
import Derived.Test.YtmckcbgdkjbpfaaChecked
import Derived.Test.YtmckcbgdkjbpfaaUnlP
import Derived.BigQuiet
import Derived.WalkSmall
import Derived.Test.YtmckcbgdkjbpfaaEnvX
namespace Go.Proofs.Ytmckcbgdkjbpfaa
open Go.RowKit

def InR (w : World) (xs : List ByteArray) (s : ByteArray) (n : Nat) (iv : Value) (wr : World) : Prop := ∃ i : Nat, i ≤ n ∧ iv = .int .i64 i ∧ wr = w ∧ Hid (∀ j, j < i → xs[j]? ≠ some s)

set_option maxRecDepth 100000 in
set_option maxHeartbeats 1000000 in
theorem l08In_any (v : Value) (xs : List ByteArray) (s : ByteArray) (w : World) (h : StrsAt w v xs) (hl : xs.length ≤ 1048576) :
    Calls Try.prog 54 #[v, .string s] w fun e w' => e = .returned (.bool (memB xs s)) ∧ w' = w := by
  have H := hide h
  obtain ⟨ao, c, rfl, _⟩ := h
  obtain ⟨n, en⟩ : ∃ n, xs.length = n := ⟨_, rfl⟩
  have EN := hide en
  rw [en] at H hl ⊢
  clear en
  go_enter Try.func54, Try.ntmps54
  go_wp2
  go_loopw [5] (fun iv wr => InR w xs s n iv wr) (fun iv _ => n - (intOf iv).toNat)
  case atStart => exact ⟨0, by omega, rfl, rfl, fun j hj => absurd hj (Nat.not_lt_zero j)⟩
  case round =>
    obtain ⟨i, hi, rfl, rfl, HN⟩ := hrel
    by_cases hlt : i < n
    · have hlt' : (i : Int) < (n : Int) := by omega
      have hi0 : (0 : Int) ≤ (i : Int) := by omega
      have hix : i < xs.length := by rw [EN.out]; exact hlt
      obtain ⟨ao', c', e1, hc1⟩ := H.out
      injection e1 with e2 e3 e4
      subst e2
      obtain ⟨a, rfl, _, hx⟩ := hc1 i hix
      have EX : Hid (xs[i]? = some xs[i]) := List.getElem?_eq_getElem hix
      have HM : Hid (xs[i] ∈ xs) := List.getElem_mem hix
      obtain ⟨x, ex⟩ : ∃ x, xs[i] = x := ⟨_, rfl⟩
      rw [ex] at hx EX HM
      clear hc1 e3 e4 ex
      by_cases hxs : x = s
      · have HF : Hid (memB xs s = true) := memB_iff.2 (by rw [← hxs]; exact HM.out)
        subst hxs
        go_wp2
        go_ret
        exact ⟨by rw [HF.out]; rfl, rfl⟩
      · have hxs' : (x.toList == s.toList) = false := by rw [Bool.eq_false_iff]; exact fun h => hxs (str_beq.1 h)
        have HN2 : Hid (∀ j, j < i + 1 → xs[j]? ≠ some s) := fun j hj => by
          rcases Nat.lt_succ_iff_lt_or_eq.1 hj with hj | hj
          · exact HN.out j hj
          · subst hj; rw [EX.out]; exact fun q => hxs (Option.some.inj q)
        go_wp2
        go_roundw
        case rel => exact ⟨i + 1, by omega, by go_num, rfl, HN2⟩
        case measure => simp [intOf]; omega
    · have hlt' : ¬ (i : Int) < (n : Int) := by omega
      have HF : Hid (memB xs s = false) := memB_no.2 (fun q => by
        obtain ⟨j, hj, e⟩ := List.getElem_of_mem q
        exact HN.out j (by rw [EN.out] at hj; omega) (by rw [List.getElem?_eq_getElem hj, e]))
      go_wp2
      go_ret
      exact ⟨by rw [HF.out]; rfl, rfl⟩
end Go.Proofs.Ytmckcbgdkjbpfaa

namespace Go.Proofs.Ytmckcbgdkjbpfaa
open Go.RowKit

structure ToZ (w : World) (va0 va1 vb0 vb1 : Value) (G : Nat) (r0 r1 : Value) (y : Ev) (z : World) : Prop where
  bA : Box z w.heap.size #[va0, va1] 27
  bB : Box z (w.heap.size + 1) #[vb0, vb1] 27
  bR : ∃ a b, Box z (w.heap.size + 2) #[a, b] 27
  bO : Box z G #[r0, r1] 27
  own : EvOwn (w.heap.size + 3) z r0 r1 y
  bel : Below w.heap.size w z
  gl : w.heap.size + 3 ≤ G
theorem ToZ.stays {w : World} {va0 va1 vb0 vb1 : Value} {G : Nat} {r0 r1 : Value} {y : Ev} {z z' : World} (h : ToZ w va0 va1 vb0 vb1 G r0 r1 y z) (hb : Below z.heap.size z z') : ToZ w va0 va1 vb0 vb1 G r0 r1 y z' :=
  ⟨h.bA.stays hb, h.bB.stays hb, by obtain ⟨a, b, hr⟩ := h.bR; exact ⟨a, b, hr.stays hb⟩, h.bO.stays hb, h.own.stays hb, h.bel.trans (hb.mono h.bel.size), h.gl⟩
theorem box_more {B e : Nat} {W w' : World} {v v' u : Value} {xs : List Value} (hm : MoreR B e W v xs u v' w') {b : Nat} {cs : Array Value} {T : TypeId} (hown : W.ownsRow B e 1 v xs.length xs) (hb : Box W b cs T) (hT : T ≠ e) : Box w' b cs T := (hm.oth b (Lib.ownBlock_ne hown hb hT) hb.lt).trans hb
theorem set_fst (a b v : Value) : (#[a, b] : Array Value).setIfInBounds 0 v = #[v, b] := rfl
theorem set_snd (a b v : Value) : (#[a, b] : Array Value).setIfInBounds 1 v = #[a, v] := rfl
/-- A name more. -/
theorem ToZ.name {w : World} {va0 va1 vb0 vb1 : Value} {G : Nat} {r0 r1 : Value} {y : Ev} {W w' : World} {s : ByteArray} {v' : Value} (h : ToZ w va0 va1 vb0 vb1 G r0 r1 y W) (hm : MoreR (w.heap.size + 3) 9 W r0 (y.names.map S) (.string s) v' w') :
    ToZ w va0 va1 vb0 vb1 G v' r1 ⟨y.names ++ [s], y.vals⟩ (w'.setCell ⟨G, 0, none⟩ v') := by
  have ho : W.ownsRow (w.heap.size + 3) 9 1 r0 (y.names.map S).length (y.names.map S) := by rw [List.length_map]; exact h.own.o0
  have hG := box_more hm ho h.bO (by decide)
  have hgl := h.gl
  have e1 : EvOwn (w.heap.size + 3) w' v' r1 ⟨y.names ++ [s], y.vals⟩ := by
    refine ⟨?_, owns_eq h.own.o1 fun g hg => hm.oth g (fun e => h.own.ap g e hg) (h.own.o1.lt g hg).2, fun i hi hi1 => ?_⟩
    · have := hm.own
      rw [List.length_map] at this
      show World.ownsRow _ _ _ _ _ (y.names ++ [s]).length ((y.names ++ [s]).map S)
      rw [List.length_append, List.map_append]
      exact this
    · rcases hm.pos with e | e
      · exact h.own.ap i (by rw [← e]; exact hi) hi1
      · rw [hi] at e
        injection e with e
        have := (h.own.o1.lt i hi1).2
        omega
  refine ⟨(box_more hm ho h.bA (by decide)).other _ _ (by show w.heap.size ≠ G; omega), (box_more hm ho h.bB (by decide)).other _ _ (by show w.heap.size + 1 ≠ G; omega), ?_, ?_, e1.boxed hG (by decide) (by decide) _, (h.bel.trans (hm.bel.mono (by omega))).setCell (p := ⟨G, 0, none⟩) (by show w.heap.size ≤ G; omega) _, hgl⟩
  · obtain ⟨a, b, hr⟩ := h.bR
    exact ⟨a, b, (box_more hm ho hr (by decide)).other _ _ (by show w.heap.size + 2 ≠ G; omega)⟩
  · have := hG.set 0 v'
    rw [set_fst] at this
    exact this
/-- A value more. -/
theorem ToZ.val {w : World} {va0 va1 vb0 vb1 : Value} {G : Nat} {r0 r1 : Value} {y : Ev} {W w' : World} {k : Int} {v' : Value} (h : ToZ w va0 va1 vb0 vb1 G r0 r1 y W) (hm : MoreR (w.heap.size + 3) 3 W r1 (y.vals.map I64) (.int .i64 k) v' w') :
    ToZ w va0 va1 vb0 vb1 G r0 v' ⟨y.names, y.vals ++ [k]⟩ (w'.setCell ⟨G, 1, none⟩ v') := by
  have ho : W.ownsRow (w.heap.size + 3) 3 1 r1 (y.vals.map I64).length (y.vals.map I64) := by rw [List.length_map]; exact h.own.o1
  have hG := box_more hm ho h.bO (by decide)
  have hgl := h.gl
  have e1 : EvOwn (w.heap.size + 3) w' r0 v' ⟨y.names, y.vals ++ [k]⟩ := by
    refine ⟨owns_eq h.own.o0 fun g hg => hm.oth g (h.own.ap g hg) (h.own.o0.lt g hg).2, ?_, fun i hi hi1 => ?_⟩
    · have := hm.own
      rw [List.length_map] at this
      show World.ownsRow _ _ _ _ _ (y.vals ++ [k]).length ((y.vals ++ [k]).map I64)
      rw [List.length_append, List.map_append]
      exact this
    · rcases hm.pos with e | e
      · exact h.own.ap i hi (by rw [← e]; exact hi1)
      · rw [hi1] at e
        injection e with e
        have := (h.own.o0.lt i hi).2
        omega
  refine ⟨(box_more hm ho h.bA (by decide)).other _ _ (by show w.heap.size ≠ G; omega), (box_more hm ho h.bB (by decide)).other _ _ (by show w.heap.size + 1 ≠ G; omega), ?_, ?_, e1.boxed hG (by decide) (by decide) _, (h.bel.trans (hm.bel.mono (by omega))).setCell (p := ⟨G, 1, none⟩) (by show w.heap.size ≤ G; omega) _, hgl⟩
  · obtain ⟨a, b, hr⟩ := h.bR
    exact ⟨a, b, (box_more hm ho hr (by decide)).other _ _ (by show w.heap.size + 2 ≠ G; omega)⟩
  · have := hG.set 1 v'
    rw [set_snd] at this
    exact this
theorem ToZ.fin {w : World} {va0 va1 vb0 vb1 : Value} {G : Nat} {r0 r1 : Value} {y : Ev} {z : World} (h : ToZ w va0 va1 vb0 vb1 G r0 r1 y z) :
    Box ((z.setCell ⟨w.heap.size + 2, 0, none⟩ r0).setCell ⟨w.heap.size + 2, 1, none⟩ r1) (w.heap.size + 2) #[r0, r1] 27 ∧ EvOwn w.heap.size ((z.setCell ⟨w.heap.size + 2, 0, none⟩ r0).setCell ⟨w.heap.size + 2, 1, none⟩ r1) r0 r1 y ∧ Below w.heap.size w ((z.setCell ⟨w.heap.size + 2, 0, none⟩ r0).setCell ⟨w.heap.size + 2, 1, none⟩ r1) := by
  obtain ⟨a, b, hr⟩ := h.bR
  have e : ∀ g, w.heap.size + 3 ≤ g → ((z.setCell ⟨w.heap.size + 2, 0, none⟩ r0).setCell ⟨w.heap.size + 2, 1, none⟩ r1).heap[g]? = z.heap[g]? := fun g hg =>
    (Below.heap_setCell _ ⟨w.heap.size + 2, 1, none⟩ _ g (by show g ≠ w.heap.size + 2; omega)).trans (Below.heap_setCell _ ⟨w.heap.size + 2, 0, none⟩ _ g (by show g ≠ w.heap.size + 2; omega))
  refine ⟨by simpa using (hr.set 0 r0).set 1 r1, ⟨owns_lo (owns_eq h.own.o0 fun g hg => e g (h.own.o0.lt g hg).1) (by omega), owns_lo (owns_eq h.own.o1 fun g hg => e g (h.own.o1.lt g hg).1) (by omega), h.own.ap⟩, (h.bel.setCell (p := ⟨w.heap.size + 2, 0, none⟩) (by show w.heap.size ≤ w.heap.size + 2; omega) r0).setCell (p := ⟨w.heap.size + 2, 1, none⟩) (by show w.heap.size ≤ w.heap.size + 2; omega) r1⟩
end Go.Proofs.Ytmckcbgdkjbpfaa
