/-
  The law's marks on rows of numbers.
-/
import Derived.Test.YtoageggcbpjlmaaSgP
import Derived.Test.YtoageggcbpjlmaaTreeP
import Derived.Test.YtoageggcbpjlmaaRowP
import Derived.Test.YtoageggcbpjlmaaTurnP
namespace Go.Proofs.Ytoageggcbpjlmaa
open Go.RowKit

def nMarks (k n : Nat) : List Int := (List.range n).map fun i => ((k + i : Nat) : Int)
theorem nMarks_len (k n : Nat) : (nMarks k n).length = n := by simp [nMarks]
theorem nMarks_at (k n j : Nat) (h : j < n) : (nMarks k n)[j]? = some ((k + j : Nat) : Int) := by simp [nMarks, h]
/-- The first j of a row are marked, the rest is as it was. -/
def nMarked (xs : List Int) (k j : Nat) : List Int := nMarks k j ++ xs.drop j
theorem nMarked_zero (xs : List Int) (k : Nat) : nMarked xs k 0 = xs := by simp [nMarked, nMarks]
theorem nMarked_all (xs : List Int) (k : Nat) : nMarked xs k xs.length = nMarks k xs.length := by simp [nMarked]
theorem nMarked_len (xs : List Int) (k j : Nat) (h : j ≤ xs.length) : (nMarked xs k j).length = xs.length := by simp [nMarked, nMarks]; omega
theorem nMarked_succ (xs : List Int) (k j : Nat) (h : j < xs.length) : (nMarked xs k j).set j ((k + j : Nat) : Int) = nMarked xs k (j + 1) := by
  have e1 : nMarks k (j + 1) = nMarks k j ++ [((k + j : Nat) : Int)] := by simp [nMarks, List.range_succ]
  rw [nMarked, nMarked, e1, List.set_append_right _ _ (by rw [nMarks_len]; exact Nat.le_refl _), nMarks_len, Nat.sub_self, List.drop_eq_getElem_cons h, List.set_cons_zero, List.append_assoc]
  rfl
def MkIRel (w : World) (base : Nat) (v : Value) (n k0 : Nat) (xs : List Int) (iv kv : Value) (wr : World) : Prop :=
  ∃ j : Nat, j ≤ n ∧ iv = .int .i64 j ∧ kv = .int .i64 ((k0 + j : Nat) : Int) ∧ wr.ownsRow base 3 1 v n ((nMarked xs k0 j).map I64) ∧ Below base w wr ∧ ∀ c, v.ownBlock ≠ some c → wr.heap[c]? = w.heap[c]?

set_option maxHeartbeats 1000000 in
theorem markInts_any (v : Value) (n base k0 : Nat) (xs : List Int) (w : World) (hn : n ≤ 1048576) (hk1 : k0 ≤ 1000000000) (ha : w.ownsRow base 3 1 v n (xs.map I64)) :
    Calls Try.prog 20 #[v, .int .i64 k0] w fun e w' => e = .returned (.int .i64 ((k0 + n : Nat) : Int)) ∧ w'.ownsRow base 3 1 v n ((nMarks k0 n).map I64) ∧ Below base w w' ∧ ∀ c, v.ownBlock ≠ some c → w'.heap[c]? = w.heap[c]? := by
  have hl : xs.length = n := by simpa using ha.1
  rcases row_form ha with ⟨h0, aa, ca, rfl⟩ | ⟨h0, g, cap, rfl, hbg, hg⟩
  · subst h0
    have HA := hide ha
    have hx : xs = [] := List.length_eq_zero_iff.1 hl
    subst hx
    clear ha
    go_enter Try.func20, Try.ntmps20
    go_wp2
    refine wp_loop_rounds 1 ?_
    rw [rounds_succ]
    go_wp2
    go_ret
    exact ⟨rfl, HA.out, Below.refl _ _, fun _ _ => rfl⟩
  · have HA := hide ha
    clear ha
    go_enter Try.func20, Try.ntmps20
    go_wp2
    go_loopw [5, 1] (fun iv kv wr => MkIRel w base (.slice (some ⟨g, 0, none⟩) n cap) n k0 xs iv kv wr) (fun iv _ _ => n - (intOf iv).toNat)
    case atStart => exact ⟨0, Nat.zero_le _, rfl, rfl, by rw [nMarked_zero]; exact HA.out, Below.refl _ _, fun _ _ => rfl⟩
    case round =>
      obtain ⟨j, hj, rfl, rfl, hown, hb, hs⟩ := hrel
      by_cases hlt : j < n
      · have hi0 : (0 : Int) ≤ (j : Int) := by omega
        have hi1 : (j : Int) < (n : Int) := by omega
        have hcell : ∃ y, wr.cell? ⟨g, j, none⟩ = some y := by
          rw [hown.cellAt j (by omega), List.getElem?_map, List.getElem?_eq_getElem (by rw [nMarked_len _ _ _ (by omega)]; omega)]
          exact ⟨_, rfl⟩
        obtain ⟨y, hcell⟩ := hcell
        have hfz : wr.frozen? ⟨g, j, none⟩ = false := hown.frozenAt j
        have hst := hown.stored j (I64 ((k0 + j : Nat) : Int))
        have HR : Hid ((wr.setCell ⟨g, j, none⟩ (.int .i64 ((k0 + j : Nat) : Int))).ownsRow base 3 1 (.slice (some ⟨g, 0, none⟩) n cap) n ((nMarked xs k0 (j + 1)).map I64) ∧ Below base w (wr.setCell ⟨g, j, none⟩ (.int .i64 ((k0 + j : Nat) : Int))) ∧ ∀ c, (Value.slice (some ⟨g, 0, none⟩) n cap).ownBlock ≠ some c → (wr.setCell ⟨g, j, none⟩ (.int .i64 ((k0 + j : Nat) : Int))).heap[c]? = w.heap[c]?) := by
          refine ⟨?_, hb.setCell (by exact hbg) _, fun c hc => ?_⟩
          · rw [← nMarked_succ xs k0 j (by omega), List.map_set]
            exact hst.1
          · rw [Below.heap_setCell wr ⟨g, j, none⟩ _ c (fun e => hc (by rw [show c = g from e]; rfl))]
            exact hs c hc
        have HO := hide hown
        clear hown hst hb hs
        go_wp2
        go_roundw
        case rel => exact ⟨j + 1, by omega, by go_num, by go_num, HR.out.1, HR.out.2.1, HR.out.2.2⟩
        case measure => simp [intOf]; omega
      · have e : j = n := by omega
        have HE := hide e
        clear e
        have HO := hide hown
        clear hown
        go_wp2
        go_ret
        refine ⟨by rw [← HE.out]; rfl, ?_, hb, hs⟩
        have := HO.out
        rw [HE.out] at this
        rw [← hl, ← nMarked_all xs k0, hl]
        exact this

set_option maxHeartbeats 1000000 in
theorem heldInts_any (v : Value) (n base k0 : Nat) (w : World) (hn : n ≤ 1048576) (hk1 : k0 ≤ 1000000000) (ha : w.ownsRow base 3 1 v n ((nMarks k0 n).map I64)) :
    Calls Try.prog 21 #[v, .int .i64 k0] w fun e w' => e = .returned (.int .i64 ((k0 + n : Nat) : Int)) ∧ Below w.heap.size w w' := by
  rcases row_form ha with ⟨h0, aa, ca, rfl⟩ | ⟨h0, g, cap, rfl, hbg, hg⟩
  · subst h0
    clear ha
    go_enter Try.func21, Try.ntmps21
    go_wp2
    refine wp_loop_rounds 1 ?_
    rw [rounds_succ]
    go_wp2
    go_ret
    exact ⟨rfl, Below.refl _ _⟩
  · have HA := hide ha
    clear ha
    go_enter Try.func21, Try.ntmps21
    go_wp2
    go_loopw [5, 1] (fun iv kv wr => ∃ j : Nat, j ≤ n ∧ iv = .int .i64 j ∧ kv = .int .i64 ((k0 + j : Nat) : Int) ∧ Below w.heap.size w wr) (fun iv _ _ => n - (intOf iv).toNat)
    case atStart => exact ⟨0, Nat.zero_le _, rfl, rfl, Below.refl _ _⟩
    case round =>
      obtain ⟨j, hj, rfl, rfl, hb⟩ := hrel
      by_cases hlt : j < n
      · have hi0 : (0 : Int) ≤ (j : Int) := by omega
        have hi1 : (j : Int) < (n : Int) := by omega
        have hc : wr.cell? ⟨g, j, none⟩ = some (.int .i64 ((k0 + j : Nat) : Int)) := by
          rw [hb.cell (p := ⟨g, j, none⟩) hg, HA.out.cellAt j (by omega), List.getElem?_map, nMarks_at k0 n j hlt]
          rfl
        have HB := hide hb
        clear hb
        go_wp2
        go_roundw
        case rel => exact ⟨j + 1, by omega, by go_num, by go_num, HB.out⟩
        case measure => simp [intOf]; omega
      · have e : j = n := by omega
        have HE := hide e
        clear e
        go_wp2
        go_ret
        exact ⟨by rw [← HE.out]; rfl, hb⟩

/-- Marking: behind it the row holds the marks. -/
def MkTRel (w : World) (base : Nat) (v : Value) (n k0 : Nat) (xs : List ByteArray) (iv kv : Value) (wr : World) : Prop :=
  ∃ j : Nat, j ≤ n ∧ iv = .int .i64 j ∧ kv = .int .i64 ((k0 + j : Nat) : Int) ∧ wr.ownsRow base 9 1 v n ((marked xs k0 j).map S) ∧ Below base w wr ∧ (∀ c, c < w.heap.size → v.ownBlock ≠ some c → wr.heap[c]? = w.heap[c]?)

end Go.Proofs.Ytoageggcbpjlmaa

namespace Go.Proofs.Ytoageggcbpjlmaa
open Go.RowKit

theorem owns_eq {z z' : World} {base e s n : Nat} {v : Value} {xs : List Value} (h : z.ownsRow base e s v n xs) (hk : ∀ g, v.ownBlock = some g → z'.heap[g]? = z.heap[g]?) : z'.ownsRow base e s v n xs := by
  refine ⟨h.1, ?_⟩
  rcases h.2 with h0 | ⟨g, cap, cur, rfl, hb1, hg, hr⟩
  · exact .inl h0
  · exact .inr ⟨g, cap, cur, rfl, hb1, (hk g rfl).trans hg, hr⟩
theorem owns_lo {a b : Nat} {e : TypeId} {s n : Nat} {v : Value} {l : List Value} {w : World} (h : w.ownsRow b e s v n l) (hab : a ≤ b) : w.ownsRow a e s v n l := by
  refine ⟨h.1, ?_⟩
  rcases h.2 with h0 | ⟨g, cap, cur, e1, hb1, hg, hr⟩
  · exact .inl h0
  · exact .inr ⟨g, cap, cur, e1, Nat.le_trans hab hb1, hg, hr⟩
theorem form_own {B e n : Nat} {w : World} {v : Value} {xs : List Value} (h : w.ownsRow B e 1 v n xs) : ∃ o c, v = .slice o n c := by
  rcases h.2 with ⟨rfl, h0⟩ | ⟨g, cap, cur, rfl, _⟩
  · exact ⟨none, 0, by rw [h0]⟩
  · exact ⟨_, _, rfl⟩
/-- Rows of different types lie apart. -/
theorem ty_apart {w : World} {B B' e e' n n' : Nat} {v v' : Value} {xs xs' : List Value} (h : w.ownsRow B e 1 v n xs) (h' : w.ownsRow B' e' 1 v' n' xs') (he : e ≠ e') : ∀ i, v.ownBlock = some i → v'.ownBlock ≠ some i := fun i hi hi' => by
  rcases h.2 with ⟨rfl, _⟩ | ⟨g, cap, cur, rfl, _, hg, _⟩
  · cases hi
  · rcases h'.2 with ⟨rfl, _⟩ | ⟨g', cap', cur', rfl, _, hg', _⟩
    · cases hi'
    · injection hi with hi
      injection hi' with hi'
      have e1 : g = i := hi
      have e2 : g' = i := hi'
      subst e1
      subst e2
      rw [hg] at hg'
      injection hg' with hg'
      injection hg' with _ hg' _
      exact he hg'
theorem box_alloc_below {X w' : World} {cs : Array Value} {T : TypeId} (hb : Below (X.alloc (.cells cs T)).heap.size (X.alloc (.cells cs T)) w') : Box w' X.heap.size cs T := (Box.made X cs T).stays hb
theorem box_alloc_drew {X w' : World} {cs : Array Value} {T : TypeId} (hb : Below (X.alloc (.cells cs T)).drew.heap.size (X.alloc (.cells cs T)).drew w') : Box w' X.heap.size cs T := (hb.block X.heap.size (by show X.heap.size < (X.alloc (.cells cs T)).heap.size; simp)).trans (Box.made X cs T)
end Go.Proofs.Ytoageggcbpjlmaa
