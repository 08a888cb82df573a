/-
  Walks: a worker: a core and its memory under way, by the program: what a word puts into its register, where the core goes on.
-/
import Derived.Test.YtoageggcbpjlmaaWkE
namespace Go.Proofs.Ytoageggcbpjlmaa
open Go.RowKit

set_option maxRecDepth 100000 in
set_option maxHeartbeats 1000000 in
theorem implLoaded_any (n : Int) (w : World) : Calls Try.prog 51 #[.int .i64 n] w fun e w' => e = .returned (two (if vok n = true then n else 0) (if vok n = true then 0 else 4)) ∧ w = w' := by
  have CV := fun z => hide (implValOk n z)
  cases hv : vok n with
  | true =>
    have CV2 := fun z => hide (CV z).out
    simp only [hv] at CV2
    clear CV hv
    go_enter Try.func51, Try.ntmps51
    go_wp2_with (go_at_call 62; refine (unhide (CV2 _)).mono ?_; rintro e z ⟨rfl, rfl⟩)
    go_ret2
    exact ⟨rfl, rfl⟩
  | false =>
    have CV2 := fun z => hide (CV z).out
    simp only [hv] at CV2
    clear CV hv
    go_enter Try.func51, Try.ntmps51
    go_wp2_with (go_at_call 62; refine (unhide (CV2 _)).mono ?_; rintro e z ⟨rfl, rfl⟩)
    go_ret2
    exact ⟨rfl, rfl⟩

/-- A worker in its box: its registers, place and process, and its memory. -/
def wkC (xs : List Int) (p q : Int) (mv : Value) : Array Value := (xs.map I64 ++ [I64 p, I64 q, mv]).toArray
structure WkZ (B G : Nat) (mv : Value) (xs : List Int) (p q : Int) (mem : List Int) (z : World) : Prop where
  bO : Box z G (wkC xs p q mv) 58
  mo : z.ownsRow B 3 1 mv mem.length (mem.map I64)
  hB : B ≤ G
theorem WkZ.stays {B G : Nat} {mv : Value} {xs : List Int} {p q : Int} {mem : List Int} {z z' : World} (h : WkZ B G mv xs p q mem z) (hb : Below z.heap.size z z') : WkZ B G mv xs p q mem z' :=
  ⟨h.bO.stays hb, owns_eq h.mo fun k hk => hb.block k (h.mo.lt k hk).2, h.hB⟩
theorem WkZ.reg {B G : Nat} {mv : Value} {xs : List Int} {p q : Int} {mem : List Int} {z : World} (h : WkZ B G mv xs p q mem z) {a : Nat} (ha : a < xs.length) : z.cell? ⟨G, a, none⟩ = some (.int .i64 (xs.getD a 0)) := by
  rw [Lib.cell_of_heap h.bO a, wkC, List.getElem?_toArray, List.getElem?_append_left (by rw [List.length_map]; exact ha), List.getElem?_map, List.getElem?_eq_getElem ha, List.getD_eq_getElem?_getD, List.getElem?_eq_getElem ha]
  rfl
theorem WkZ.setReg {B G : Nat} {mv : Value} {xs : List Int} {p q : Int} {mem : List Int} {z : World} (h : WkZ B G mv xs p q mem z) {a : Nat} (ha : a < xs.length) (n : Int) : WkZ B G mv (xs.set a n) p q mem (z.setCell ⟨G, a, none⟩ (.int .i64 n)) := by
  refine ⟨?_, owns_eq h.mo fun k hk => Below.heap_setCell _ ⟨G, a, none⟩ _ k (fun e => Lib.ownBlock_ne h.mo h.bO (by decide) (by rw [hk, show k = G from e])), h.hB⟩
  have := h.bO.set a (.int .i64 n)
  rw [wkC, List.setIfInBounds_toArray, List.set_append_left _ _ (by rw [List.length_map]; exact ha), ← List.map_set] at this
  exact this
theorem WkZ.setPc {B G : Nat} {mv : Value} {xs : List Int} {p q : Int} {mem : List Int} {z : World} (h : WkZ B G mv xs p q mem z) (h8 : xs.length = 8) (n : Int) : WkZ B G mv xs n q mem (z.setCell ⟨G, 8, none⟩ (.int .i64 n)) := by
  refine ⟨?_, owns_eq h.mo fun k hk => Below.heap_setCell _ ⟨G, 8, none⟩ _ k (fun e => Lib.ownBlock_ne h.mo h.bO (by decide) (by rw [hk, show k = G from e])), h.hB⟩
  have := h.bO.set 8 (.int .i64 n)
  rw [wkC, List.setIfInBounds_toArray, List.set_append_right _ _ (by simp [h8])] at this
  have e : 8 - (xs.map I64).length = 0 := by simp [h8]
  rw [e] at this
  exact this
theorem WkZ.setMem {B G mq c i : Nat} {xs : List Int} {p q : Int} {mem : List Int} {z : World} (h : WkZ B G (.slice (some ⟨mq, 0, none⟩) mem.length c) xs p q mem z) (n : Int) : WkZ B G (.slice (some ⟨mq, 0, none⟩) mem.length c) xs p q (mem.set i n) (z.setCell ⟨mq, i, none⟩ (.int .i64 n)) := by
  have hGq : G ≠ mq := fun e => Lib.ownBlock_ne h.mo h.bO (by decide) (by rw [e]; rfl)
  refine ⟨h.bO.other _ _ (by show G ≠ mq; exact hGq), ?_, h.hB⟩
  have h9 := (h.mo.stored i (.int .i64 n)).1
  rw [List.length_set, List.map_set]
  exact h9

set_option maxRecDepth 100000 in
set_option maxHeartbeats 4000000 in
theorem implNext_any (r0 r1 r2 r3 r4 r5 r6 r7 p q : Int) (op a b c : Int) (w : World) (ha : 0 ≤ a ∧ a ≤ 7) (hp : 0 ≤ p ∧ p ≤ 1048576) :
    Calls Try.prog 43 #[.agg #[.int .i64 r0, .int .i64 r1, .int .i64 r2, .int .i64 r3, .int .i64 r4, .int .i64 r5, .int .i64 r6, .int .i64 r7, .int .i64 p, .int .i64 q], .agg #[.int .i64 op, .int .i64 a, .int .i64 b, .int .i64 c]] w fun e w' => e = .returned (.int .i64 (nextE ⟨[r0, r1, r2, r3, r4, r5, r6, r7], p, q⟩ ⟨op, a, b, c⟩)) ∧ Below w.heap.size w w' := by
  obtain ⟨k, rfl⟩ : ∃ k : Nat, a = (k : Int) := ⟨a.toNat, by omega⟩
  have hk : k < 8 := by omega
  have hal : Below w.heap.size w ((w.alloc (.cells #[.int .i64 r0, .int .i64 r1, .int .i64 r2, .int .i64 r3, .int .i64 r4, .int .i64 r5, .int .i64 r6, .int .i64 r7, .int .i64 p, .int .i64 q] 44)).alloc (.cells #[.int .i64 op, .int .i64 (k : Int), .int .i64 b, .int .i64 c] 54)) := by go_grown
  have bS : Box ((w.alloc (.cells #[.int .i64 r0, .int .i64 r1, .int .i64 r2, .int .i64 r3, .int .i64 r4, .int .i64 r5, .int .i64 r6, .int .i64 r7, .int .i64 p, .int .i64 q] 44)).alloc (.cells #[.int .i64 op, .int .i64 (k : Int), .int .i64 b, .int .i64 c] 54)) w.heap.size #[.int .i64 r0, .int .i64 r1, .int .i64 r2, .int .i64 r3, .int .i64 r4, .int .i64 r5, .int .i64 r6, .int .i64 r7, .int .i64 p, .int .i64 q] 44 := (Box.made _ _ _).stays ((Below.refl _ _).alloc (Nat.le_refl _) _)
  have hc : ((w.alloc (.cells #[.int .i64 r0, .int .i64 r1, .int .i64 r2, .int .i64 r3, .int .i64 r4, .int .i64 r5, .int .i64 r6, .int .i64 r7, .int .i64 p, .int .i64 q] 44)).alloc (.cells #[.int .i64 op, .int .i64 (k : Int), .int .i64 b, .int .i64 c] 54)).cell? ⟨w.heap.size, k, none⟩ = some (.int .i64 ([r0, r1, r2, r3, r4, r5, r6, r7].getD k 0)) := by
    rw [Lib.cell_of_heap bS k]
    match k, hk with
    | 0, _ | 1, _ | 2, _ | 3, _ | 4, _ | 5, _ | 6, _ | 7, _ => rfl
  have hw : wrap64 (p + 1) = p + 1 := by unfold wrap64; omega
  have HE : nextE ⟨[r0, r1, r2, r3, r4, r5, r6, r7], p, q⟩ ⟨op, k, b, c⟩ = if op = 8 ∨ (op = 7 ∧ ([r0, r1, r2, r3, r4, r5, r6, r7].getD k 0) = 0) then c else p + 1 := rfl
  rw [HE]
  clear HE bS
  have HAL := hide hal
  have h0 : (0 : Int) ≤ (k : Int) := by omega
  have h1 : (k : Int) < 8 := by omega
  clear hal hp ha hk
  obtain ⟨n, en⟩ : ∃ n, [r0, r1, r2, r3, r4, r5, r6, r7].getD k 0 = n := ⟨_, rfl⟩
  rw [en] at hc ⊢
  clear en
  by_cases h8 : op = 8
  · subst h8
    go_enter Try.func43, Try.ntmps43
    go_wp2
    all_goals
      go_ret
      exact ⟨rfl, HAL.out⟩
  have e8 : (op == 8) = false := by simpa using h8
  by_cases h7 : op = 7
  · subst h7
    by_cases hn : n = 0
    · subst hn
      go_enter Try.func43, Try.ntmps43
      go_wp2
      go_ret
      exact ⟨rfl, HAL.out⟩
    · have en : (n == 0) = false := by simpa using hn
      go_enter Try.func43, Try.ntmps43
      go_wp2
      go_ret
      exact ⟨rfl, HAL.out⟩
  · have e7 : (op == 7) = false := by simpa using h7
    go_enter Try.func43, Try.ntmps43
    go_wp2
    go_ret
    exact ⟨rfl, HAL.out⟩
end Go.Proofs.Ytoageggcbpjlmaa
