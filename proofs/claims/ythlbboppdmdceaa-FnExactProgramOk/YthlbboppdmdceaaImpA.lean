/-
  Walks: kids and types of nodes, by the program.
-/
import Derived.Test.YthlbboppdmdceaaTreeP
import Derived.Handy
namespace Go.Proofs.Ythlbboppdmdceaa
open Go.RowKit

theorem has_any (nv mv pv : Value) (ns : List Nd) (k : Int) (w : World) (hN : NdsAt w nv ns) :
    Calls Try.prog 23 #[.agg #[nv, mv, pv], .int .i64 k] w fun e w' => e = .returned (.bool (inZ 0 ((ns.length : Int) - 1) k)) ∧ Below w.heap.size w w' := by
  have HB : Hid (Below w.heap.size w (w.alloc (.cells #[nv, mv, pv] 33))) := (Below.refl _ _).alloc (Nat.le_refl _) _
  obtain ⟨ao, c, rfl, _⟩ := hN
  obtain ⟨n, hn⟩ : ∃ n, ns.length = n := ⟨_, rfl⟩
  rw [hn] at HB ⊢
  clear hn
  by_cases h1 : (0 : Int) ≤ k
  · by_cases h2 : k < (n : Int)
    · have e : inZ 0 ((n : Int) - 1) k = true := inZ_yes.2 (by omega)
      rw [e]
      clear e
      go_enter Try.func23, Try.ntmps23
      go_wp2
      go_ret
      exact ⟨rfl, HB.out⟩
    · have e : inZ 0 ((n : Int) - 1) k = false := inZ_no.2 (by omega)
      rw [e]
      clear e
      go_enter Try.func23, Try.ntmps23
      go_wp2
      go_ret
      exact ⟨rfl, HB.out⟩
  · have e : inZ 0 ((n : Int) - 1) k = false := inZ_no.2 (by omega)
    rw [e]
    clear e
    go_enter Try.func23, Try.ntmps23
    go_wp2
    go_ret
    exact ⟨rfl, HB.out⟩

/-- The cells of a node as a value. -/
abbrev ndCells (kd nu : Int) (nm mo it : ByteArray) (kv : Value) : Array Value := #[.int .i64 kd, .int .i64 nu, .string nm, .string mo, .string it, kv]

theorem kid_any (kd nu : Int) (nm mo it : ByteArray) (kv : Value) (ks : List Int) (i : Nat) (w : World) (hK : IntsAt w kv ks) :
    Calls Try.prog 49 #[.agg #[.int .i64 kd, .int .i64 nu, .string nm, .string mo, .string it, kv], .int .i64 (i : Int)] w fun e w' => e = .returned (.int .i64 (ks.getD i (-1))) ∧ Below w.heap.size w w' := by
  have hb : Below w.heap.size w (w.alloc (.cells #[.int .i64 kd, .int .i64 nu, .string nm, .string mo, .string it, kv] 45)) := (Below.refl _ _).alloc (Nat.le_refl _) _
  have hK1 := hK.stays hb
  have HB := hide hb
  clear hK hb
  obtain ⟨ao, c, rfl, hc⟩ := hK1
  by_cases h : i < ks.length
  · obtain ⟨a, rfl, ha, hx⟩ := hc i h
    have e : ks.getD i (-1) = ks[i] := by simp [List.getD_eq_getElem?_getD, List.getElem?_eq_getElem h]
    rw [e]
    obtain ⟨x, ex⟩ : ∃ x, ks[i] = x := ⟨_, rfl⟩
    rw [ex] at hx ⊢
    clear hc e ex
    obtain ⟨n, hn⟩ : ∃ n, ks.length = n := ⟨_, rfl⟩
    rw [hn] at HB hx h ⊢
    have h1 : ¬ (n : Int) ≤ (i : Int) := by omega
    have h2 : (i : Int) < (n : Int) := by omega
    have h0 : (0 : Int) ≤ (i : Int) := by omega
    clear hn
    go_enter Try.func49, Try.ntmps49
    go_wp2
    go_ret
    exact ⟨rfl, HB.out⟩
  · have e : ks.getD i (-1) = -1 := by simp [List.getD_eq_getElem?_getD, List.getElem?_eq_none (Nat.le_of_not_lt h)]
    rw [e]
    clear hc e
    obtain ⟨n, hn⟩ : ∃ n, ks.length = n := ⟨_, rfl⟩
    rw [hn] at HB h ⊢
    have h1 : (n : Int) ≤ (i : Int) := by omega
    clear hn
    go_enter Try.func49, Try.ntmps49
    go_wp2
    go_ret
    exact ⟨rfl, HB.out⟩
/-- The same, the place told as a number that a statement names. -/
theorem kid_at (kd nu : Int) (nm mo it : ByteArray) (kv : Value) (ks : List Int) (i : Int) (w : World) (hi : 0 ≤ i) (hK : IntsAt w kv ks) :
    Calls Try.prog 49 #[.agg #[.int .i64 kd, .int .i64 nu, .string nm, .string mo, .string it, kv], .int .i64 i] w fun e w' => e = .returned (.int .i64 (ks.getD i.toNat (-1))) ∧ Below w.heap.size w w' := by
  obtain ⟨j, rfl⟩ : ∃ j : Nat, i = (j : Int) := ⟨i.toNat, by omega⟩
  exact kid_any kd nu nm mo it kv ks j w hK
end Go.Proofs.Ythlbboppdmdceaa
