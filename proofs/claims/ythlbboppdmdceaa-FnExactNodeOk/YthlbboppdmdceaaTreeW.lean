/-
  Walks: kids of a node, by the specification.
-/
import Derived.Test.YthlbboppdmdceaaTreeP
import Derived.Test.YthlbboppdmdceaaChecked
import Derived.BigQuiet
import Derived.WalkSmall
import Derived.Deep.RegionHeld3
namespace Go.Proofs.Ythlbboppdmdceaa
open Go.RowKit

theorem l01In_gen (x lo hi : Int) (w : World) : Calls Try.prog 15 #[.int .i64 x, .int .i64 lo, .int .i64 hi] w fun e w' => e = .returned (.bool (inZ lo hi x)) ∧ w' = w := by
  by_cases h1 : lo ≤ x
  · have e : inZ lo hi x = decide (x ≤ hi) := by simp [inZ, h1]
    rw [e]
    go_enter Try.func15, Try.ntmps15
    go_wp2
    go_ret
    exact ⟨rfl, rfl⟩
  · have e : inZ lo hi x = false := by simp [inZ, h1]
    rw [e]
    go_enter Try.func15, Try.ntmps15
    go_wp2
    go_ret
    exact ⟨rfl, rfl⟩

theorem l05Value_any (k : Int) (w : World) : Calls Try.prog 16 #[.int .i64 k] w fun e w' => e = .returned (.bool (valueQ k)) ∧ w' = w := by
  have C := fun w => hide (l01In_gen k 1 5 w)
  go_enter Try.func16, Try.ntmps16
  go_wp2_with (go_at_call 15; refine (unhide (C _)).mono ?_; rintro e w1 ⟨rfl, rfl⟩)
  go_ret
  exact ⟨rfl, rfl⟩
theorem l05Statement_any (k : Int) (w : World) : Calls Try.prog 17 #[.int .i64 k] w fun e w' => e = .returned (.bool (stmtQ k)) ∧ w' = w := by
  have C := fun w => hide (l01In_gen k 11 19 w)
  go_enter Try.func17, Try.ntmps17
  go_wp2_with (go_at_call 15; refine (unhide (C _)).mono ?_; rintro e w1 ⟨rfl, rfl⟩)
  go_ret
  exact ⟨rfl, rfl⟩

set_option maxHeartbeats 1000000 in
theorem l05Kid_any (nv mv pv : Value) (ns : List Nd) (k i : Nat) (w : World) (hN : NdsAt w nv ns) (hk : k < ns.length) (hi : i < ns[k].kids.length) (hl : ns.length ≤ 1048576) :
    Calls Try.prog 44 #[.agg #[nv, mv, pv], .int .i64 (k : Int), .int .i64 (i : Int)] w fun e w' => e = .returned (.int .i64 (kidKind ns k ns[k].kids[i])) ∧ Below w.heap.size w w' := by
  have hb1 : Below w.heap.size w (w.alloc (.cells #[nv, mv, pv] 33)) := (Below.refl _ _).alloc (Nat.le_refl _) _
  have hN1 := hN.stays hb1
  obtain ⟨ao, c, rfl, hc⟩ := hN1
  obtain ⟨a, kv, rfl, ha, hx⟩ := hc k hk
  obtain ⟨p, hpa⟩ : ∃ p, a.add (k * 6) = p := ⟨_, rfl⟩
  rw [hpa] at hx
  have c5 := hx.c5
  obtain ⟨bo, cb, rfl, hkc⟩ := hx.kids
  obtain ⟨b, rfl, hbb, hb5⟩ := hkc i hi
  obtain ⟨x, hxe⟩ : ∃ x, x = ns[k].kids[i] := ⟨_, rfl⟩
  rw [← hxe] at hb5 ⊢
  have C := fun w => hide (l01In_gen x 0 ((k : Int) - 1) w)
  have hi0 : (0 : Int) ≤ (k : Int) := by omega
  have hi1 : (k : Int) < (ns.length : Int) := by omega
  have hj0 : (0 : Int) ≤ (i : Int) := by omega
  have hj1 : (i : Int) < (ns[k].kids.length : Int) := by omega
  obtain ⟨n, hn⟩ : ∃ n, n = ns.length := ⟨_, rfl⟩
  obtain ⟨m, hmm⟩ : ∃ m, m = ns[k].kids.length := ⟨_, rfl⟩
  cases hin : inZ 0 ((k : Int) - 1) x with
  | true =>
    obtain ⟨hx0, hx1⟩ := inZ_yes.1 hin
    obtain ⟨y, hy⟩ : ∃ y : Nat, x = (y : Int) := ⟨x.toNat, by omega⟩
    have hyn : y < ns.length := by omega
    obtain ⟨a2, kv2, e2, ha2, hx2⟩ := hc y hyn
    have e3 : a2 = a := (Option.some.inj e2).symm
    subst e3
    obtain ⟨p2, hpa2⟩ : ∃ p2, a2.add (y * 6) = p2 := ⟨_, rfl⟩
    rw [hpa2] at hx2
    have d0 := hx2.c0
    have hkk : kidKind ns k x = ns[y].kind := by
      rw [kidKind, hin, if_pos rfl, hy]
      simp [List.getD_eq_getElem?_getD, List.getElem?_eq_getElem hyn]
    rw [hkk]
    rw [hin] at C
    subst hy
    have hy0 : (0 : Int) ≤ (y : Int) := by omega
    have hy1 : (y : Int) < (ns.length : Int) := by omega
    have HB := hide hb1
    clear hc hkc hx hx2 hin hkk hN hb1 hxe
    go_enter Try.func44, Try.ntmps44
    go_wp2_with (go_at_call 15; refine (unhide (C _)).mono ?_; rintro e w1 ⟨rfl, rfl⟩)
    go_ret
    exact ⟨rfl, HB.out⟩
  | false =>
    have hkk : kidKind ns k x = 0 := by rw [kidKind, hin]; rfl
    rw [hkk]
    rw [hin] at C
    have HB := hide hb1
    clear hc hkc hx hin hkk hN hb1 hxe
    go_enter Try.func44, Try.ntmps44
    go_wp2_with (go_at_call 15; refine (unhide (C _)).mono ?_; rintro e w1 ⟨rfl, rfl⟩)
    go_ret
    exact ⟨rfl, HB.out⟩
end Go.Proofs.Ythlbboppdmdceaa
