/-
  Walks: the twelve drawn numbers.
-/
import Derived.Test.YtbfccaeobeepdaaCurN
namespace Go.Proofs.Ytbfccaeobeepdaa
open Go.RowKit

/-- What the loop over drawn numbers keeps. -/
def PlacesRel (w : World) (base : Nat) (v i : Value) (wr : World) : Prop :=
  ∃ (k : Nat) (xs : List Nat), k ≤ 12 ∧ i = .int .i64 k ∧ xs.length = k ∧ (∀ x ∈ xs, x < 10000) ∧ wr.ownsRow (w.heap.size + 1) 3 1 v k (xs.map fun (x : Nat) => Value.int .i64 (x : Int)) ∧ Below w.heap.size w wr ∧ Cur wr base w.heap.size

set_option maxHeartbeats 400000 in
theorem places_any (w : World) (base : Nat) (v : Value) (n : Nat) (hn : n ≤ 1048576) (H : CodeAt w base v n) (hb : base ≤ w.heap.size) :
    Calls Try.prog 21 #[v] w fun e w' => ∃ (pv : Value) (xs : List Nat), e = .returned pv ∧ xs.length = 12 ∧ (∀ x ∈ xs, x < 10000) ∧ w'.ownsRow (w.heap.size + 1) 3 1 pv 12 (xs.map fun (x : Nat) => Value.int .i64 (x : Int)) ∧ Below w.heap.size w w' := by
  have HH := hide H
  have NW := hide (new_any w base v n hn H hb)
  clear H
  go_enter Try.func21, Try.ntmps21
  go_wp2_with (first | (go_at_call 22; refine (NW.out).mono ?_; rintro e w1 ⟨rfl, hb1, hc1⟩) | (go_at_call 31; refine (byte_any _ base _ hc1).mono ?_; rintro e w2 ⟨x2, hx2, rfl, hf2, hc2⟩))
  have HB2 : Hid (Below w.heap.size w w2) := hb1.trans (hf2.below (Nat.le_refl _) hb1.size)
  have HC2 := hide hc2
  have hsz2 : w.heap.size + 1 ≤ w2.heap.size := hc2.lt
  clear hb1 hf2 hc1 hc2 NW
  go_loopw [4, 5] (fun v i wr => PlacesRel w base v i wr) (fun _ i _ => 12 - (intOf i).toNat)
  case atStart => exact ⟨0, [], Nat.zero_le _, rfl, rfl, fun x hx => by simp at hx, ownsRow_empty _ _ _ hsz2, HB2.out.trans ((Below.refl _ _).alloc HB2.out.size _), HC2.out.below ((Below.refl _ _).alloc hsz2 _)⟩
  case round =>
    obtain ⟨k, xs, hk, rfl, hxl, hxs, hown, hbel, hc⟩ := hrel
    have hsz := hbel.size
    have hgl := hc.lt
    by_cases hlt : k < 12
    · have HO := hide hown
      have HB := hide hbel
      have HX := hide hxs
      clear hown hbel hxs
      go_wp2_with (first | (go_at_call 32; refine (below_any _ base _ 10000 (by omega) hc).mono ?_; rintro e w3 ⟨x, hx, rfl, hf3, hc3⟩; have hown3 := ownsRow_far HO.out hf3 (Nat.lt_succ_self _); have hsz3 := hf3.size) | (at_builtin; refine wpList_app1 rfl (.tmp 15) (.tmp 18) 32 rfl (w.heap.size + 1) 3 (.int .i64 0) 8 Try.underlying32 Try.infoI rfl _ k _ _ rfl hown3 rfl rfl (by unfold maxLen; omega) (by omega) (by omega) ?_))
      intro v' w4 hown4 hb4
      have R : PlacesRel w base v' (.int .i64 ((k : Int) + 1)) w4 := ⟨k + 1, xs ++ [x], hlt, rfl, by simp [hxl], fun y hy => by
        rcases List.mem_append.1 hy with hy | hy
        · exact HX.out y hy
        · simp at hy; omega, by simpa using hown4, (HB.out.trans (hf3.below (Nat.le_refl _) hsz)).trans (hb4.mono (Nat.le_succ _)), hc3.below hb4⟩
      clear hown3 hown4 hb4 hf3
      go_wp2
      go_roundw
      case rel => exact R
      case measure => simp [intOf]; omega
    · obtain rfl : k = 12 := by omega
      have HO := hide hown
      clear hown
      go_wp2
      go_ret
      exact ⟨_, xs, rfl, hxl, hxs, HO.out, hbel⟩
end Go.Proofs.Ytbfccaeobeepdaa
