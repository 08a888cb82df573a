/-
  Walks: the bytes of a number, by the specification and by the program.
-/
import Derived.Test.YtmenkckdabfkcaaRows
import Derived.Test.YtmenkckdabfkcaaAid
import Derived.WalkKit
namespace Go.Proofs.Ytmenkckdabfkcaa
open Go.RowKit

theorem Try.info5 : (Try.prog.info? 5).map (fun i => (i.zero, i.size, i.bytes)) = some (some (.int .u8 0), 1, 1) := by kernel_rfl

/-- What the loop over a number's bytes keeps: the rest of the number, and the bytes that are there. -/
def VarRel (n B : Nat) (w : World) (v i : Value) (wr : World) : Prop :=
  ∃ (m : Nat) (done : List Int), m ≤ n ∧ i = .int .i64 m ∧ done ++ varL m = varL n ∧ wr.ownsRow B 5 1 v done.length (done.map (Value.int .u8)) ∧ Below B w wr

theorem VarRel.step {n B m : Nat} {w wr w1 : World} {v' : Value} {done : List Int} (hm : m ≤ n) (hbig : 127 < m) (hd : done ++ varL m = varL n) (hb : Below B w wr)
    (hown : w1.ownsRow B 5 1 v' (done.length + 1) (done.map (Value.int .u8) ++ [.int .u8 ((m : Int) % 128 + 128)])) (hb1 : Below B wr w1) :
    VarRel n B w v' (.int .i64 ((m : Int) / 128)) w1 := by
  refine ⟨m / 128, done ++ [((m % 128 + 128 : Nat) : Int)], by omega, by simp, ?_, ?_, hb.trans hb1⟩
  · rw [← hd, varL_big hbig]; simp
  · simpa using hown

theorem VarRel.last {n B m : Nat} {w1 : World} {v' : Value} {done : List Int} (hs : ¬ 127 < m) (hd : done ++ varL m = varL n)
    (hown : w1.ownsRow B 5 1 v' (done.length + 1) (done.map (Value.int .u8) ++ [.int .u8 (m : Int)])) :
    (convert 36 9 v').run Try.prog w1 = .ok (.string (strOfNums (varL n))) w1 := by
  have e : done ++ [(m : Int)] = varL n := by rw [← hd, varL_small (by omega)]
  rw [← e]
  exact conv_own (n := done.length + 1) 36 9 5 Try.underlying36 Try.underlying5 Try.underlying9 (by simpa using hown)

theorem VarRel.short {n m : Nat} {done : List Int} (hn : n ≤ 1000000000) (hd : done ++ varL m = varL n) : done.length + 1 ≤ 6 := by
  have h1 := varL_len 4 n (by omega)
  have h2 := varL_pos m
  have h3 := congrArg List.length hd
  rw [List.length_append] at h3
  omega

set_option maxHeartbeats 400000 in
theorem l01Var_any (n : Nat) (w : World) (hn : n ≤ 1000000000) :
    Calls Try.prog 25 #[.int .i64 n] w fun e w' => e = .returned (.string (strOfNums (varL n))) ∧ Below w.heap.size w w' := by
  go_enter Try.func25, Try.ntmps25
  go_wp2
  go_loopw [3, 0] (fun v i wr => VarRel n w.heap.size w v i wr) (fun _ i _ => (intOf i).toNat)
  case atStart => exact ⟨n, [], Nat.le_refl _, rfl, rfl, ownsRow_empty _ _ _ (Nat.le_refl _), (Below.refl _ _).alloc (Nat.le_refl _) _⟩
  case round =>
    obtain ⟨m, done, hm, rfl, hd, hown, hb⟩ := hrel
    have hsz := hb.size
    have hl := VarRel.short hn hd
    have HD : Hid (done ++ varL m = varL n) := hd
    clear hd
    by_cases hbig : 127 < m
    · go_wp2_with (at_builtin; refine wpList_app1 rfl (.tmp 7) (.tmp 12) 36 rfl w.heap.size 5 (.int .u8 0) 1 Try.underlying36 Try.info5 rfl _ done.length _ _ rfl hown rfl rfl (by unfold maxLen; omega) (by omega) (by omega) ?_)
      intro v' w1 hown' hb1
      have R := VarRel.step hm hbig HD.out hb hown' hb1
      clear hown hown' hb hb1
      go_wp2
      go_roundw
      case rel => exact R
      case measure => simp [intOf]; omega
    · go_wp2_with (at_builtin; refine wpList_app1 rfl (.tmp 16) (.tmp 19) 36 rfl w.heap.size 5 (.int .u8 0) 1 Try.underlying36 Try.info5 rfl _ done.length _ _ rfl hown rfl rfl (by unfold maxLen; omega) (by omega) (by omega) ?_)
      intro v' w1 hown' hb1
      have hc := VarRel.last hbig HD.out hown'
      clear hown hown' 
      go_wp2
      go_ret
      exact ⟨rfl, hb.trans hb1⟩

set_option maxHeartbeats 400000 in
theorem implVarText_yes (n : Nat) (w : World) (hn : n ≤ 1000000000) :
    Calls Try.prog 11 #[.int .i64 n] w fun e w' => e = .returned (.tuple #[.string (strOfNums (varL n)), .bool true]) ∧ Below w.heap.size w w' := by
  go_enter Try.func11, Try.ntmps11
  go_wp2
  go_loopw [4, 0] (fun v i wr => VarRel n w.heap.size w v i wr) (fun _ i _ => (intOf i).toNat)
  case atStart => exact ⟨n, [], Nat.le_refl _, rfl, rfl, ownsRow_empty _ _ _ (Nat.le_refl _), (Below.refl _ _).alloc (Nat.le_refl _) _⟩
  case round =>
    obtain ⟨m, done, hm, rfl, hd, hown, hb⟩ := hrel
    have hsz := hb.size
    have hl := VarRel.short hn hd
    have HD : Hid (done ++ varL m = varL n) := hd
    clear hd
    by_cases hbig : 127 < m
    · go_wp2_with (at_builtin; refine wpList_app1 rfl (.tmp 14) (.tmp 19) 36 rfl w.heap.size 5 (.int .u8 0) 1 Try.underlying36 Try.info5 rfl _ done.length _ _ rfl hown rfl rfl (by unfold maxLen; omega) (by omega) (by omega) ?_)
      intro v' w1 hown' hb1
      have R := VarRel.step hm hbig HD.out hb hown' hb1
      clear hown hown' hb hb1
      go_wp2
      go_roundw
      case rel => exact R
      case measure => simp [intOf]; omega
    · go_wp2_with (at_builtin; refine wpList_app1 rfl (.tmp 23) (.tmp 26) 36 rfl w.heap.size 5 (.int .u8 0) 1 Try.underlying36 Try.info5 rfl _ done.length _ _ rfl hown rfl rfl (by unfold maxLen; omega) (by omega) (by omega) ?_)
      intro v' w1 hown' hb1
      have hc := VarRel.last hbig HD.out hown'
      clear hown hown' 
      go_wp2
      go_ret2
      exact ⟨rfl, hb.trans hb1⟩

theorem implVarText_no (n : Int) (w : World) (h : n < 0 ∨ 1000000000 < n) :
    Calls Try.prog 11 #[.int .i64 n] w fun e w' => e = .returned (.tuple #[.string ⟨#[]⟩, .bool false]) ∧ Below w.heap.size w w' := by
  rcases h with h | h
  · go_enter Try.func11, Try.ntmps11
    go_wp2
    go_ret2
    exact ⟨rfl, Below.refl _ _⟩
  · have h' : ¬ n < 0 := by omega
    go_enter Try.func11, Try.ntmps11
    go_wp2
    go_ret2
    exact ⟨rfl, Below.refl _ _⟩

theorem specVarText_yes (n : Nat) (w : World) (hn : n ≤ 1000000000) :
    Calls Try.prog 10 #[.int .i64 n] w fun e w' => e = .returned (.tuple #[.string (strOfNums (varL n)), .bool true]) ∧ Below w.heap.size w w' := by
  have hd : decide ((n : Int) ≤ 1000000000) = true := by simp; omega
  go_enter Try.func10, Try.ntmps10
  go_wp2_with (first | (go_at_call 25; refine (l01Var_any _ _ hn).mono ?_; rintro e w1 ⟨rfl, hb⟩) | go_in)
  go_ret2
  exact ⟨rfl, by assumption⟩

theorem specVarText_no (n : Int) (w : World) (h : n < 0 ∨ 1000000000 < n) :
    Calls Try.prog 10 #[.int .i64 n] w fun e w' => e = .returned (.tuple #[.string ⟨#[]⟩, .bool false]) ∧ Below w.heap.size w w' := by
  rcases h with h | h
  · go_enter Try.func10, Try.ntmps10
    go_wp2
    go_ret2
    exact ⟨rfl, Below.refl _ _⟩
  · have h' : ¬ n < 0 := by omega
    have hd : decide (n ≤ 1000000000) = false := by simp; omega
    go_enter Try.func10, Try.ntmps10
    go_wp2
    go_ret2
    exact ⟨rfl, Below.refl _ _⟩

theorem lawVarText (n : Int) (_ : (Lit.int .i64 n).wf = true) (w : World) : Calls Try.prog 3 #[.int .i64 n] w fun e w' => e = .returned (.bool true) ∧ Below w.heap.size w w' := by
  by_cases h : n < 0 ∨ 1000000000 < n
  · go_enter Try.func3, Try.ntmps3
    go_wp2_with (first | (go_at_call 10; refine (specVarText_no _ _ h).mono ?_; rintro e w1 ⟨rfl, hb1⟩) | (go_at_call 11; refine (implVarText_no _ _ h).mono ?_; rintro e w2 ⟨rfl, hb2⟩))
    go_ret
    exact ⟨rfl, hb1.trans (hb2.mono hb1.size)⟩
  · obtain ⟨k, rfl⟩ : ∃ k : Nat, n = k := ⟨n.toNat, by omega⟩
    have hk : k ≤ 1000000000 := by omega
    clear h
    go_enter Try.func3, Try.ntmps3
    go_wp2_with (first | (go_at_call 10; refine (specVarText_yes _ _ hk).mono ?_; rintro e w1 ⟨rfl, hb1⟩) | (go_at_call 11; refine (implVarText_yes _ _ hk).mono ?_; rintro e w2 ⟨rfl, hb2⟩))
    go_ret
    exact ⟨rfl, hb1.trans (hb2.mono hb1.size)⟩
end Go.Proofs.Ytmenkckdabfkcaa
