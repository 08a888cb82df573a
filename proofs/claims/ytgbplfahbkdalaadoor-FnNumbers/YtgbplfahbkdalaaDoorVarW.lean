/-
  Walks: the bytes of a number, by the specification and by the program.
-/
import Derived.Test.YtgbplfahbkdalaaDoorRows
import Derived.Test.YtgbplfahbkdalaaDoorAid
import Derived.WalkKit
namespace Go.Proofs.YtgbplfahbkdalaaDoor
open Go.RowKit

theorem Tryd.info5 : (Tryd.prog.info? 5).map (fun i => (i.zero, i.size, i.bytes)) = some (some (.int .u8 0), 1, 1) := by kernel_rfl

/-- What the loop over a number's bytes keeps: the rest of the number, and the bytes that are there. -/
def VarRel (n B : Nat) (w : World) (v i : Value) (wr : World) : Prop :=
  ∃ (m : Nat) (done : List Int), m ≤ n ∧ i = .int .i64 m ∧ done ++ varL m = varL n ∧ wr.ownsRow B 5 1 v done.length (done.map (Value.int .u8)) ∧ Below B w wr

theorem VarRel.step {n B m : Nat} {w wr w1 : World} {v' : Value} {done : List Int} (hm : m ≤ n) (hbig : 127 < m) (hd : done ++ varL m = varL n) (hb : Below B w wr)
    (hown : w1.ownsRow B 5 1 v' (done.length + 1) (done.map (Value.int .u8) ++ [.int .u8 ((m : Int) % 128 + 128)])) (hb1 : Below B wr w1) :
    VarRel n B w v' (.int .i64 ((m : Int) / 128)) w1 := by
  refine ⟨m / 128, done ++ [((m % 128 + 128 : Nat) : Int)], by omega, by simp, ?_, ?_, hb.trans hb1⟩
  · rw [← hd, varL_big hbig]; simp
  · simpa using hown

theorem VarRel.last {n B m : Nat} {w1 : World} {v' : Value} {done : List Int} (hs : ¬ 127 < m) (hd : done ++ varL m = varL n)
    (hown : w1.ownsRow B 5 1 v' (done.length + 1) (done.map (Value.int .u8) ++ [.int .u8 (m : Int)])) :
    (convert 22 9 v').run Tryd.prog w1 = .ok (.string (strOfNums (varL n))) w1 := by
  have e : done ++ [(m : Int)] = varL n := by rw [← hd, varL_small (by omega)]
  rw [← e]
  exact conv_own (n := done.length + 1) 22 9 5 Tryd.underlying22 Tryd.underlying5 Tryd.underlying9 (by simpa using hown)

theorem VarRel.short {n m : Nat} {done : List Int} (hn : n ≤ 1000000000) (hd : done ++ varL m = varL n) : done.length + 1 ≤ 6 := by
  have h1 := varL_len 4 n (by omega)
  have h2 := varL_pos m
  have h3 := congrArg List.length hd
  rw [List.length_append] at h3
  omega

set_option maxHeartbeats 400000 in
theorem implVarText_yes (n : Nat) (w : World) (hn : n ≤ 1000000000) :
    Calls Tryd.prog 6 #[.int .i64 n] w fun e w' => e = .returned (.tuple #[.string (strOfNums (varL n)), .bool true]) ∧ Below w.heap.size w w' := by
  go_enter Tryd.func6, Tryd.ntmps6
  go_wp2
  go_loopw [4, 0] (fun v i wr => VarRel n w.heap.size w v i wr) (fun _ i _ => (intOf i).toNat)
  case atStart => exact ⟨n, [], Nat.le_refl _, rfl, rfl, ownsRow_empty _ _ _ (Nat.le_refl _), (Below.refl _ _).alloc (Nat.le_refl _) _⟩
  case round =>
    obtain ⟨m, done, hm, rfl, hd, hown, hb⟩ := hrel
    have hsz := hb.size
    have hl := VarRel.short hn hd
    have HD : Hid (done ++ varL m = varL n) := hd
    clear hd
    by_cases hbig : 127 < m
    · go_wp2_with (at_builtin; refine wpList_app1 rfl (.tmp 14) (.tmp 19) 22 rfl w.heap.size 5 (.int .u8 0) 1 Tryd.underlying22 Tryd.info5 rfl _ done.length _ _ rfl hown rfl rfl (by unfold maxLen; omega) (by omega) (by omega) ?_)
      intro v' w1 hown' hb1
      have R := VarRel.step hm hbig HD.out hb hown' hb1
      clear hown hown' hb hb1
      go_wp2
      go_roundw
      case rel => exact R
      case measure => simp [intOf]; omega
    · go_wp2_with (at_builtin; refine wpList_app1 rfl (.tmp 23) (.tmp 26) 22 rfl w.heap.size 5 (.int .u8 0) 1 Tryd.underlying22 Tryd.info5 rfl _ done.length _ _ rfl hown rfl rfl (by unfold maxLen; omega) (by omega) (by omega) ?_)
      intro v' w1 hown' hb1
      have hc := VarRel.last hbig HD.out hown'
      clear hown hown' 
      go_wp2
      go_ret2
      exact ⟨rfl, hb.trans hb1⟩

theorem implVarText_no (n : Int) (w : World) (h : n < 0 ∨ 1000000000 < n) :
    Calls Tryd.prog 6 #[.int .i64 n] w fun e w' => e = .returned (.tuple #[.string ⟨#[]⟩, .bool false]) ∧ Below w.heap.size w w' := by
  rcases h with h | h
  · go_enter Tryd.func6, Tryd.ntmps6
    go_wp2
    go_ret2
    exact ⟨rfl, Below.refl _ _⟩
  · have h' : ¬ n < 0 := by omega
    go_enter Tryd.func6, Tryd.ntmps6
    go_wp2
    go_ret2
    exact ⟨rfl, Below.refl _ _⟩

end Go.Proofs.YtgbplfahbkdalaaDoor
