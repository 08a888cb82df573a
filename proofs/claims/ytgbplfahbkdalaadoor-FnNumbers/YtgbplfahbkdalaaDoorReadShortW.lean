/-
  Walks: reading a short text.
-/
import Derived.Test.YtgbplfahbkdalaaDoorSpecRV
import Derived.Test.YtgbplfahbkdalaaDoorShelfClone
namespace Go.Proofs.YtgbplfahbkdalaaDoor
open Go.RowKit

/-- What is read: the text, the place behind it, whether there is one. -/
def rsRes (s : ByteArray) (r : Nat × Nat × Bool) : Value :=
  if r.2.2 = true ∧ r.1 ≤ 20000 ∧ r.2.1 + r.1 ≤ s.size then .tuple #[.string (s.extract r.2.1 (r.2.1 + r.1)), .int .i64 (r.2.1 + r.1 : Nat), .bool true]
  else .tuple #[.string ⟨#[]⟩, .int .i64 0, .bool false]

theorem rsRes_yes {s : ByteArray} {x y : Nat} (h1 : x ≤ 20000) (h2 : y + x ≤ s.size) : rsRes s (x, y, true) = .tuple #[.string (s.extract y (y + x)), .int .i64 (y + x : Nat), .bool true] := by
  rw [rsRes, if_pos ⟨rfl, h1, h2⟩]
theorem rsRes_no {s : ByteArray} {r : Nat × Nat × Bool} (h : r.2.2 = false ∨ 20000 < r.1 ∨ s.size < r.2.1 + r.1) : rsRes s r = .tuple #[.string ⟨#[]⟩, .int .i64 0, .bool false] := by
  rw [rsRes, if_neg]
  rintro ⟨h1, h2, h3⟩
  rcases h with h | h | h
  · rw [h1] at h; cases h
  · omega
  · omega

/-- What is read lies within the text, and is no greater than a number may be. -/
theorem rvGo_in : ∀ (k : Nat) (bs : List UInt8) (first : Bool) (unit n i : Nat), (rvGo bs first unit n i k).1 ≤ 1000000000 ∧ (rvGo bs first unit n i k).2.1 ≤ i + bs.length
  | 0, bs, first, unit, n, i => by rw [rvGo]; simp
  | k + 1, [], first, unit, n, i => by rw [rvGo]; simp
  | k + 1, b :: bs, first, unit, n, i => by
    rw [rvGo]
    split
    · have := rvGo_in k bs false (unit * 128) (n + b.toNat % 128 * unit) (i + 1)
      simp; omega
    · split
      · simp
      · simp; omega

theorem slice_run {P : Program} {t : TypeId} (ht : P.underlying t = some .string) (s : ByteArray) (y x : Nat) (h : y + x ≤ s.size) (w : World) :
    (Instr.slice t (.string s) (some (.int .i64 (y : Int))) (some (.int .i64 ((y : Int) + (x : Int)))) none).run P w = .ok (.string (s.extract y (y + x))) w := by
  rw [run_slice_string (P := P) (w := w) t s .i64 .i64 y ((y : Int) + (x : Int)) ht (by omega) (by omega) (by omega)]
  congr 2

theorem clone_any (s : ByteArray) (w : World) (h : s.size ≤ 1048576) : Calls Tryd.prog 23 #[.string s] w fun e w' => e = .returned (.string s) ∧ Below w.heap.size w w' := by
  go_enter Tryd.func23, Tryd.ntmps23
  go_wp2_with (go_at_call 27; refine (Tryd.stringslite_Clone _ _ (by omega)).mono ?_; rintro e w1 ⟨rfl, hb⟩)
  go_ret
  exact ⟨rfl, by assumption⟩

set_option maxHeartbeats 400000 in
/-- Both functions, whatever ReadVar answers: a number 'x', a place 'y', 'c'. -/
theorem implReadShort_of (s : ByteArray) (a : Int) (x y : Nat) (c : Bool) (w : World) (hs : s.size ≤ 1048576) (hx : x ≤ 1000000000) (hy : y ≤ s.size)
    (I : ∀ w, Hid (Calls Tryd.prog 7 #[.string s, .int .i64 a] w fun e w' => e = .returned (.tuple #[.int .i64 x, .int .i64 y, .bool c]) ∧ Below w.heap.size w w')) :
    Calls Tryd.prog 12 #[.string s, .int .i64 a] w fun e w' => e = .returned (rsRes s (x, y, c)) ∧ Below w.heap.size w w' := by
  cases c with
  | false =>
    rw [rsRes_no (.inl rfl)]
    go_enter Tryd.func12, Tryd.ntmps12
    go_wp2_with (go_at_call 7; refine (unhide (I _)).mono ?_; rintro e w1 ⟨rfl, hb⟩)
    go_ret3
    exact ⟨rfl, by assumption⟩
  | true =>
    by_cases h1 : x ≤ 20000
    · by_cases h2 : y + x ≤ s.size
      · rw [rsRes_yes h1 h2]
        have hsl := slice_run (P := Tryd.prog) Tryd.underlying9 s y x h2
        have hez : (s.extract y (y + x)).size ≤ 1048576 := by rw [ByteArray.size_extract]; omega
        obtain ⟨z, hz⟩ : ∃ z, z = s.extract y (y + x) := ⟨_, rfl⟩
        rw [← hz] at hsl hez ⊢
        clear hz
        have h3 : ¬ (s.size : Int) - (y : Int) < (x : Int) := by omega
        go_enter Tryd.func12, Tryd.ntmps12
        go_wp2_with (first | (go_at_call 7; refine (unhide (I _)).mono ?_; rintro e w1 ⟨rfl, hb⟩) | (go_at_call 23; refine (clone_any _ _ hez).mono ?_; rintro e w2 ⟨rfl, hb2⟩))
        go_ret3
        exact ⟨rfl, hb.trans (hb2.mono hb.size)⟩
      · rw [rsRes_no (.inr (.inr (by simpa using h2)))]
        go_enter Tryd.func12, Tryd.ntmps12
        go_wp2_with (go_at_call 7; refine (unhide (I _)).mono ?_; rintro e w1 ⟨rfl, hb⟩)
        go_ret3
        exact ⟨rfl, by assumption⟩
    · rw [rsRes_no (.inr (.inl (by simpa using h1)))]
      go_enter Tryd.func12, Tryd.ntmps12
      go_wp2_with (go_at_call 7; refine (unhide (I _)).mono ?_; rintro e w1 ⟨rfl, hb⟩)
      go_ret3
      exact ⟨rfl, by assumption⟩

theorem rsRes_shape (s : ByteArray) (r : Nat × Nat × Bool) : ∃ (t : ByteArray) (n : Nat) (c : Bool), rsRes s r = .tuple #[.string t, .int .i64 n, .bool c] := by
  unfold rsRes
  split
  · exact ⟨_, _, _, rfl⟩
  · exact ⟨_, 0, _, rfl⟩

end Go.Proofs.YtgbplfahbkdalaaDoor
