/-
  Walk: the law of numbers and texts that come back.
-/
import Derived.Test.YtgbplfahbkdalaaDoorNumP
import Derived.Test.YtgbplfahbkdalaaDoorNumW
import Derived.Test.YtgbplfahbkdalaaDoorBigW
import Derived.Test.YtgbplfahbkdalaaDoorShortW
import Derived.Test.YtgbplfahbkdalaaDoorHexI
import Derived.Test.YtgbplfahbkdalaaDoorDecI
namespace Go.Proofs.YtgbplfahbkdalaaDoor
open Go.RowKit

theorem rv_one (n : Nat) (hn : n ≤ 1000000000) (w : World) : Calls Tryd.prog 7 #[.string (⟨#[120]⟩ ++ strOfNums (varL n) ++ ⟨#[121]⟩), .int .i64 1] w fun e w' => e = .returned (.tuple #[.int .i64 (n : Int), .int .i64 (((strOfNums (varL n)).size : Int) + 1), .bool true]) ∧ w = w' := by
  have hl := varL_len 4 n (by omega)
  have hz : (strOfNums (varL n)).size ≤ 5 := by rw [strOfNums_size]; exact hl
  have hz2 : ((⟨#[120]⟩ : ByteArray) ++ strOfNums (varL n) ++ ⟨#[121]⟩).size = 1 + (strOfNums (varL n)).size + 1 := by rw [ByteArray.size_append, ByteArray.size_append]; rfl
  refine (implReadVar_in _ 1 w (by omega) (by omega)).mono ?_
  rintro e w' ⟨rfl, rfl⟩
  refine ⟨?_, rfl⟩
  have h := rv_front n hn ⟨#[120]⟩ ⟨#[121]⟩
  rw [show (⟨#[120]⟩ : ByteArray).size = 1 from rfl] at h
  exact (rv_ret h rfl (by rw [strOfNums_size]; omega)).symm
theorem rs_one (t : ByteArray) (ht : t.size ≤ 20000) (w : World) : Calls Tryd.prog 12 #[.string (strOfNums (varL t.size) ++ t), .int .i64 0] w fun e w' => e = .returned (.tuple #[.string t, .int .i64 ((strOfNums (varL t.size) ++ t).size : Int), .bool true]) ∧ Below w.heap.size w w' := by
  have hl := varL_len 4 t.size (by omega)
  have hz : (strOfNums (varL t.size)).size = (varL t.size).length := by rw [strOfNums_size]
  have hz2 : (strOfNums (varL t.size) ++ t).size = (varL t.size).length + t.size := by rw [ByteArray.size_append, hz]
  have h := rv_front t.size (by omega) ⟨#[]⟩ t
  have e0 : (⟨#[]⟩ : ByteArray) ++ strOfNums (varL t.size) = strOfNums (varL t.size) := ByteArray.empty_append
  rw [show (⟨#[]⟩ : ByteArray).size = 0 from rfl, e0] at h
  have I : ∀ w, Hid (Calls Tryd.prog 7 #[.string (strOfNums (varL t.size) ++ t), .int .i64 0] w fun e w' => e = .returned (.tuple #[.int .i64 (t.size : Int), .int .i64 ((varL t.size).length : Int), .bool true]) ∧ Below w.heap.size w w') := fun w => by
    refine (implReadVar_in _ 0 w (by omega) (by omega)).mono ?_
    rintro e w' ⟨rfl, rfl⟩
    refine ⟨?_, Below.refl _ _⟩
    exact (rv_ret h rfl (by omega)).symm
  refine (implReadShort_of _ 0 t.size (varL t.size).length true w (by omega) (by omega) (by omega) I).mono ?_
  rintro e w' ⟨rfl, hb⟩
  refine ⟨?_, hb⟩
  have hx := extract_back (strOfNums (varL t.size)) t
  rw [hz] at hx
  rw [rsRes_yes ht (by omega), hx, hz2]
theorem un_one (t : ByteArray) (ht : t.size ≤ 20000) (w : World) : Calls Tryd.prog 14 #[.string (strOfNums (hexL t.data.toList))] w fun e w' => e = .returned (.tuple #[.string t, .bool true]) ∧ Below w.heap.size w w' := by
  have hz : (strOfNums (hexL t.data.toList)).size = 2 * t.size := by rw [strOfNums_size, hexL_len, Array.length_toList]; rfl
  exact (implUnhex_yes _ w (by omega) (by omega)).mono fun e w' h => un_back t h
theorem rd_one (n : Nat) (hn : n ≤ 1000000000) (w : World) : Calls Tryd.prog 8 #[.string (strOfNums (decI (n : Int)))] w fun e w' => e = .returned (.tuple #[.int .i64 (n : Int), .bool true]) ∧ Below w.heap.size w w' := by
  have hz := decI_size n hn
  exact (implReadDecimal_yes _ w hz.1 hz.2).mono fun e w' h => rd_back n hn h

/-- A text is written and comes back, both ways. -/
theorem text_back (t : ByteArray) (ht : t.size ≤ 300) : ∃ A B : ByteArray, A.size ≤ 400 ∧ B.size ≤ 700 ∧
    (∀ w, Hid (Calls Tryd.prog 11 #[.string t] w fun e w' => e = .returned (.tuple #[.string A, .bool true]) ∧ Below w.heap.size w w')) ∧
    (∀ w, Hid (Calls Tryd.prog 12 #[.string A, .int .i64 0] w fun e w' => e = .returned (.tuple #[.string t, .int .i64 (A.size : Int), .bool true]) ∧ Below w.heap.size w w')) ∧
    (∀ w, Hid (Calls Tryd.prog 13 #[.string t] w fun e w' => e = .returned (.tuple #[.string B, .bool true]) ∧ Below w.heap.size w w')) ∧
    (∀ w, Hid (Calls Tryd.prog 14 #[.string B] w fun e w' => e = .returned (.tuple #[.string t, .bool true]) ∧ Below w.heap.size w w')) := by
  have hl := varL_len 4 t.size (by omega)
  refine ⟨strOfNums (varL t.size) ++ t, strOfNums (hexL t.data.toList), ?_, ?_, fun w => implShortText_yes t w (by omega), fun w => rs_one t (by omega) w, fun w => implHex_yes t w (by omega), fun w => un_one t (by omega) w⟩
  · rw [ByteArray.size_append, strOfNums_size]; omega
  · have hz : (strOfNums (hexL t.data.toList)).size = 2 * t.size := by rw [strOfNums_size, hexL_len, Array.length_toList]; rfl
    omega
/-- A number is written and comes back, both ways. -/
theorem num_back (N : Nat) (hN : N ≤ 1000000000) : ∃ s d : ByteArray, s.size ≤ 5 ∧ d.size ≤ 10 ∧
    (∀ w, Hid (Calls Tryd.prog 6 #[.int .i64 (N : Int)] w fun e w' => e = .returned (.tuple #[.string s, .bool true]) ∧ Below w.heap.size w w')) ∧
    (∀ w, Hid (Calls Tryd.prog 7 #[.string (⟨#[120]⟩ ++ s ++ ⟨#[121]⟩), .int .i64 1] w fun e w' => e = .returned (.tuple #[.int .i64 (N : Int), .int .i64 ((s.size : Int) + 1), .bool true]) ∧ w = w')) ∧
    (∀ w, Lib.TabIs Tryd.prog w "internal/strconv.uint64pow10" .u64 Lib.pow10Tab → Hid (Calls Tryd.prog 9 #[.int .i64 (N : Int)] w fun e w' => e = .returned (.string d) ∧ Below w.heap.size w w')) ∧
    (∀ w, Hid (Calls Tryd.prog 8 #[.string d] w fun e w' => e = .returned (.tuple #[.int .i64 (N : Int), .bool true]) ∧ Below w.heap.size w w')) := by
  refine ⟨strOfNums (varL N), strOfNums (decI (N : Int)), ?_, (decI_size N hN).2, fun w => implVarText_yes N w hN, fun w => rv_one N hN w, fun w h => implDecimal_any (N : Int) w (by omega) (by omega) h, fun w => rd_one N hN w⟩
  rw [strOfNums_size]; exact varL_len 4 N (by omega)

set_option maxHeartbeats 4000000 in
theorem lawNumbers (w : World) (v : Value) (n : Nat) (H : CodeAt w w.heap.size v n) (htab : Lib.TabIs Tryd.prog w "internal/strconv.uint64pow10" .u64 Lib.pow10Tab) :
    Calls Tryd.prog 3 #[v] w fun e w' => e = .returned (.bool true) ∧ Below w.heap.size w w' := by
  obtain ⟨a, c, rfl⟩ := H.slice
  have BG := fun w => hide (big_any w a n c)
  by_cases hn : 1048576 < n
  · rw [decide_eq_true hn] at BG
    go_enter Tryd.func3, Tryd.ntmps3
    go_wp2_with (go_at_call 4; refine (unhide (BG _)).mono ?_; rintro e w1 ⟨rfl, rfl⟩)
    go_ret
    exact ⟨rfl, Below.refl _ _⟩
  · rw [decide_eq_false hn] at BG
    have HT := hide htab
    have DV := hide (drawVarText w w.heap.size _ n (by omega) H (Nat.le_refl _))
    have DH := fun w' (hb : Below w.heap.size w w') => hide (drawHex w' w.heap.size _ n (by omega) (H.below hb) hb.size)
    have DT := fun w' (hb : Below w.heap.size w w') => hide (Joins.tab_stays gPow HT.out hb (Nat.le_refl _))
    clear H hn htab HT
    go_enter Tryd.func3, Tryd.ntmps3
    go_wp2_with (first | (go_at_call 4; refine (unhide (BG _)).mono ?_; rintro e w1 ⟨rfl, rfl⟩) | (go_at_call 5; refine (unhide DV).mono ?_; rintro e w1 ⟨x, rfl, hb1⟩; obtain h | h | ⟨N, hN, rfl⟩ : x < 0 ∨ (¬ x < 0 ∧ 1000000000 < x) ∨ ∃ N : Nat, N ≤ 1000000000 ∧ x = (N : Int) := (by by_cases h1 : x < 0; exact .inl h1; by_cases h2 : 1000000000 < x; exact .inr (.inl ⟨h1, h2⟩); exact .inr (.inr ⟨x.toNat, by omega, by omega⟩))))
    all_goals clear BG DV
    · obtain ⟨s, d, hs, hd, V, R, D, K⟩ := num_back 12345 (by omega)
      have b1 : decide (x < 0) = true := decide_eq_true h
      clear h
      go_wp2_with (first | (go_at_call 6; refine (unhide (V _)).mono ?_; rintro e w2 ⟨rfl, hb2⟩; have HB2 := hide (hb1.trans (hb2.mono hb1.size))) | (go_at_call 7; refine (unhide (R _)).mono ?_; rintro e w3 ⟨rfl, rfl⟩) | (go_at_call 9; refine (unhide (D _ (DT _ HB2.out).out)).mono ?_; rintro e w4 ⟨rfl, hb4⟩; have HB4 := hide (HB2.out.trans (hb4.mono HB2.out.size))) | (go_at_call 8; refine (unhide (K _)).mono ?_; rintro e w5 ⟨rfl, hb5⟩; have HB5 := hide (HB4.out.trans (hb5.mono HB4.out.size))) | (go_at_call 10; refine (unhide (DH _ HB5.out)).mono ?_; rintro e w6 ⟨t, ht, rfl, hb6⟩; have HB6 := hide (HB5.out.trans (hb6.mono HB5.out.size)); clear V R D K DH DT hb1 hb2 hb4 hb5 hb6 HB2 HB4 HB5))
      all_goals by_cases h3 : t.size ≤ 300
      all_goals (try (exfalso; omega))
      all_goals (first | (have TB := text_back t h3; clear h3) | (have TB := text_back ⟨#[97, 98, 99]⟩ (by decide); clear h3))
      all_goals obtain ⟨A, B, hA, hB, ST, RS, HX, UN⟩ := TB
      all_goals go_wp2_with (first | (go_at_call 11; refine (unhide (ST _)).mono ?_; rintro e w7 ⟨rfl, hb7⟩; have HB7 := hide (HB6.out.trans (hb7.mono HB6.out.size))) | (go_at_call 12; refine (unhide (RS _)).mono ?_; rintro e w8 ⟨rfl, hb8⟩; have HB8 := hide (HB7.out.trans (hb8.mono HB7.out.size))) | (go_at_call 13; refine (unhide (HX _)).mono ?_; rintro e w9 ⟨rfl, hb9⟩; have HB9 := hide (HB8.out.trans (hb9.mono HB8.out.size))) | (go_at_call 14; refine (unhide (UN _)).mono ?_; rintro e wa ⟨rfl, hba⟩; have HBa := hide (HB9.out.trans (hba.mono HB9.out.size))))
      all_goals go_ret
      all_goals exact ⟨rfl, HBa.out⟩
    · obtain ⟨s, d, hs, hd, V, R, D, K⟩ := num_back 12345 (by omega)
      have b1 : decide (x < 0) = false := decide_eq_false (by omega)
      have b2 : decide ((1000000000 : Int) < x) = true := decide_eq_true h.2
      clear h
      go_wp2_with (first | (go_at_call 6; refine (unhide (V _)).mono ?_; rintro e w2 ⟨rfl, hb2⟩; have HB2 := hide (hb1.trans (hb2.mono hb1.size))) | (go_at_call 7; refine (unhide (R _)).mono ?_; rintro e w3 ⟨rfl, rfl⟩) | (go_at_call 9; refine (unhide (D _ (DT _ HB2.out).out)).mono ?_; rintro e w4 ⟨rfl, hb4⟩; have HB4 := hide (HB2.out.trans (hb4.mono HB2.out.size))) | (go_at_call 8; refine (unhide (K _)).mono ?_; rintro e w5 ⟨rfl, hb5⟩; have HB5 := hide (HB4.out.trans (hb5.mono HB4.out.size))) | (go_at_call 10; refine (unhide (DH _ HB5.out)).mono ?_; rintro e w6 ⟨t, ht, rfl, hb6⟩; have HB6 := hide (HB5.out.trans (hb6.mono HB5.out.size)); clear V R D K DH DT hb1 hb2 hb4 hb5 hb6 HB2 HB4 HB5))
      all_goals by_cases h3 : t.size ≤ 300
      all_goals (try (exfalso; omega))
      all_goals (first | (have TB := text_back t h3; clear h3) | (have TB := text_back ⟨#[97, 98, 99]⟩ (by decide); clear h3))
      all_goals obtain ⟨A, B, hA, hB, ST, RS, HX, UN⟩ := TB
      all_goals go_wp2_with (first | (go_at_call 11; refine (unhide (ST _)).mono ?_; rintro e w7 ⟨rfl, hb7⟩; have HB7 := hide (HB6.out.trans (hb7.mono HB6.out.size))) | (go_at_call 12; refine (unhide (RS _)).mono ?_; rintro e w8 ⟨rfl, hb8⟩; have HB8 := hide (HB7.out.trans (hb8.mono HB7.out.size))) | (go_at_call 13; refine (unhide (HX _)).mono ?_; rintro e w9 ⟨rfl, hb9⟩; have HB9 := hide (HB8.out.trans (hb9.mono HB8.out.size))) | (go_at_call 14; refine (unhide (UN _)).mono ?_; rintro e wa ⟨rfl, hba⟩; have HBa := hide (HB9.out.trans (hba.mono HB9.out.size))))
      all_goals go_ret
      all_goals exact ⟨rfl, HBa.out⟩
    · obtain ⟨s, d, hs, hd, V, R, D, K⟩ := num_back N hN
      have b1 : decide ((N : Int) < 0) = false := by simp
      have b2 : decide ((1000000000 : Int) < (N : Int)) = false := by rw [decide_eq_false_iff_not]; omega
      clear hN
      go_wp2_with (first | (go_at_call 6; refine (unhide (V _)).mono ?_; rintro e w2 ⟨rfl, hb2⟩; have HB2 := hide (hb1.trans (hb2.mono hb1.size))) | (go_at_call 7; refine (unhide (R _)).mono ?_; rintro e w3 ⟨rfl, rfl⟩) | (go_at_call 9; refine (unhide (D _ (DT _ HB2.out).out)).mono ?_; rintro e w4 ⟨rfl, hb4⟩; have HB4 := hide (HB2.out.trans (hb4.mono HB2.out.size))) | (go_at_call 8; refine (unhide (K _)).mono ?_; rintro e w5 ⟨rfl, hb5⟩; have HB5 := hide (HB4.out.trans (hb5.mono HB4.out.size))) | (go_at_call 10; refine (unhide (DH _ HB5.out)).mono ?_; rintro e w6 ⟨t, ht, rfl, hb6⟩; have HB6 := hide (HB5.out.trans (hb6.mono HB5.out.size)); clear V R D K DH DT hb1 hb2 hb4 hb5 hb6 HB2 HB4 HB5))
      all_goals by_cases h3 : t.size ≤ 300
      all_goals (try (exfalso; omega))
      all_goals (first | (have TB := text_back t h3; clear h3) | (have TB := text_back ⟨#[97, 98, 99]⟩ (by decide); clear h3))
      all_goals obtain ⟨A, B, hA, hB, ST, RS, HX, UN⟩ := TB
      all_goals go_wp2_with (first | (go_at_call 11; refine (unhide (ST _)).mono ?_; rintro e w7 ⟨rfl, hb7⟩; have HB7 := hide (HB6.out.trans (hb7.mono HB6.out.size))) | (go_at_call 12; refine (unhide (RS _)).mono ?_; rintro e w8 ⟨rfl, hb8⟩; have HB8 := hide (HB7.out.trans (hb8.mono HB7.out.size))) | (go_at_call 13; refine (unhide (HX _)).mono ?_; rintro e w9 ⟨rfl, hb9⟩; have HB9 := hide (HB8.out.trans (hb9.mono HB8.out.size))) | (go_at_call 14; refine (unhide (UN _)).mono ?_; rintro e wa ⟨rfl, hba⟩; have HBa := hide (HB9.out.trans (hba.mono HB9.out.size))))
      all_goals go_ret
      all_goals exact ⟨rfl, HBa.out⟩
end Go.Proofs.YtgbplfahbkdalaaDoor
