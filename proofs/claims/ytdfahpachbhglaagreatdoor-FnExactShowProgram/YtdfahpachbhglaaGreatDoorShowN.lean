/-
  Showing, by the specification: lists of names.
-/
import Derived.Test.YtdfahpachbhglaaGreatDoorAidCard
import Derived.Test.YtdfahpachbhglaaGreatDoorSgP
import Derived.Test.YtdfahpachbhglaaGreatDoorRows
import Derived.Test.YtdfahpachbhglaaGreatDoorImpU
import Derived.WalkKit
namespace Go.Proofs.YtdfahpachbhglaaGreatDoor
open Go.RowKit

/-- A word and names, with commas between. -/
def namesT (word : ByteArray) : List ByteArray → ByteArray
  | [] => word
  | xs => xs.tail.foldl (fun s x => s ++ ⟨#[32, 44]⟩ ++ ⟨#[32]⟩ ++ x) (word ++ ⟨#[32]⟩ ++ xs.headD ByteArray.empty)
/-- A list with its end; nothing when it is empty. -/
def listT (word : ByteArray) (xs : List ByteArray) : ByteArray := if xs = [] then ByteArray.empty else namesT word xs ++ ⟨#[32, 59, 32]⟩
theorem namesT_one (word x : ByteArray) : namesT word [x] = word ++ ⟨#[32]⟩ ++ x := rfl
theorem namesT_more (word : ByteArray) {xs : List ByteArray} (h : xs ≠ []) (x : ByteArray) : namesT word (xs ++ [x]) = namesT word xs ++ ⟨#[32, 44]⟩ ++ ⟨#[32]⟩ ++ x := by
  cases xs with
  | nil => exact absurd rfl h
  | cons a r => simp [namesT, List.foldl_append]
theorem size_app (a b : ByteArray) : (a ++ b).size = a.size + b.size := ByteArray.size_append
theorem namesT_size (word : ByteArray) {m : Nat} : ∀ (xs : List ByteArray), (∀ x ∈ xs, x.size ≤ m) → (namesT word xs).size ≤ word.size + xs.length * (m + 3)
  | [], _ => by simp [namesT]
  | a :: r, h => by
    have key : ∀ (l : List ByteArray) (s : ByteArray), (∀ x ∈ l, x.size ≤ m) → (l.foldl (fun s x => s ++ ⟨#[32, 44]⟩ ++ ⟨#[32]⟩ ++ x) s).size ≤ s.size + l.length * (m + 3) := by
      intro l
      induction l with
      | nil => intro s _; simp
      | cons b l ih =>
        intro s hl
        have h1 := ih (s ++ ⟨#[32, 44]⟩ ++ ⟨#[32]⟩ ++ b) (fun x hx => hl x (List.mem_cons_of_mem _ hx))
        have h2 := hl b List.mem_cons_self
        rw [size_app, size_app, size_app] at h1
        have e1 : (⟨#[32, 44]⟩ : ByteArray).size = 2 := rfl
        have e2 : (⟨#[32]⟩ : ByteArray).size = 1 := rfl
        rw [e1, e2] at h1
        rw [List.foldl_cons, List.length_cons, Nat.succ_mul]
        omega
    have h1 := key r (word ++ ⟨#[32]⟩ ++ a) (fun x hx => h x (List.mem_cons_of_mem _ hx))
    have h2 := h a List.mem_cons_self
    rw [size_app, size_app] at h1
    have e2 : (⟨#[32]⟩ : ByteArray).size = 1 := rfl
    rw [e2] at h1
    rw [List.length_cons, Nat.succ_mul]
    refine Nat.le_trans (m := (r.foldl (fun s x => s ++ ⟨#[32, 44]⟩ ++ ⟨#[32]⟩ ++ x) (word ++ ⟨#[32]⟩ ++ a)).size) (Nat.le_refl _) (Nat.le_trans h1 (by omega))
def NmRel (w : World) (word : ByteArray) (xs : List ByteArray) (n : Nat) (sv iv : Value) (wr : World) : Prop :=
  ∃ i : Nat, i ≤ n ∧ sv = .string (namesT word (xs.take i)) ∧ iv = .int .i64 i ∧ wr = w

set_option maxHeartbeats 1000000 in
theorem l07Names_any (word : ByteArray) (v : Value) (xs : List ByteArray) (w : World) (h : StrsAt w v xs) (hl : xs.length ≤ 1048576) (hw : word.size ≤ 1000000) (hx : ∀ x ∈ xs, x.size ≤ 1048576) :
    Calls Tryz.prog 15 #[.string word, v] w fun e w' => e = .returned (.string (namesT word xs)) ∧ w' = w := by
  have H := hide h
  have HX := hide hx
  clear hx
  obtain ⟨ao, c, rfl, _⟩ := h
  obtain ⟨n, en⟩ : ∃ n, xs.length = n := ⟨_, rfl⟩
  have EN := hide en
  rw [en] at H hl ⊢
  clear en
  go_enter Tryz.func15, Tryz.ntmps15
  go_wp2
  go_loopw [5, 6] (NmRel w word xs n) (fun _ iv _ => n - (intOf iv).toNat)
  case atStart => exact ⟨0, Nat.zero_le _, rfl, rfl, rfl⟩
  case round =>
    obtain ⟨i, hi, rfl, rfl, rfl⟩ := hrel
    obtain ⟨t, ht⟩ : ∃ t, t = namesT word (xs.take i) := ⟨_, rfl⟩
    have hts : t.size ≤ 2000000000000 := by
      rw [ht]
      refine Nat.le_trans (namesT_size word (m := 1048576) (xs.take i) (fun x hx => HX.out x (List.mem_of_mem_take hx))) ?_
      have : (xs.take i).length ≤ 1048576 := by rw [List.length_take]; omega
      have : (xs.take i).length * (1048576 + 3) ≤ 1048576 * (1048576 + 3) := Nat.mul_le_mul_right _ this
      omega
    rw [← ht]
    have HT := hide ht
    clear ht
    by_cases hlt : i < n
    · have hlt' : (i : Int) < (n : Int) := by omega
      have hi0 : (0 : Int) ≤ (i : Int) := by omega
      have hix : i < xs.length := by rw [EN.out]; exact hlt
      obtain ⟨ao', c', e1, hc1⟩ := H.out
      injection e1 with e2 e3 e4
      subst e2
      obtain ⟨a, rfl, _, hx⟩ := hc1 i hix
      have HF : Hid (xs.take (i + 1) = xs.take i ++ [xs[i]]) := List.take_succ_eq_append_getElem hix
      have hxs := HX.out xs[i] (List.getElem_mem hix)
      obtain ⟨x, ex⟩ : ∃ x, xs[i] = x := ⟨_, rfl⟩
      rw [ex] at hx HF hxs
      clear ex hc1 e3 e4
      rcases Nat.eq_zero_or_pos i with h0 | h0
      · have hp : ¬ (0 : Int) < (i : Int) := by omega
        have HF2 : Hid (t ++ ⟨#[32]⟩ ++ x = namesT word (xs.take (i + 1))) := by
          show _ = _
          rw [HF.out, HT.out, h0]
          rfl
        clear h0
        go_wp2
        go_roundw
        case rel => exact ⟨i + 1, by omega, by rw [← HF2.out], by go_num, rfl⟩
        case measure => simp [intOf]; omega
      · have hp : decide ((0 : Int) < (i : Int)) = true := by simp; omega
        go_wp2
        go_roundw
        case rel =>
          refine ⟨i + 1, by omega, ?_, by go_num, rfl⟩
          rw [HF.out, namesT_more word (fun e => by have := congrArg List.length e; rw [List.length_take] at this; simp only [List.length_nil] at this; omega), ← HT.out]
        case measure => simp [intOf]; omega
    · have e : i = n := by omega
      subst e
      go_wp2
      go_ret
      refine ⟨?_, rfl⟩
      rw [HT.out, List.take_of_length_le (by rw [EN.out]; exact Nat.le_refl _)]
      rfl
set_option maxHeartbeats 1000000 in
theorem l07List_any (word : ByteArray) (v : Value) (xs : List ByteArray) (w : World) (h : StrsAt w v xs) (hl : xs.length ≤ 1048576) (hw : word.size ≤ 1000000) (hx : ∀ x ∈ xs, x.size ≤ 1048576) :
    Calls Tryz.prog 13 #[.string word, v] w fun e w' => e = .returned (.string (listT word xs)) ∧ w' = w := by
  have C := hide (l07Names_any word v xs w h hl hw hx)
  have hs : (namesT word xs).size ≤ 2000000000000 := by
    refine Nat.le_trans (namesT_size word (m := 1048576) xs hx) ?_
    have : xs.length * (1048576 + 3) ≤ 1048576 * (1048576 + 3) := Nat.mul_le_mul_right _ hl
    omega
  obtain ⟨ao, c, rfl, _⟩ := h
  by_cases h0 : xs = []
  · have hz : xs.length = 0 := by rw [h0]; rfl
    have HE : Hid (listT word xs = ByteArray.empty) := by show _ = _; rw [listT, if_pos h0]
    rw [hz] at C ⊢
    clear h0 hz C hs hx
    go_enter Tryz.func13, Tryz.ntmps13
    go_wp2
    go_ret
    exact ⟨by rw [HE.out]; rfl, rfl⟩
  · have hz : ¬ xs.length = 0 := fun e => h0 (List.length_eq_zero_iff.1 e)
    have hz2 : ¬ (xs.length : Int) = 0 := by omega
    have HE : Hid (listT word xs = namesT word xs ++ ⟨#[32, 59, 32]⟩) := by show _ = _; rw [listT, if_neg h0]
    rw [HE.out]
    obtain ⟨t, et⟩ : ∃ t, t = namesT word xs := ⟨_, rfl⟩
    rw [← et] at C hs ⊢
    clear et HE h0 hx
    go_enter Tryz.func13, Tryz.ntmps13
    go_wp2_with fail
    refine (unhide C).mono ?_
    rintro e w1 ⟨rfl, rfl⟩
    go_wp2
    go_ret
    exact ⟨rfl, rfl⟩
end Go.Proofs.YtdfahpachbhglaaGreatDoor

namespace Go.Proofs.YtdfahpachbhglaaGreatDoor

def szS (l : List ByteArray) : Nat := (l.map fun s => s.size + 1).sum
theorem szS_nil : szS [] = 0 := rfl
theorem szS_cons (a : ByteArray) (l : List ByteArray) : szS (a :: l) = a.size + 1 + szS l := by simp [szS]
theorem szS_app (a b : List ByteArray) : szS (a ++ b) = szS a + szS b := by simp [szS]
theorem joinS_size : ∀ l : List ByteArray, (joinS l).size ≤ szS l
  | [] => by simp [joinS]
  | [a] => by rw [szS_cons, szS_nil]; simp [joinS]
  | a :: b :: r => by
    have h := joinS_size (b :: r)
    have e : (⟨#[32]⟩ : ByteArray).size = 1 := rfl
    rw [joinS_cons a (by simp), size_app, size_app, e, szS_cons]
    omega
def Lb : Nat → Nat
  | 0 => 100
  | d + 1 => 15 * Lb d
theorem Lb_pos : ∀ d, 100 ≤ Lb d
  | 0 => Nat.le_refl _
  | d + 1 => by have := Lb_pos d; simp only [Lb]; omega
theorem Lb_mono {a b : Nat} (h : a ≤ b) : Lb a ≤ Lb b := by
  induction b with
  | zero => rw [Nat.le_zero.1 h]; exact Nat.le_refl _
  | succ b ih =>
    rcases Nat.lt_or_eq_of_le h with h | h
    · have := ih (by omega); simp only [Lb]; omega
    · rw [h]; exact Nat.le_refl _
theorem Lb_ten : Lb 10 = 57665039062500 := by decide
theorem between_size (s : ByteArray) {m : Nat} : ∀ (ls : List (List ByteArray)), (∀ l ∈ ls, szS l ≤ m) → szS (between s ls) ≤ ls.length * (m + s.size + 1)
  | [], _ => by simp [between, szS_nil]
  | [a], h => by have := h a List.mem_cons_self; simp [between]; omega
  | a :: b :: r, h => by
    have h1 := h a List.mem_cons_self
    have h2 := between_size s (b :: r) (fun l hl => h l (List.mem_cons_of_mem _ hl))
    rw [between, szS_app, szS_cons, List.length_cons, Nat.succ_mul]
    omega
/-- What nodeB says of a node's kids, kind by kind. -/
theorem kids_of {x : Nd} {l : List Int} (h : nodeB x l = true) (hl : l.length = x.kids.length) :
    (x.kind = 3 → x.kids.length = 2) ∧ (x.kind = 4 ∨ x.kind = 5 ∨ x.kind = 11 ∨ x.kind = 14 ∨ x.kind = 15 → x.kids.length = 1) ∧ (x.kind = 12 → x.kids.length = 2 ∨ x.kids.length = 3) ∧ (x.kind = 13 → x.kids.length = 2) ∧ (x.kind = 20 → 1 ≤ x.kids.length ∧ x.kids.length ≤ 12) := by
  have h2 : kidsB x.kind l = true := by
    simp only [nodeB, Bool.and_eq_true] at h
    exact h.1.1.1.2
  unfold kidsB at h2
  refine ⟨fun e => ?_, fun e => ?_, fun e => ?_, fun e => ?_, fun e => ?_⟩
  · rw [if_neg (by omega), if_pos e] at h2
    simp only [Bool.and_eq_true, decide_eq_true_eq] at h2
    omega
  · rw [if_neg (by omega), if_neg (by omega), if_pos (by omega)] at h2
    simp only [Bool.and_eq_true, decide_eq_true_eq] at h2
    omega
  · rw [if_neg (by omega), if_neg (by omega), if_neg (by omega), if_pos e] at h2
    simp only [Bool.and_eq_true, decide_eq_true_eq] at h2
    omega
  · rw [if_neg (by omega), if_neg (by omega), if_neg (by omega), if_neg (by omega), if_pos e] at h2
    simp only [Bool.and_eq_true, decide_eq_true_eq] at h2
    omega
  · rw [if_neg (by omega), if_neg (by omega), if_neg (by omega), if_neg (by omega), if_neg (by omega)] at h2
    simp only [Bool.and_eq_true, inZ, decide_eq_true_eq] at h2
    omega
theorem kindK_at {ns : List Nd} {k : Nat} {y : Int} (h : 0 ≤ y ∧ y < (k : Int)) : kidKind ns k y = (ns.getD y.toNat default).kind := by
  unfold kidKind
  rw [if_pos]
  simp only [inZ, decide_eq_true_eq]
  omega
/-- The only kid of such a node is a value. -/
theorem kid_value {ns : List Nd} {k : Nat} {x : Nd} {y : Int} (hk : kinds ns k = x.kids.map (kidKind ns k)) (h : nodeB x (kinds ns k) = true) (hx : x.kids = [y]) (hy : 0 ≤ y ∧ y < (k : Int)) (hkd : x.kind = 4 ∨ x.kind = 5 ∨ x.kind = 11 ∨ x.kind = 14 ∨ x.kind = 15) : valueQ (ns.getD y.toNat default).kind = true := by
  have h2 : kidsB x.kind (kinds ns k) = true := by
    simp only [nodeB, Bool.and_eq_true] at h
    exact h.1.1.1.2
  unfold kidsB at h2
  rw [if_neg (by omega), if_neg (by omega), if_pos (by omega), hk, hx] at h2
  simp only [Bool.and_eq_true, List.map_cons, List.map_nil, List.take_one, List.all_eq_true] at h2
  have := h2.2 (kidKind ns k y) (by simp)
  rw [kindK_at hy] at this
  exact this
/-- Both kids of a calculation are values. -/
theorem kid_values {ns : List Nd} {k : Nat} {x : Nd} {y z : Int} (hk : kinds ns k = x.kids.map (kidKind ns k)) (h : nodeB x (kinds ns k) = true) (hx : x.kids = [y, z]) (hy : 0 ≤ y ∧ y < (k : Int)) (hz : 0 ≤ z ∧ z < (k : Int)) (hkd : x.kind = 3) : valueQ (ns.getD y.toNat default).kind = true ∧ valueQ (ns.getD z.toNat default).kind = true := by
  have h2 : kidsB x.kind (kinds ns k) = true := by
    simp only [nodeB, Bool.and_eq_true] at h
    exact h.1.1.1.2
  unfold kidsB at h2
  rw [if_neg (by omega), if_pos hkd, hk, hx] at h2
  simp only [Bool.and_eq_true, List.map_cons, List.map_nil, List.all_eq_true] at h2
  have h3 := h2.2 (kidKind ns k y) (by simp)
  have h4 := h2.2 (kidKind ns k z) (by simp)
  rw [kindK_at hy] at h3
  rw [kindK_at hz] at h4
  exact ⟨h3, h4⟩
end Go.Proofs.YtdfahpachbhglaaGreatDoor

namespace Go.Proofs.YtdfahpachbhglaaGreatDoor
open Go.RowKit

theorem strOfNums_cons (x : Int) (t : List Int) : strOfNums [x] ++ strOfNums t = strOfNums (x :: t) := by
  apply ByteArray.ext
  rw [ByteArray.data_append]
  apply Array.toList_inj.1
  rw [Array.toList_append, strOfNums_data, strOfNums_data, strOfNums_data]
  rfl

theorem conv_one (x : Int) (w : World) : (convert 57 9 (.slice (some ⟨w.heap.size, 0, none⟩) 1 1)).run Tryz.prog (w.alloc (.cells #[.int .u8 x] 5)) = .ok (.string (strOfNums [x])) (w.alloc (.cells #[.int .u8 x] 5)) := by
  refine conv_own (base := w.heap.size) (n := 1) 57 9 5 Tryz.underlying57 Tryz.underlying5 Tryz.underlying9 ?_
  exact World.ownsRow_lit w #[.int .u8 x] 1 (Nat.le_refl _) (by unfold maxLen; omega) rfl

theorem decFig (x : Int) (w : World) (h0 : 0 ≤ x) (h1 : x < 10) : Calls Tryz.prog 96 #[.int .i64 x] w fun e w' => e = .returned (.int .u8 (48 + x)) ∧ w = w' := by
  go_enter Tryz.func96, Tryz.ntmps96
  go_wp2
  go_ret
  exact ⟨rfl, rfl⟩

/-- What the loop keeps: the figures that are to come, and those that are there. -/
def DecRel (N : Nat) (of : Nat → Int) (w : World) (sv nv : Value) (wr : World) : Prop :=
  ∃ (m : Nat) (tail : List Int), m ≤ N ∧ nv = .int .i64 (of m) ∧ sv = .string (strOfNums tail) ∧ Hid (decR m ++ tail = decR N) ∧ Below w.heap.size w wr

theorem DecRel.step {N m : Nat} {tail : List Int} (hm : 0 < m) (h : decR m ++ tail = decR N) : decR (m / 10) ++ (((48 + m % 10 : Nat) : Int) :: tail) = decR N := by
  rw [← h, decR_pos hm]; simp
theorem DecRel.short {N m : Nat} {tail : List Int} (hN : N ≤ 9223372036854775808) (h : decR m ++ tail = decR N) : (strOfNums tail).size ≤ 20 := by
  rw [strOfNums_size]
  have h1 := decR_len 20 N (by omega)
  rw [← h, List.length_append] at h1
  omega

set_option maxHeartbeats 1000000 in
set_option maxRecDepth 100000 in
theorem specDecimal_pos (n : Nat) (w : World) (h0 : 0 < n) (h1 : n ≤ 9223372036854775807) :
    Calls Tryz.prog 76 #[.int .i64 n] w fun e w' => e = .returned (.string (strOfNums (decR n))) ∧ Below w.heap.size w w' := by
  have hb1 : ((n : Int) == 0) = false := by simp; omega
  have hb2 : decide ((n : Int) < 0) = false := by simp
  go_enter Tryz.func76, Tryz.ntmps76
  go_wp2
  go_loopw [4, 0] (fun sv nv wr => DecRel n (fun m => (m : Int)) w sv nv wr) (fun _ nv _ => (intOf nv).toNat)
  case atStart => exact ⟨n, [], Nat.le_refl _, by simp, rfl, by simp [Hid], Below.refl _ _⟩
  case round =>
    obtain ⟨m, tail, hm, rfl, rfl, HD, hb⟩ := hrel
    have hts := DecRel.short (by omega) HD.out
    obtain ⟨t, ht⟩ : ∃ t, t = strOfNums tail := ⟨_, rfl⟩
    rw [← ht] at hts ⊢
    have HT := hide ht
    clear ht
    have hsz := hb.size
    rcases Nat.eq_zero_or_pos m with hm0 | hm0
    · have HF : Hid (t = strOfNums (decR n)) := by
        show t = _
        rw [HT.out, ← HD.out, hm0, decR_zero, List.nil_append]
      have hm1 : ((m : Int) != 0) = false := by simp; omega
      clear hm0
      go_wp2
      go_ret
      exact ⟨by rw [← HF.out]; rfl, hb⟩
    · have hcv := conv_one (48 + (m : Int) % 10) wr
      have hx1 : (strOfNums [48 + (m : Int) % 10]).size ≤ 1 := by rw [strOfNums_size]; simp
      have HE := hide (strOfNums_cons (48 + (m : Int) % 10) tail)
      obtain ⟨x, hx⟩ : ∃ x, x = strOfNums [48 + (m : Int) % 10] := ⟨_, rfl⟩
      rw [← hx] at hcv hx1 HE
      have HX := hide hx
      clear hx
      go_wp2_with (go_at_call 96; refine (decFig _ _ (by omega) (by omega)).mono ?_; rintro e w1 ⟨rfl, rfl⟩)
      go_roundw
      case rel =>
        refine ⟨m / 10, ((48 + m % 10 : Nat) : Int) :: tail, by omega, by go_num, ?_, DecRel.step hm0 HD.out, hb.alloc hsz _⟩
        rw [HT.out, HE.out]
        simp
      case measure => simp [intOf]; omega

set_option maxRecDepth 100000 in
theorem specDecimal_zero (w : World) : Calls Tryz.prog 76 #[.int .i64 0] w fun e w' => e = .returned (.string (strOfNums [48])) ∧ Below w.heap.size w w' := by
  go_enter Tryz.func76, Tryz.ntmps76
  go_wp2
  go_ret
  exact ⟨rfl, Below.refl _ _⟩

set_option maxHeartbeats 1000000 in
set_option maxRecDepth 100000 in
theorem specDecimal_neg (n : Nat) (w : World) (h0 : 0 < n) (h1 : n ≤ 9223372036854775808) :
    Calls Tryz.prog 76 #[.int .i64 (-(n : Int))] w fun e w' => e = .returned (.string (strOfNums (45 :: decR n))) ∧ Below w.heap.size w w' := by
  have hb1 : ((-(n : Int)) == 0) = false := by simp; omega
  have hb2 : decide ((-(n : Int)) < 0) = true := by simp; omega
  go_enter Tryz.func76, Tryz.ntmps76
  go_wp2
  go_loopw [4, 0] (fun sv nv wr => DecRel n (fun m => -(m : Int)) w sv nv wr) (fun _ nv _ => (-(intOf nv)).toNat)
  case atStart => exact ⟨n, [], Nat.le_refl _, by simp, rfl, by simp [Hid], Below.refl _ _⟩
  case round =>
    obtain ⟨m, tail, hm, rfl, rfl, HD, hb⟩ := hrel
    have hts := DecRel.short (by omega) HD.out
    obtain ⟨t, ht⟩ : ∃ t, t = strOfNums tail := ⟨_, rfl⟩
    rw [← ht] at hts ⊢
    have HT := hide ht
    clear ht
    have hsz := hb.size
    rcases Nat.eq_zero_or_pos m with hm0 | hm0
    · have HF : Hid ((⟨#[45]⟩ : ByteArray) ++ t = strOfNums (45 :: decR n)) := by
        show _ = _
        rw [← strOfNums_cons, HT.out, ← HD.out, hm0, decR_zero, List.nil_append]
        rfl
      have hm1 : ((-(m : Int)) != 0) = false := by simp; omega
      clear hm0
      go_wp2
      go_ret
      exact ⟨by rw [← HF.out]; rfl, hb⟩
    · obtain ⟨d, hd, hd0, hd1⟩ : ∃ d : Int, d = (m : Int) % 10 ∧ 0 ≤ d ∧ d < 10 := ⟨_, rfl, by omega, by omega⟩
      have hcv := conv_one (48 + (m : Int) % 10) wr
      have hcv2 := conv_one (48 + -((m : Int) % 10)) wr
      have hx1 : (strOfNums [48 + (m : Int) % 10]).size ≤ 1 := by rw [strOfNums_size]; simp
      have HE := hide (strOfNums_cons (48 + (m : Int) % 10) tail)
      obtain ⟨x, hx⟩ : ∃ x, x = strOfNums [48 + (m : Int) % 10] := ⟨_, rfl⟩
      rw [← hx] at hcv hx1 HE
      have hm1 : ((-(m : Int)) != 0) = true := by simp; omega
      by_cases hq : 0 < (m : Int) % 10
      · have HX := hide hx
        clear hx hd hcv2
        go_wp2_with (go_at_call 96; refine (decFig _ _ (by omega) (by omega)).mono ?_; rintro e w1 ⟨rfl, rfl⟩)
        go_roundw
        case rel =>
          refine ⟨m / 10, ((48 + m % 10 : Nat) : Int) :: tail, by omega, by first | go_num | (congr 1; omega), ?_, DecRel.step hm0 HD.out, hb.alloc hsz _⟩
          rw [HT.out, HE.out]
          simp
        case measure => simp [intOf]; omega
      · have hx2 : strOfNums [48 + -((m : Int) % 10)] = x := by
          rw [hx, show -((m : Int) % 10) = (m : Int) % 10 by omega]
        rw [hx2] at hcv2
        have HX := hide hx
        clear hx hd hx2 hcv
        go_wp2_with (go_at_call 96; refine (decFig _ _ (by omega) (by omega)).mono ?_; rintro e w1 ⟨rfl, rfl⟩)
        go_roundw
        case rel =>
          refine ⟨m / 10, ((48 + m % 10 : Nat) : Int) :: tail, by omega, by first | go_num | (congr 1; omega), ?_, DecRel.step hm0 HD.out, hb.alloc hsz _⟩
          rw [HT.out, HE.out]
          simp
        case measure => simp [intOf]; omega
end Go.Proofs.YtdfahpachbhglaaGreatDoor
