/-
  The first of a list that is of a kind: its place, as a function of the list.
-/
import Derived.Test.YtkoelibclihekaaTreeQ
import Derived.Test.YtkoelibclihekaaAid
import Derived.Test.YtkoelibclihekaaProg
import Derived.WalkKit
import Derived.Deep.RegionHeld3
import Derived.Test.YtkoelibclihekaaChecked
import Derived.Maps.OwnSet
import Derived.BigQuiet
import Derived.WalkSmall
import Derived.Lib.DecodeN
import Derived.Laws.RangeAny
namespace Go.Proofs.Ytkoelibclihekaa
open Go.RowKit

/-- The place of the first that is so; -1 without one. -/
def firstAt {α : Type} (f : α → Bool) (xs : List α) : Int := match xs.findIdx? f with
  | some i => (i : Int)
  | none => -1
theorem first_hit {α : Type} {f : α → Bool} {xs : List α} {i : Nat} (hi : i < xs.length) (h : ∀ j (hj : j < xs.length), j < i → f xs[j] = false) (hx : f xs[i] = true) : firstAt f xs = (i : Int) := by
  have e : xs.findIdx? f = some i := List.findIdx?_eq_some_iff_getElem.2 ⟨hi, hx, fun j hj => by rw [h j (by omega) hj]; exact Bool.noConfusion⟩
  rw [firstAt, e]
theorem first_none {α : Type} {f : α → Bool} {xs : List α} (h : ∀ j (hj : j < xs.length), f xs[j] = false) : firstAt f xs = -1 := by
  have e : xs.findIdx? f = none := List.findIdx?_eq_none_iff.2 (fun x hx => by
    obtain ⟨j, hj, rfl⟩ := List.getElem_of_mem hx
    exact h j hj)
  rw [firstAt, e]
theorem first_le {α : Type} (f : α → Bool) (xs : List α) : -1 ≤ firstAt f xs ∧ firstAt f xs < (xs.length : Int) := by
  rw [firstAt]
  split
  · rename_i i e
    have := (List.findIdx?_eq_some_iff_getElem.1 e).1
    omega
  · omega
/-- What a search has seen so far. -/
def NoneTo {α : Type} (f : α → Bool) (xs : List α) (i : Nat) : Prop := ∀ j (hj : j < xs.length), j < i → f xs[j] = false
theorem NoneTo.zero {α : Type} (f : α → Bool) (xs : List α) : NoneTo f xs 0 := fun _ _ h => absurd h (Nat.not_lt_zero _)
theorem NoneTo.step {α : Type} {f : α → Bool} {xs : List α} {i : Nat} (h : NoneTo f xs i) (hx : ∀ hi : i < xs.length, f xs[i] = false) : NoneTo f xs (i + 1) := fun j hj hji => by
  by_cases e : j = i
  · subst e; exact hx hj
  · exact h j hj (by omega)
def monN (name : ByteArray) (m : Mo) : Bool := decide (m.name = name)
def entN (name : ByteArray) (m : En) : Bool := decide (m.name = name)
def SchR {α : Type} (w : World) (f : α → Bool) (xs : List α) (iv : Value) (wr : World) : Prop := ∃ i : Nat, i ≤ xs.length ∧ iv = .int .i64 i ∧ Hid (Below w.heap.size w wr) ∧ Hid (NoneTo f xs i)
theorem NoneTo.hit {α : Type} {f : α → Bool} {xs : List α} {i : Nat} (h : NoneTo f xs i) (hi : i < xs.length) (hx : f xs[i] = true) : firstAt f xs = (i : Int) := first_hit hi h hx
theorem NoneTo.none {α : Type} {f : α → Bool} {xs : List α} {i : Nat} (h : NoneTo f xs i) (hi : xs.length ≤ i) : firstAt f xs = -1 := first_none fun j hj => h j hj (by omega)
/-- A value that is a slice. -/
def SlV (v : Value) : Prop := ∃ o n c, v = .slice o n c
theorem StrsAt.sl {w : World} {v : Value} {xs : List ByteArray} (h : StrsAt w v xs) : SlV v := by obtain ⟨a, c, e, _⟩ := h; exact ⟨_, _, _, e⟩
theorem NdsAt.sl {w : World} {v : Value} {xs : List Nd} (h : NdsAt w v xs) : SlV v := by obtain ⟨a, c, e, _⟩ := h; exact ⟨_, _, _, e⟩
theorem PrsAt.sl {w : World} {v : Value} {xs : List Pr} (h : PrsAt w v xs) : SlV v := by obtain ⟨a, c, e, _⟩ := h; exact ⟨_, _, _, e⟩
end Go.Proofs.Ytkoelibclihekaa

namespace Go.Proofs.Ytkoelibclihekaa
open Go.RowKit

/-- A value. -/
def vok (n : Int) : Bool := decide (-1000000 ≤ n) && decide (n ≤ 1000000)
theorem vok_iff (n : Int) : vok n = true ↔ -1000000 ≤ n ∧ n ≤ 1000000 := by simp [vok]
theorem vok_not (n : Int) : vok n = false ↔ ¬ (-1000000 ≤ n ∧ n ≤ 1000000) := by rw [← vok_iff]; simp

/-- What comes out of two values. -/
def calcO (op a b : Int) : Int :=
  if op = 1 then a + b else if op = 2 then a - b else if op = 3 then a * b else if op = 4 then a.tdiv b else if op = 5 then a.tmod b
  else if op = 6 then (if decide (a < b) then 1 else 0) else if op = 7 then (if decide (a = b) then 1 else 0)
  else if op = 8 then (if decide (a ≠ 0) && decide (b ≠ 0) then 1 else 0) else (if decide (a ≠ 0) || decide (b ≠ 0) then 1 else 0)

theorem mul_small {a b : Int} (ha1 : -1000000 ≤ a) (ha2 : a ≤ 1000000) (hb1 : -1000000 ≤ b) (hb2 : b ≤ 1000000) : -1000000000000 ≤ a * b ∧ a * b ≤ 1000000000000 := by
  have h : (a * b).natAbs ≤ 1000000 * 1000000 := by rw [Int.natAbs_mul]; exact Nat.mul_le_mul (by omega) (by omega)
  omega
theorem tdiv_small {a : Int} (b : Int) (ha1 : -1000000 ≤ a) (ha2 : a ≤ 1000000) : -1000000 ≤ a.tdiv b ∧ a.tdiv b ≤ 1000000 := by
  have h : (a.tdiv b).natAbs ≤ 1000000 := by rw [Int.natAbs_tdiv]; exact Nat.le_trans (Nat.div_le_self _ _) (by omega)
  omega
theorem wrap_mul {a b : Int} (ha1 : -1000000 ≤ a) (ha2 : a ≤ 1000000) (hb1 : -1000000 ≤ b) (hb2 : b ≤ 1000000) : wrap64 (a * b) = a * b := by
  have h := mul_small ha1 ha2 hb1 hb2
  exact IntWalk.wrap64_in _ (by omega)
theorem wrap_tdiv {a : Int} (b : Int) (ha1 : -1000000 ≤ a) (ha2 : a ≤ 1000000) : wrap64 (a.tdiv b) = a.tdiv b := by
  have h := tdiv_small b ha1 ha2
  exact IntWalk.wrap64_in _ (by omega)

end Go.Proofs.Ytkoelibclihekaa

namespace Go.Proofs.Ytkoelibclihekaa
open Go.RowKit Go.Maps
open Go.WideMaps (keyOf_string_mk)

/-- The key words. -/
def keyS : List ByteArray := [⟨#[109, 111, 110, 105, 116, 111, 114]⟩, ⟨#[118, 97, 114]⟩, ⟨#[113, 117, 101, 117, 101]⟩, ⟨#[101, 110, 116, 114, 121]⟩, ⟨#[112, 114, 111, 99, 101, 115, 115]⟩, ⟨#[117, 115, 101, 115]⟩, ⟨#[98, 101, 103, 105, 110]⟩, ⟨#[101, 110, 100]⟩, ⟨#[105, 102]⟩, ⟨#[116, 104, 101, 110]⟩, ⟨#[101, 108, 115, 101]⟩, ⟨#[119, 104, 105, 108, 101]⟩, ⟨#[100, 111]⟩, ⟨#[99, 97, 108, 108]⟩, ⟨#[116, 111]⟩, ⟨#[112, 114, 105, 110, 116]⟩, ⟨#[114, 101, 97, 100]⟩, ⟨#[100, 101, 108, 97, 121]⟩, ⟨#[99, 111, 110, 116, 105, 110, 117, 101]⟩, ⟨#[115, 107, 105, 112]⟩, ⟨#[97, 110, 100]⟩, ⟨#[111, 114]⟩, ⟨#[110, 111, 116]⟩]
def keyB (s : ByteArray) : Bool := keyS.any fun x => decide (x = s)

def keyLits : List Lit := keyS.map fun x => .string x.data.toList
/-- Some map that holds these keys, in a block of its own. -/
def MapIs (w0 w : World) (n : Nat) (ks : List Lit) : Prop := w.ownsMap Try.prog 9 (unitElem (H := Unit)) w0.heap.size n (setOf (.agg []) ks) ∧ Below w0.heap.size w0 w

theorem lawS : Keyed Try.prog 9 := string_keyed Try.underlying9
theorem MapIs.made (w : World) : MapIs w (w.alloc (.map #[] 0)) 0 [] := ⟨World.ownsMap_made _ _ _ _, (Below.refl _ _).alloc (Nat.le_refl _) _⟩

theorem keyLits_key : ∀ x ∈ keyLits, WideAt.IsKeyLit x := by
  intro x hx
  obtain ⟨y, _, rfl⟩ := List.mem_map.1 hx
  trivial

theorem keyHas (s : ByteArray) : Maps.has (setOf (H := Unit) (.agg []) keyLits) (.string s.data.toList) = keyB s := by
  rw [has_setOf _ _ _ keyLits_key, keyLits, List.any_map, keyB]
  congr 1
  funext x
  show Lit.sameKey (.string x.data.toList) (.string s.data.toList) = _
  have e : x = s ↔ x.data = s.data := ⟨fun h => by rw [h], fun h => ByteArray.ext h⟩
  by_cases h : x = s
  · simp [Lit.sameKey, h]
  · have h' : ¬ x.data = s.data := fun q => h (e.2 q)
    simp [Lit.sameKey, h, h']

abbrev keyRow (w : World) : World := w.alloc (.cells (keyS.map Value.string).toArray 9)

theorem keyRow_cell (w : World) (k : Nat) (h : k < 23) : (keyRow w).cell? ⟨w.heap.size, k, none⟩ = some (.string (keyS.getD k ByteArray.empty)) := by
  have := (World.ownsRow_lit (base := w.heap.size) (e := 9) (size := 1) w (keyS.map Value.string).toArray 23 (Nat.le_refl _) (by unfold maxLen; omega) (by simp [keyS])).cellAt k h
  rw [this, List.getD_eq_getElem?_getD]
  simp [List.getElem?_eq_getElem (show k < keyS.length from h)]

theorem keyB_yes {s : ByteArray} {k : Nat} (h : k < 23) (e : keyS.getD k ByteArray.empty = s) : keyB s = true := by
  rw [keyB, List.any_eq_true]
  refine ⟨keyS.getD k ByteArray.empty, ?_, by rw [e]; exact decide_eq_true rfl⟩
  rw [List.getD_eq_getElem?_getD, List.getElem?_eq_getElem (show k < keyS.length from h)]
  exact List.getElem_mem _
theorem keyB_no {s : ByteArray} (h : ∀ k, k < 23 → keyS.getD k ByteArray.empty ≠ s) : keyB s = false := by
  rw [keyB, List.any_eq_false]
  intro x hx
  obtain ⟨j, hj, rfl⟩ := List.getElem_of_mem hx
  have := h j hj
  rw [List.getD_eq_getElem?_getD, List.getElem?_eq_getElem hj] at this
  simpa using this

end Go.Proofs.Ytkoelibclihekaa

namespace Go.Proofs.Ytkoelibclihekaa
open Go.RowKit

theorem get_bang (s : ByteArray) (j : Nat) (h : j < s.size) : s.get! j = s[j] := by
  simp [ByteArray.get!, getElem!_pos, h]
  rfl

theorem decodeN_span (n b0 b1 b2 b3 : Nat) (hn : 0 < n) : (Lib.decodeN n b0 b1 b2 b3).2 ≤ n ∧ (1 < (Lib.decodeN n b0 b1 b2 b3).2 → 128 ≤ b1) ∧ (2 < (Lib.decodeN n b0 b1 b2 b3).2 → 128 ≤ b2) ∧ (3 < (Lib.decodeN n b0 b1 b2 b3).2 → 128 ≤ b3) ∧ (Lib.decodeN n b0 b1 b2 b3).2 ≤ 4 := by
  unfold Lib.decodeN
  repeat' split
  all_goals (simp only []; omega)

/-- What a rune takes lies in the text, and all of its bytes but the first are 128 or above. -/
theorem decode_span (s : ByteArray) (pos : Nat) (h : pos < s.size) : pos + (Utf8.decode s pos).2 ≤ s.size ∧ ∀ j, 0 < j → j < (Utf8.decode s pos).2 → ∀ hj : pos + j < s.size, 128 ≤ s[pos + j].toNat := by
  rw [Lib.decode_at]
  obtain ⟨h1, a1, a2, a3, h4⟩ := decodeN_span (s.size - pos) (s.get! pos).toNat (s.get! (pos + 1)).toNat (s.get! (pos + 2)).toNat (s.get! (pos + 3)).toNat (by omega)
  refine ⟨by omega, fun j h0 hj hl => ?_⟩
  have : j = 1 ∨ j = 2 ∨ j = 3 := by omega
  rcases this with rfl | rfl | rfl
  · rw [← get_bang]; exact a1 hj
  · rw [← get_bang]; exact a2 hj
  · rw [← get_bang]; exact a3 hj

/-- How many bytes at the beginning are of a kind. -/
def headN (q : Nat → Bool) (l : List UInt8) : Nat := (l.takeWhile fun b => q b.toNat).length

theorem headN_le (q : Nat → Bool) (l : List UInt8) : headN q l ≤ l.length := by
  unfold headN
  exact (List.takeWhile_prefix _).length_le

theorem headN_at (q : Nat → Bool) : ∀ (l : List UInt8) (k : Nat), (∀ j, j < k → ∃ b, l[j]? = some b ∧ q b.toNat = true) → (k = l.length ∨ ∃ b, l[k]? = some b ∧ q b.toNat = false) → headN q l = k
  | [], k, _, h => by
    rcases h with h | ⟨b, hb, _⟩
    · simp at h; subst h; rfl
    · simp at hb
  | x :: l, 0, _, h => by
    rcases h with h | ⟨b, hb, hq⟩
    · simp at h
    · simp at hb; subst hb
      simp [headN, hq]
  | x :: l, k + 1, hA, h => by
    obtain ⟨b, hb, hq⟩ := hA 0 (by omega)
    simp at hb; subst hb
    have := headN_at q l k (fun j hj => by simpa using hA (j + 1) (by omega)) (by
      rcases h with h | h
      · simp at h; exact .inl h
      · simpa using .inr h)
    simp [headN, hq] at this ⊢
    exact this

theorem headN_in (q : Nat → Bool) (s : ByteArray) (k : Nat) (hA : ∀ j, j < k → ∀ h : j < s.size, q s[j].toNat = true) (hk : k ≤ s.size) (h : k = s.size ∨ ∃ hk : k < s.size, q s[k].toNat = false) : headN q s.data.toList = k := by
  have hl : s.data.toList.length = s.size := by rw [Array.length_toList]; rfl
  have hg : ∀ j (hj : j < s.size), s.data.toList[j]? = some s[j] := fun j hj => by
    rw [List.getElem?_eq_getElem (by omega)]; rfl
  refine headN_at q _ k (fun j hj => ⟨_, hg j (by omega), hA j hj (by omega)⟩) ?_
  rcases h with h | ⟨hk, h⟩
  · exact .inl (by omega)
  · exact .inr ⟨_, hg k hk, h⟩

theorem index_str9 {P : Program} {t : TypeId} (ht : P.underlying t = some .string) (s : ByteArray) (k : Nat) (h : k < s.size) (w : World) :
    (Instr.index t (.string s) (.int .i64 (k : Int))).run P w = .ok (.int .u8 (s[k].toNat : Int)) w := by
  simp [go_sem, ht, h]

/-- The kinds. -/
def letterQ (r : Nat) : Bool := decide (97 ≤ r ∧ r ≤ 122)
def figureQ (r : Nat) : Bool := decide (48 ≤ r ∧ r ≤ 57)
def blankQ (r : Nat) : Bool := decide (r = 32 ∨ r = 10)
def lineQ (r : Nat) : Bool := decide (r ≠ 10)
end Go.Proofs.Ytkoelibclihekaa

namespace Go.Proofs.Ytkoelibclihekaa
open Go.RowKit

end Go.Proofs.Ytkoelibclihekaa

namespace Go.Proofs.Ytkoelibclihekaa
open Go.RowKit

def sizeB (s : ByteArray) : Bool := decide (1 ≤ s.size ∧ s.size ≤ 8)
def lettersB (s : ByteArray) : Bool := decide (headN letterQ s.data.toList = s.size)
def nameB (s : ByteArray) : Bool := sizeB s && (lettersB s && !keyB s)

theorem takeWhile_all {α : Type} {p : α → Bool} : ∀ (l : List α) (b : α), b ∈ l.takeWhile p → p b = true
  | [], b, h => by simp at h
  | x :: l, b, h => by
    rw [List.takeWhile_cons] at h
    split at h
    · rename_i hx
      rcases List.mem_cons.1 h with rfl | h
      · exact hx
      · exact takeWhile_all l b h
    · simp at h
theorem lettersB_no {s : ByteArray} {k : Nat} (h : k < s.size) (hq : letterQ s[k].toNat = false) : lettersB s = false := by
  rw [lettersB, decide_eq_false_iff_not]
  intro e
  have : ∀ b ∈ s.data.toList, letterQ b.toNat = true := by
    have hl : s.data.toList.length = s.size := by rw [Array.length_toList]; rfl
    rw [← hl, headN] at e
    have h2 := (List.takeWhile_prefix (fun b : UInt8 => letterQ b.toNat) (l := s.data.toList)).eq_of_length e
    intro b hb
    rw [← h2] at hb
    exact takeWhile_all _ b hb
  have := this s[k] (by
    have : s[k] = s.data.toList[k]'(by simpa using h) := rfl
    rw [this]; exact List.getElem_mem _)
  rw [hq] at this; cases this

end Go.Proofs.Ytkoelibclihekaa
