/-
  Runes of a text, byte by byte: no byte below 128 lies inside a rune; how many bytes at a text's beginning are of a kind.
-/
import Derived.Test.YtmchgmpdhfefjaaAid
import Derived.Lib.DecodeN
import Derived.Laws.RangeAny
import Derived.Test.YtmchgmpdhfefjaaChecked
import Derived.BigQuiet
import Derived.WalkSmall
import Derived.Test.YtmchgmpdhfefjaaFlE
import Derived.Deep.RegionHeld3
import Derived.Test.YtmchgmpdhfefjaaCopP
import Derived.Test.YtmchgmpdhfefjaaFlG
import Derived.Deep.CutRange
import Derived.Deep.RegionLaw
namespace Go.Proofs.Ytmchgmpdhfefjaa
open Go.RowKit

theorem get_bang (s : ByteArray) (j : Nat) (h : j < s.size) : s.get! j = s[j] := by
  simp [ByteArray.get!, getElem!_pos, h]
  rfl

theorem decodeN_span (n b0 b1 b2 b3 : Nat) (hn : 0 < n) : (Lib.decodeN n b0 b1 b2 b3).2 ≤ n ∧ (1 < (Lib.decodeN n b0 b1 b2 b3).2 → 128 ≤ b1) ∧ (2 < (Lib.decodeN n b0 b1 b2 b3).2 → 128 ≤ b2) ∧ (3 < (Lib.decodeN n b0 b1 b2 b3).2 → 128 ≤ b3) ∧ (Lib.decodeN n b0 b1 b2 b3).2 ≤ 4 := by
  unfold Lib.decodeN
  repeat' split
  all_goals (simp only []; omega)

/-- What a rune takes lies in the text, and all of its bytes but the first are 128 or above. -/
theorem decode_span (s : ByteArray) (pos : Nat) (h : pos < s.size) : pos + (Utf8.decode s pos).2 ≤ s.size ∧ ∀ j, 0 < j → j < (Utf8.decode s pos).2 → ∀ hj : pos + j < s.size, 128 ≤ s[pos + j].toNat := by
  rw [Lib.decode_at]
  obtain ⟨h1, a1, a2, a3, h4⟩ := decodeN_span (s.size - pos) (s.get! pos).toNat (s.get! (pos + 1)).toNat (s.get! (pos + 2)).toNat (s.get! (pos + 3)).toNat (by omega)
  refine ⟨by omega, fun j h0 hj hl => ?_⟩
  have : j = 1 ∨ j = 2 ∨ j = 3 := by omega
  rcases this with rfl | rfl | rfl
  · rw [← get_bang]; exact a1 hj
  · rw [← get_bang]; exact a2 hj
  · rw [← get_bang]; exact a3 hj

/-- How many bytes at the beginning are of a kind. -/
def headN (q : Nat → Bool) (l : List UInt8) : Nat := (l.takeWhile fun b => q b.toNat).length

theorem headN_le (q : Nat → Bool) (l : List UInt8) : headN q l ≤ l.length := by
  unfold headN
  exact (List.takeWhile_prefix _).length_le

theorem headN_at (q : Nat → Bool) : ∀ (l : List UInt8) (k : Nat), (∀ j, j < k → ∃ b, l[j]? = some b ∧ q b.toNat = true) → (k = l.length ∨ ∃ b, l[k]? = some b ∧ q b.toNat = false) → headN q l = k
  | [], k, _, h => by
    rcases h with h | ⟨b, hb, _⟩
    · simp at h; subst h; rfl
    · simp at hb
  | x :: l, 0, _, h => by
    rcases h with h | ⟨b, hb, hq⟩
    · simp at h
    · simp at hb; subst hb
      simp [headN, hq]
  | x :: l, k + 1, hA, h => by
    obtain ⟨b, hb, hq⟩ := hA 0 (by omega)
    simp at hb; subst hb
    have := headN_at q l k (fun j hj => by simpa using hA (j + 1) (by omega)) (by
      rcases h with h | h
      · simp at h; exact .inl h
      · simpa using .inr h)
    simp [headN, hq] at this ⊢
    exact this

theorem headN_in (q : Nat → Bool) (s : ByteArray) (k : Nat) (hA : ∀ j, j < k → ∀ h : j < s.size, q s[j].toNat = true) (hk : k ≤ s.size) (h : k = s.size ∨ ∃ hk : k < s.size, q s[k].toNat = false) : headN q s.data.toList = k := by
  have hl : s.data.toList.length = s.size := by rw [Array.length_toList]; rfl
  have hg : ∀ j (hj : j < s.size), s.data.toList[j]? = some s[j] := fun j hj => by
    rw [List.getElem?_eq_getElem (by omega)]; rfl
  refine headN_at q _ k (fun j hj => ⟨_, hg j (by omega), hA j hj (by omega)⟩) ?_
  rcases h with h | ⟨hk, h⟩
  · exact .inl (by omega)
  · exact .inr ⟨_, hg k hk, h⟩

theorem index_str9 {P : Program} {t : TypeId} (ht : P.underlying t = some .string) (s : ByteArray) (k : Nat) (h : k < s.size) (w : World) :
    (Instr.index t (.string s) (.int .i64 (k : Int))).run P w = .ok (.int .u8 (s[k].toNat : Int)) w := by
  simp [go_sem, ht, h]

/-- The kinds. -/
def letterQ (r : Nat) : Bool := decide (97 ≤ r ∧ r ≤ 122)
def figureQ (r : Nat) : Bool := decide (48 ≤ r ∧ r ≤ 57)
def blankQ (r : Nat) : Bool := decide (r = 32 ∨ r = 10)
def lineQ (r : Nat) : Bool := decide (r ≠ 10)
end Go.Proofs.Ytmchgmpdhfefjaa

namespace Go.Proofs.Ytmchgmpdhfefjaa
open Go.RowKit

end Go.Proofs.Ytmchgmpdhfefjaa

namespace Go.Proofs.Ytmchgmpdhfefjaa
open Go.RowKit

def sizeB (s : ByteArray) : Bool := decide (1 ≤ s.size ∧ s.size ≤ 8)
def lettersB (s : ByteArray) : Bool := decide (headN letterQ s.data.toList = s.size)
def nameB (s : ByteArray) : Bool := sizeB s && (lettersB s && !keyB s)

theorem l01In_name (n : Nat) (w : World) (h : n ≤ 1048576) : Calls Try.prog 34 #[.int .i64 (n : Int), .int .i64 1, .int .i64 8] w fun e w' => e = .returned (.bool (decide (1 ≤ n ∧ n ≤ 8))) ∧ w' = w := by
  by_cases h1 : 1 ≤ n
  · have e : decide (1 ≤ n ∧ n ≤ 8) = decide ((n : Int) ≤ 8) := by simp only [decide_eq_decide]; omega
    rw [e]
    go_enter Try.func34, Try.ntmps34
    go_wp2
    go_ret
    exact ⟨rfl, rfl⟩
  · have e : decide (1 ≤ n ∧ n ≤ 8) = false := by simp; omega
    rw [e]
    go_enter Try.func34, Try.ntmps34
    go_wp2
    go_ret
    exact ⟨rfl, rfl⟩

theorem takeWhile_all {α : Type} {p : α → Bool} : ∀ (l : List α) (b : α), b ∈ l.takeWhile p → p b = true
  | [], b, h => by simp at h
  | x :: l, b, h => by
    rw [List.takeWhile_cons] at h
    split at h
    · rename_i hx
      rcases List.mem_cons.1 h with rfl | h
      · exact hx
      · exact takeWhile_all l b h
    · simp at h
theorem lettersB_no {s : ByteArray} {k : Nat} (h : k < s.size) (hq : letterQ s[k].toNat = false) : lettersB s = false := by
  rw [lettersB, decide_eq_false_iff_not]
  intro e
  have : ∀ b ∈ s.data.toList, letterQ b.toNat = true := by
    have hl : s.data.toList.length = s.size := by rw [Array.length_toList]; rfl
    rw [← hl, headN] at e
    have h2 := (List.takeWhile_prefix (fun b : UInt8 => letterQ b.toNat) (l := s.data.toList)).eq_of_length e
    intro b hb
    rw [← h2] at hb
    exact takeWhile_all _ b hb
  have := this s[k] (by
    have : s[k] = s.data.toList[k]'(by simpa using h) := rfl
    rw [this]; exact List.getElem_mem _)
  rw [hq] at this; cases this

end Go.Proofs.Ytmchgmpdhfefjaa

namespace Go.Proofs.Ytmchgmpdhfefjaa
open Go.RowKit

/-- Where a name stands first, with a value beside it. -/
def atE (x : Ev) (s : ByteArray) : Int := firstAt (fun y => decide (y = s)) (x.names.take x.vals.length)
def getE (x : Ev) (s : ByteArray) : Int := if 0 ≤ atE x s then x.vals.getD (atE x s).toNat 0 else 0
def putE (x : Ev) (s : ByteArray) (n : Int) : Ev := if vok n = true ∧ 0 ≤ atE x s then { x with vals := x.vals.set (atE x s).toNat n } else x
/-- Those of the first so many of b that a has not. -/
def selE (a b : Ev) (i : Nat) : List (ByteArray × Int) := ((b.names.zip b.vals).take i).filter fun p => !memB a.names p.1
def togTo (a b : Ev) (i : Nat) : Ev := ⟨a.names ++ (selE a b i).map Prod.fst, a.vals ++ (selE a b i).map Prod.snd⟩
def togE (a b : Ev) : Ev := togTo a b (min b.names.length b.vals.length)
noncomputable def envOkB (x : Ev) : Bool := decide (x.names.length = x.vals.length) && decide (x.names.length ≤ 8) &&
  (List.range x.names.length).all fun i => nameB (x.names.getD i default) && vok (x.vals.getD i 0) && !memB (x.names.take i) (x.names.getD i default)
theorem putE_len {x : Ev} (h : szEv x ≤ 1048576) (s : ByteArray) (n : Int) : EvLen (putE x s n) := by
  have := szEv_len h
  unfold putE
  split
  · exact ⟨this.l0, by rw [List.length_set]; exact this.l1⟩
  · exact this
theorem selE_len (a b : Ev) (i : Nat) : (selE a b i).length ≤ i := by
  unfold selE
  have h1 := List.length_filter_le (fun p : ByteArray × Int => !memB a.names p.1) ((b.names.zip b.vals).take i)
  rw [List.length_take] at h1
  omega
theorem togE_len {a b : Ev} (h : szEv a + szEv b ≤ 1048576) : EvLen (togE a b) := by
  have h1 := selE_len a b (min b.names.length b.vals.length)
  unfold szEv szStrs at h
  refine ⟨?_, ?_⟩
  · show (a.names ++ _).length ≤ _
    rw [List.length_append, List.length_map]
    omega
  · show (a.vals ++ _).length ≤ _
    rw [List.length_append, List.length_map]
    omega
end Go.Proofs.Ytmchgmpdhfefjaa

namespace Go.Proofs.Ytmchgmpdhfefjaa
open Go.RowKit

end Go.Proofs.Ytmchgmpdhfefjaa

namespace Go.Proofs.Ytmchgmpdhfefjaa
open Go.RowKit

def eqS (s y : ByteArray) : Bool := decide (y = s)
def GeR (W : World) (x : Ev) (s : ByteArray) (iv : Value) (wr : World) : Prop := ∃ i : Nat, i ≤ (x.names.take x.vals.length).length ∧ iv = .int .i64 i ∧ wr = W ∧ Hid (NoneTo (eqS s) (x.names.take x.vals.length) i)
theorem str_cmp (x s : ByteArray) : (x.toList == s.toList) = eqS s x := by
  by_cases h : x = s
  · rw [eqS, decide_eq_true h]; exact str_beq.2 h
  · rw [eqS, decide_eq_false h, Bool.eq_false_iff]; exact fun q => h (str_beq.1 q)

end Go.Proofs.Ytmchgmpdhfefjaa

namespace Go.Proofs.Ytmchgmpdhfefjaa
open Go.RowKit

def PuR (W : World) (x : Ev) (F : Nat → Prop) (iv : Value) (wr : World) : Prop := ∃ i : Nat, i ≤ (x.names.take x.vals.length).length ∧ iv = .int .i64 i ∧ wr = W ∧ Hid (F i)

end Go.Proofs.Ytmchgmpdhfefjaa

namespace Go.Proofs.Ytmchgmpdhfefjaa
open Go.RowKit

def InR (w : World) (xs : List ByteArray) (s : ByteArray) (n : Nat) (iv : Value) (wr : World) : Prop := ∃ i : Nat, i ≤ n ∧ iv = .int .i64 i ∧ wr = w ∧ Hid (∀ j, j < i → xs[j]? ≠ some s)

end Go.Proofs.Ytmchgmpdhfefjaa

namespace Go.Proofs.Ytmchgmpdhfefjaa
open Go.RowKit

theorem box_more {B e : Nat} {W w' : World} {v v' u : Value} {xs : List Value} (hm : MoreR B e W v xs u v' w') {b : Nat} {cs : Array Value} {T : TypeId} (hown : W.ownsRow B e 1 v xs.length xs) (hb : Box W b cs T) (hT : T ≠ e) : Box w' b cs T := (hm.oth b (Lib.ownBlock_ne hown hb hT) hb.lt).trans hb
theorem set_fst (a b v : Value) : (#[a, b] : Array Value).setIfInBounds 0 v = #[v, b] := rfl
theorem set_snd (a b v : Value) : (#[a, b] : Array Value).setIfInBounds 1 v = #[a, v] := rfl
end Go.Proofs.Ytmchgmpdhfefjaa

namespace Go.Proofs.Ytmchgmpdhfefjaa
open Go.RowKit
open Go.ChangeShapes Go.WideShapes Go.ChangeAt Go.Deep

def neg1 : Value := .int .i64 (-1)
theorem set_thd (a b c v : Value) : (#[a, b, c] : Array Value).setIfInBounds 2 v = #[a, b, v] := rfl
theorem wpList_more {P : Program} {W : World} {ops : Array Oper} {rest : List Oper} {o : Oper} {a : Act} {Q : Exit → Act → World → Prop} (hgd : o.guard = none) (s x : Operand) (t : TypeId)
    (ho : o.op = .call { callee := .builtin .append, args := #[s, x], argTypes := #[t, t] })
    (B : Nat) (e : TypeId) (z : Value) (bytes : Nat) (ht : P.underlying t = some (.slice e)) (hi : (P.info? e).map (fun i => (i.zero, i.size, i.bytes)) = some (some z, 1, bytes)) (hzs : z.cells.size = 1)
    (v : Value) (xs : List Value) (hs : a.eval s = v) (hown : W.ownsRow B e 1 v xs.length xs) (g : Nat) (u : Value) (hx : a.eval x = .slice (some ⟨g, 0, none⟩) 1 1) (hu : W.cell? ⟨g, 0, none⟩ = some u) (h1 : u.oneCell' = true)
    (h63 : xs.length + 1 ≤ maxLen) (hbytes : (xs.length + 1) * bytes ≤ 140737488355328) (hB : B ≤ W.heap.size)
    (h : ∀ v' w', MoreR B e W v xs u v' w' → wpList P ops Q rest (a.put o.dst v') w') : wpList P ops Q (o :: rest) a W :=
  wpList_step fun _ hK => step_more hgd s x t ho B e z bytes ht hi hzs v xs hs hown g u hx hu h1 h63 hbytes hB fun v' w' hm => hK _ _ (h v' w' hm)
end Go.Proofs.Ytmchgmpdhfefjaa
