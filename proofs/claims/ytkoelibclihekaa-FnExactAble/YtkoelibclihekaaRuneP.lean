/-
  Runes of a text, byte by byte: no byte below 128 lies inside a rune; how many bytes at a text's beginning are of a kind.
-/
import Derived.Test.YtkoelibclihekaaAid
import Derived.Lib.DecodeN
import Derived.Laws.RangeAny
import Derived.Test.YtkoelibclihekaaChecked
import Derived.BigQuiet
import Derived.WalkSmall
import Derived.Test.YtkoelibclihekaaCopG
import Derived.Deep.RegionHeld3
import Derived.Test.YtkoelibclihekaaFlE
import Derived.Test.YtkoelibclihekaaAppQ
namespace Go.Proofs.Ytkoelibclihekaa
open Go.RowKit

theorem get_bang (s : ByteArray) (j : Nat) (h : j < s.size) : s.get! j = s[j] := by
  simp [ByteArray.get!, getElem!_pos, h]
  rfl

theorem decodeN_span (n b0 b1 b2 b3 : Nat) (hn : 0 < n) : (Lib.decodeN n b0 b1 b2 b3).2 ≤ n ∧ (1 < (Lib.decodeN n b0 b1 b2 b3).2 → 128 ≤ b1) ∧ (2 < (Lib.decodeN n b0 b1 b2 b3).2 → 128 ≤ b2) ∧ (3 < (Lib.decodeN n b0 b1 b2 b3).2 → 128 ≤ b3) ∧ (Lib.decodeN n b0 b1 b2 b3).2 ≤ 4 := by
  unfold Lib.decodeN
  repeat' split
  all_goals (simp only []; omega)

/-- What a rune takes lies in the text, and all of its bytes but the first are 128 or above. -/
theorem decode_span (s : ByteArray) (pos : Nat) (h : pos < s.size) : pos + (Utf8.decode s pos).2 ≤ s.size ∧ ∀ j, 0 < j → j < (Utf8.decode s pos).2 → ∀ hj : pos + j < s.size, 128 ≤ s[pos + j].toNat := by
  rw [Lib.decode_at]
  obtain ⟨h1, a1, a2, a3, h4⟩ := decodeN_span (s.size - pos) (s.get! pos).toNat (s.get! (pos + 1)).toNat (s.get! (pos + 2)).toNat (s.get! (pos + 3)).toNat (by omega)
  refine ⟨by omega, fun j h0 hj hl => ?_⟩
  have : j = 1 ∨ j = 2 ∨ j = 3 := by omega
  rcases this with rfl | rfl | rfl
  · rw [← get_bang]; exact a1 hj
  · rw [← get_bang]; exact a2 hj
  · rw [← get_bang]; exact a3 hj

/-- How many bytes at the beginning are of a kind. -/
def headN (q : Nat → Bool) (l : List UInt8) : Nat := (l.takeWhile fun b => q b.toNat).length

theorem headN_le (q : Nat → Bool) (l : List UInt8) : headN q l ≤ l.length := by
  unfold headN
  exact (List.takeWhile_prefix _).length_le

theorem headN_at (q : Nat → Bool) : ∀ (l : List UInt8) (k : Nat), (∀ j, j < k → ∃ b, l[j]? = some b ∧ q b.toNat = true) → (k = l.length ∨ ∃ b, l[k]? = some b ∧ q b.toNat = false) → headN q l = k
  | [], k, _, h => by
    rcases h with h | ⟨b, hb, _⟩
    · simp at h; subst h; rfl
    · simp at hb
  | x :: l, 0, _, h => by
    rcases h with h | ⟨b, hb, hq⟩
    · simp at h
    · simp at hb; subst hb
      simp [headN, hq]
  | x :: l, k + 1, hA, h => by
    obtain ⟨b, hb, hq⟩ := hA 0 (by omega)
    simp at hb; subst hb
    have := headN_at q l k (fun j hj => by simpa using hA (j + 1) (by omega)) (by
      rcases h with h | h
      · simp at h; exact .inl h
      · simpa using .inr h)
    simp [headN, hq] at this ⊢
    exact this

theorem headN_in (q : Nat → Bool) (s : ByteArray) (k : Nat) (hA : ∀ j, j < k → ∀ h : j < s.size, q s[j].toNat = true) (hk : k ≤ s.size) (h : k = s.size ∨ ∃ hk : k < s.size, q s[k].toNat = false) : headN q s.data.toList = k := by
  have hl : s.data.toList.length = s.size := by rw [Array.length_toList]; rfl
  have hg : ∀ j (hj : j < s.size), s.data.toList[j]? = some s[j] := fun j hj => by
    rw [List.getElem?_eq_getElem (by omega)]; rfl
  refine headN_at q _ k (fun j hj => ⟨_, hg j (by omega), hA j hj (by omega)⟩) ?_
  rcases h with h | ⟨hk, h⟩
  · exact .inl (by omega)
  · exact .inr ⟨_, hg k hk, h⟩

theorem index_str9 {P : Program} {t : TypeId} (ht : P.underlying t = some .string) (s : ByteArray) (k : Nat) (h : k < s.size) (w : World) :
    (Instr.index t (.string s) (.int .i64 (k : Int))).run P w = .ok (.int .u8 (s[k].toNat : Int)) w := by
  simp [go_sem, ht, h]

/-- The kinds. -/
def letterQ (r : Nat) : Bool := decide (97 ≤ r ∧ r ≤ 122)
def figureQ (r : Nat) : Bool := decide (48 ≤ r ∧ r ≤ 57)
def blankQ (r : Nat) : Bool := decide (r = 32 ∨ r = 10)
def lineQ (r : Nat) : Bool := decide (r ≠ 10)
end Go.Proofs.Ytkoelibclihekaa

namespace Go.Proofs.Ytkoelibclihekaa
open Go.RowKit

end Go.Proofs.Ytkoelibclihekaa

namespace Go.Proofs.Ytkoelibclihekaa
open Go.RowKit

def sizeB (s : ByteArray) : Bool := decide (1 ≤ s.size ∧ s.size ≤ 8)
def lettersB (s : ByteArray) : Bool := decide (headN letterQ s.data.toList = s.size)
def nameB (s : ByteArray) : Bool := sizeB s && (lettersB s && !keyB s)

theorem takeWhile_all {α : Type} {p : α → Bool} : ∀ (l : List α) (b : α), b ∈ l.takeWhile p → p b = true
  | [], b, h => by simp at h
  | x :: l, b, h => by
    rw [List.takeWhile_cons] at h
    split at h
    · rename_i hx
      rcases List.mem_cons.1 h with rfl | h
      · exact hx
      · exact takeWhile_all l b h
    · simp at h
theorem lettersB_no {s : ByteArray} {k : Nat} (h : k < s.size) (hq : letterQ s[k].toNat = false) : lettersB s = false := by
  rw [lettersB, decide_eq_false_iff_not]
  intro e
  have : ∀ b ∈ s.data.toList, letterQ b.toNat = true := by
    have hl : s.data.toList.length = s.size := by rw [Array.length_toList]; rfl
    rw [← hl, headN] at e
    have h2 := (List.takeWhile_prefix (fun b : UInt8 => letterQ b.toNat) (l := s.data.toList)).eq_of_length e
    intro b hb
    rw [← h2] at hb
    exact takeWhile_all _ b hb
  have := this s[k] (by
    have : s[k] = s.data.toList[k]'(by simpa using h) := rfl
    rw [this]; exact List.getElem_mem _)
  rw [hq] at this; cases this

end Go.Proofs.Ytkoelibclihekaa

namespace Go.Proofs.Ytkoelibclihekaa
open Go.RowKit

/-- Where a name stands first, with a value beside it. -/
def atE (x : Ev) (s : ByteArray) : Int := firstAt (fun y => decide (y = s)) (x.names.take x.vals.length)
def getE (x : Ev) (s : ByteArray) : Int := if 0 ≤ atE x s then x.vals.getD (atE x s).toNat 0 else 0
def putE (x : Ev) (s : ByteArray) (n : Int) : Ev := if vok n = true ∧ 0 ≤ atE x s then { x with vals := x.vals.set (atE x s).toNat n } else x
/-- Those of the first so many of b that a has not. -/
def selE (a b : Ev) (i : Nat) : List (ByteArray × Int) := ((b.names.zip b.vals).take i).filter fun p => !memB a.names p.1
def togTo (a b : Ev) (i : Nat) : Ev := ⟨a.names ++ (selE a b i).map Prod.fst, a.vals ++ (selE a b i).map Prod.snd⟩
def togE (a b : Ev) : Ev := togTo a b (min b.names.length b.vals.length)
noncomputable def envOkB (x : Ev) : Bool := decide (x.names.length = x.vals.length) && decide (x.names.length ≤ 8) &&
  (List.range x.names.length).all fun i => nameB (x.names.getD i default) && vok (x.vals.getD i 0) && !memB (x.names.take i) (x.names.getD i default)
theorem putE_len {x : Ev} (h : szEv x ≤ 1048576) (s : ByteArray) (n : Int) : EvLen (putE x s n) := by
  have := szEv_len h
  unfold putE
  split
  · exact ⟨this.l0, by rw [List.length_set]; exact this.l1⟩
  · exact this
theorem selE_len (a b : Ev) (i : Nat) : (selE a b i).length ≤ i := by
  unfold selE
  have h1 := List.length_filter_le (fun p : ByteArray × Int => !memB a.names p.1) ((b.names.zip b.vals).take i)
  rw [List.length_take] at h1
  omega
theorem togE_len {a b : Ev} (h : szEv a + szEv b ≤ 1048576) : EvLen (togE a b) := by
  have h1 := selE_len a b (min b.names.length b.vals.length)
  unfold szEv szStrs at h
  refine ⟨?_, ?_⟩
  · show (a.names ++ _).length ≤ _
    rw [List.length_append, List.length_map]
    omega
  · show (a.vals ++ _).length ≤ _
    rw [List.length_append, List.length_map]
    omega
end Go.Proofs.Ytkoelibclihekaa

namespace Go.Proofs.Ytkoelibclihekaa
open Go.RowKit

structure CpEv (w W : World) (a : Array Value) (z : World) : Prop where
  bA : Box z w.heap.size a 61
  bR : ∃ r0 r1, Box z (w.heap.size + 1) #[r0, r1] 61
  bel : Below w.heap.size w z
  le : w.heap.size + 2 ≤ z.heap.size
theorem CpEv.go {w W : World} {a : Array Value} {z z' : World} (h : CpEv w W a z) (hb : Below (w.heap.size + 2) z z') : CpEv w W a z' :=
  ⟨(hb.block _ (by omega)).trans h.bA, by
    obtain ⟨r0, r1, hr⟩ := h.bR
    exact ⟨r0, r1, (hb.block _ (by omega)).trans hr⟩, h.bel.trans (hb.mono (by omega)), Nat.le_trans h.le hb.size⟩
theorem CpEv.store {w W : World} {a : Array Value} {z : World} (h : CpEv w W a z) (t0 t1 : Value) : CpEv w W a (((z.setCell ⟨w.heap.size + 1, 0, none⟩ t0).setCell ⟨w.heap.size + 1, 1, none⟩ t1)) ∧ Box (((z.setCell ⟨w.heap.size + 1, 0, none⟩ t0).setCell ⟨w.heap.size + 1, 1, none⟩ t1)) (w.heap.size + 1) #[t0, t1] 61 := by
  obtain ⟨r0, r1, hr⟩ := h.bR
  have hs : Box (((z.setCell ⟨w.heap.size + 1, 0, none⟩ t0).setCell ⟨w.heap.size + 1, 1, none⟩ t1)) (w.heap.size + 1) #[t0, t1] 61 := by simpa using ((hr.set 0 t0).set 1 t1)
  refine ⟨⟨?_, ⟨t0, t1, hs⟩, ?_, ?_⟩, hs⟩
  · exact ((h.bA.other ⟨w.heap.size + 1, 0, none⟩ t0 (by show w.heap.size ≠ _; simp)).other ⟨w.heap.size + 1, 1, none⟩ t1 (by show w.heap.size ≠ _; simp))
  · exact ((h.bel.setCell (p := ⟨w.heap.size + 1, 0, none⟩) (by show w.heap.size ≤ w.heap.size + 1; omega) t0).setCell (p := ⟨w.heap.size + 1, 1, none⟩) (by show w.heap.size ≤ w.heap.size + 1; omega) t1)
  · have := h.le
    simpa [World.setCell] using this

end Go.Proofs.Ytkoelibclihekaa

namespace Go.Proofs.Ytkoelibclihekaa
open Go.RowKit

def eqS (s y : ByteArray) : Bool := decide (y = s)
def GeR (W : World) (x : Ev) (s : ByteArray) (iv : Value) (wr : World) : Prop := ∃ i : Nat, i ≤ (x.names.take x.vals.length).length ∧ iv = .int .i64 i ∧ wr = W ∧ Hid (NoneTo (eqS s) (x.names.take x.vals.length) i)
theorem str_cmp (x s : ByteArray) : (x.toList == s.toList) = eqS s x := by
  by_cases h : x = s
  · rw [eqS, decide_eq_true h]; exact str_beq.2 h
  · rw [eqS, decide_eq_false h, Bool.eq_false_iff]; exact fun q => h (str_beq.1 q)

end Go.Proofs.Ytkoelibclihekaa

namespace Go.Proofs.Ytkoelibclihekaa
open Go.RowKit

/-- While an Env is put together: what came in, the result, the copy under way. -/
structure PuZ (w : World) (v0 v1 : Value) (G : Nat) (r0 r1 : Value) (x : Ev) (z : World) : Prop where
  bA : Box z w.heap.size #[v0, v1] 61
  bR : ∃ a b, Box z (w.heap.size + 1) #[a, b] 61
  bO : Box z G #[r0, r1] 61
  own : EvOwn (w.heap.size + 2) z r0 r1 x
  bel : Below w.heap.size w z
theorem PuZ.fin {w : World} {v0 v1 : Value} {G : Nat} {r0 r1 : Value} {x : Ev} {z : World} (h : PuZ w v0 v1 G r0 r1 x z) :
    Box ((z.setCell ⟨w.heap.size + 1, 0, none⟩ r0).setCell ⟨w.heap.size + 1, 1, none⟩ r1) (w.heap.size + 1) #[r0, r1] 61 ∧ EvOwn w.heap.size ((z.setCell ⟨w.heap.size + 1, 0, none⟩ r0).setCell ⟨w.heap.size + 1, 1, none⟩ r1) r0 r1 x ∧ Below w.heap.size w ((z.setCell ⟨w.heap.size + 1, 0, none⟩ r0).setCell ⟨w.heap.size + 1, 1, none⟩ r1) := by
  obtain ⟨a, b, hr⟩ := h.bR
  have e : ∀ g, w.heap.size + 2 ≤ g → ((z.setCell ⟨w.heap.size + 1, 0, none⟩ r0).setCell ⟨w.heap.size + 1, 1, none⟩ r1).heap[g]? = z.heap[g]? := fun g hg =>
    (Below.heap_setCell _ ⟨w.heap.size + 1, 1, none⟩ _ g (by show g ≠ w.heap.size + 1; omega)).trans (Below.heap_setCell _ ⟨w.heap.size + 1, 0, none⟩ _ g (by show g ≠ w.heap.size + 1; omega))
  refine ⟨by simpa using (hr.set 0 r0).set 1 r1, ⟨owns_lo (owns_eq h.own.o0 fun g hg => e g (h.own.o0.lt g hg).1) (by omega), owns_lo (owns_eq h.own.o1 fun g hg => e g (h.own.o1.lt g hg).1) (by omega), h.own.ap⟩, (h.bel.setCell (p := ⟨w.heap.size + 1, 0, none⟩) (by show w.heap.size ≤ w.heap.size + 1; omega) r0).setCell (p := ⟨w.heap.size + 1, 1, none⟩) (by show w.heap.size ≤ w.heap.size + 1; omega) r1⟩
def PuR (W : World) (x : Ev) (F : Nat → Prop) (iv : Value) (wr : World) : Prop := ∃ i : Nat, i ≤ (x.names.take x.vals.length).length ∧ iv = .int .i64 i ∧ wr = W ∧ Hid (F i)

end Go.Proofs.Ytkoelibclihekaa

namespace Go.Proofs.Ytkoelibclihekaa
open Go.RowKit

def InR (w : World) (xs : List ByteArray) (s : ByteArray) (n : Nat) (iv : Value) (wr : World) : Prop := ∃ i : Nat, i ≤ n ∧ iv = .int .i64 i ∧ wr = w ∧ Hid (∀ j, j < i → xs[j]? ≠ some s)

end Go.Proofs.Ytkoelibclihekaa
