/-
  Walks: Env copied, by the specification.
-/
import Derived.Test.YtgmihgnbhjgghaaFlE
import Derived.Test.YtgmihgnbhjgghaaCopP
import Derived.Test.YtgmihgnbhjgghaaEnvP
import Derived.BigQuiet
import Derived.Test.YtgmihgnbhjgghaaLinR
import Derived.Test.YtgmihgnbhjgghaaValW
import Derived.Test.YtgmihgnbhjgghaaMatP
import Derived.Lib.SliceRun
namespace Go.Proofs.Ytgmihgnbhjgghaa
open Go.RowKit

end Go.Proofs.Ytgmihgnbhjgghaa

namespace Go.Proofs.Ytgmihgnbhjgghaa
open Go.RowKit

def eqS (s y : ByteArray) : Bool := decide (y = s)
def GeR (W : World) (x : Ev) (s : ByteArray) (iv : Value) (wr : World) : Prop := ∃ i : Nat, i ≤ (x.names.take x.vals.length).length ∧ iv = .int .i64 i ∧ wr = W ∧ Hid (NoneTo (eqS s) (x.names.take x.vals.length) i)
theorem str_cmp (x s : ByteArray) : (x.toList == s.toList) = eqS s x := by
  by_cases h : x = s
  · rw [eqS, decide_eq_true h]; exact str_beq.2 h
  · rw [eqS, decide_eq_false h, Bool.eq_false_iff]; exact fun q => h (str_beq.1 q)

end Go.Proofs.Ytgmihgnbhjgghaa

namespace Go.Proofs.Ytgmihgnbhjgghaa
open Go.RowKit

/-- Whether a line is this place. -/
def isPlace (s : ByteArray) (x : Ln) : Bool := decide (x.op = 0) && eqS s x.label
def firstL (xs : List Ln) (s : ByteArray) : Int := firstAt (isPlace s) xs
def isWord (x : Ln) : Bool := decide (x.op ≠ 0)
def countL (xs : List Ln) : Int := ((xs.filter isWord).length : Int)
def placeL (xs : List Ln) (s : ByteArray) : Int := if firstL xs s < 0 then -1 else countL (xs.take (firstL xs s).toNat)
theorem count_take {xs : List Ln} {i : Nat} (h : i < xs.length) : countL (xs.take (i + 1)) = countL (xs.take i) + if xs[i].op = 0 then 0 else 1 := by
  unfold countL isWord
  rw [List.take_succ_eq_append_getElem h, List.filter_append]
  by_cases e : xs[i].op = 0 <;> simp [e]
theorem count_le (xs : List Ln) : 0 ≤ countL xs ∧ countL xs ≤ xs.length := by
  unfold countL
  have := List.length_filter_le isWord xs
  omega
theorem firstL_le (xs : List Ln) (s : ByteArray) : -1 ≤ firstL xs s ∧ firstL xs s < (xs.length : Int) := first_le _ _
end Go.Proofs.Ytgmihgnbhjgghaa

namespace Go.Proofs.Ytgmihgnbhjgghaa
open Go.RowKit

/-- Several values appended to a row that is owned. -/
theorem wpList_appN {P : Program} {w : World} {ops : Array Oper} {rest : List Oper} {o : Oper} {a : Act} {Q : Exit → Act → World → Prop} (hgd : o.guard = none) (s x : Operand) (t : TypeId)
    (ho : o.op = .call { callee := .builtin .append, args := #[s, x], argTypes := #[t, t] })
    (base : Nat) (e : TypeId) (z : Value) (bytes : Nat) (ht : P.underlying t = some (.slice e)) (hi : (P.info? e).map (fun i => (i.zero, i.size, i.bytes)) = some (some z, 1, bytes)) (hzs : z.cells.size = 1)
    (v : Value) (n : Nat) (xs : List Value) (hs : a.eval s = v) (hown : w.ownsRow base e 1 v n xs)
    (ad : Addr) (m c : Nat) (news : List Value) (hx : a.eval x = .slice (some ad) m c) (hl : news.length = m) (hnews : ∀ j u, news[j]? = some u → w.cell? (ad.add j) = some u) (h1 : ∀ u ∈ news, u.oneCell' = true)
    (h63 : n + m ≤ maxLen) (hbytes : (n + m) * bytes ≤ 140737488355328) (hbase : base ≤ w.heap.size)
    (h : ∀ v' w', w'.ownsRow base e 1 v' (n + m) (xs ++ news) → Below base w w' → wpList P ops Q rest (a.put o.dst v') w') : wpList P ops Q (o :: rest) a w := by
  obtain ⟨i, hi, hz0, hz1, hz2⟩ := info_parts hi
  refine wpList_append_own _ hgd s x t ho base e i z 1 bytes ht hi hz0 hz1 hz2 hzs (by decide) v n xs hs hown ad m c news hx (by omega) hnews h1 h63 hbytes hbase ?_
  intro v' w' hown' hgrow _
  exact h v' w' hown' ((Below.refl base w).grown hgrow hbase (fun j hj => (hown.lt j hj).1))
theorem owns_none {w : World} {B : Nat} {e : TypeId} : w.ownsRow B e 1 (.slice none 0 0) 0 [] := ⟨rfl, .inl ⟨rfl, rfl⟩⟩


theorem str_cmp' (x s : ByteArray) : (s.toList == x.toList) = eqS s x := by
  by_cases h : x = s
  · rw [eqS, decide_eq_true h]; exact str_beq.2 h.symm
  · rw [eqS, decide_eq_false h, Bool.eq_false_iff]; exact fun q => h (str_beq.1 q).symm
def IxR (w : World) (xs : List ByteArray) (s : ByteArray) (iv : Value) (wr : World) : Prop :=
  ∃ i : Nat, i ≤ xs.length ∧ iv = .int .i64 i ∧ wr = w ∧ Hid (NoneTo (eqS s) xs i)

theorem first_mem (xs : List ByteArray) (s : ByteArray) : decide (0 ≤ firstAt (eqS s) xs) = memB xs s := by
  by_cases h : s ∈ xs
  · rw [memB_iff.2 h]
    apply decide_eq_true
    rw [firstAt]
    split
    · omega
    · rename_i e
      have := List.findIdx?_eq_none_iff.1 e s h
      simp [eqS] at this
  · rw [memB_no.2 h]
    apply decide_eq_false
    rw [firstAt]
    split
    · rename_i i e
      obtain ⟨hi, hx, _⟩ := List.findIdx?_eq_some_iff_getElem.1 e
      have : xs[i] = s := of_decide_eq_true hx
      exact absurd (this ▸ List.getElem_mem hi) h
    · omega

end Go.Proofs.Ytgmihgnbhjgghaa
