/-
  Walks: how much a program holds, by the laws' own helpers.
-/
import Derived.Test.YtgmihgnbhjgghaaLawV
namespace Go.Proofs.Ytgmihgnbhjgghaa
open Go.RowKit

def szStrs (xs : List ByteArray) : Nat := xs.length + (xs.map ByteArray.size).sum
def szNd (x : Nd) : Nat := x.name.size + x.more.size + x.into.size + x.kids.length
def szNds (xs : List Nd) : Nat := xs.length + (xs.map szNd).sum
def szEn (x : En) : Nat := x.name.size + x.param.size
def szEns (xs : List En) : Nat := xs.length + (xs.map szEn).sum
def szMo (x : Mo) : Nat := x.name.size + szStrs x.vars + szStrs x.queues + szEns x.ents
def szMos (xs : List Mo) : Nat := xs.length + (xs.map szMo).sum
def szPr (x : Pr) : Nat := x.name.size + szStrs x.uses + szStrs x.vars
def szPrs (xs : List Pr) : Nat := xs.length + (xs.map szPr).sum
def szPg (x : Pg) : Nat := szNds x.nodes + szMos x.mons + szPrs x.pros

/-- What a reading says of lengths. -/
def IntsMax (xs : List Int) : Prop := xs.length ≤ maxLen
def StrsMax (xs : List ByteArray) : Prop := xs.length ≤ maxLen ∧ ∀ x ∈ xs, x.size ≤ maxLen
structure NdMax (x : Nd) : Prop where
  name : x.name.size ≤ maxLen
  more : x.more.size ≤ maxLen
  into : x.into.size ≤ maxLen
  kids : IntsMax x.kids
def NdsMax (xs : List Nd) : Prop := xs.length ≤ maxLen ∧ ∀ x ∈ xs, NdMax x
structure EnMax (x : En) : Prop where
  name : x.name.size ≤ maxLen
  param : x.param.size ≤ maxLen
def EnsMax (xs : List En) : Prop := xs.length ≤ maxLen ∧ ∀ x ∈ xs, EnMax x
structure MoMax (x : Mo) : Prop where
  name : x.name.size ≤ maxLen
  vars : StrsMax x.vars
  queues : StrsMax x.queues
  ents : EnsMax x.ents
def MosMax (xs : List Mo) : Prop := xs.length ≤ maxLen ∧ ∀ x ∈ xs, MoMax x
structure PrMax (x : Pr) : Prop where
  name : x.name.size ≤ maxLen
  uses : StrsMax x.uses
  vars : StrsMax x.vars
def PrsMax (xs : List Pr) : Prop := xs.length ≤ maxLen ∧ ∀ x ∈ xs, PrMax x
structure PgMax (x : Pg) : Prop where
  nodes : NdsMax x.nodes
  mons : MosMax x.mons
  pros : PrsMax x.pros

def SzR (w : World) (n : Nat) (l : Int) (f : Nat → Nat) (iv lv : Value) (wr : World) : Prop :=
  ∃ (k : Nat) (l' : Int), k ≤ n ∧ iv = .int .i64 k ∧ lv = .int .i64 l' ∧ 0 ≤ l' ∧ l' ≤ 1048576 ∧ Hid (l' + (n : Int) + (f k : Nat) = l) ∧ Hid (Below w.heap.size w wr)

end Go.Proofs.Ytgmihgnbhjgghaa
