/-
  Walks: two programs that are the same, held against each other by the laws' own helpers.
-/
import Derived.Test.YtlfhoeogjipakaaLawV
import Derived.Deep.RegionHeld3
namespace Go.Proofs.Ytlfhoeogjipakaa
open Go.RowKit

def SameR (w : World) (n : Nat) (iv : Value) (wr : World) : Prop := ∃ i : Nat, i ≤ n ∧ iv = .int .i64 i ∧ Hid (Below w.heap.size w wr)
/-- The boxes of two things of one type. -/
structure TwoB (w : World) (A B : Array Value) (t : TypeId) (z : World) : Prop where
  bA : Box z w.heap.size A t
  bB : Box z (w.heap.size + 1) B t
  bel : Below w.heap.size w z
theorem TwoB.start (w : World) (A B : Array Value) (t : TypeId) : TwoB w A B t ((w.alloc (.cells A t)).alloc (.cells B t)) :=
  ⟨(Box.made w _ _).stays ((Below.refl _ _).alloc (Nat.le_refl _) _), Box.madeAt (by simp) _ _, by go_grown⟩
theorem TwoB.stays {w : World} {A B : Array Value} {t : TypeId} {z z' : World} (h : TwoB w A B t z) (hb : Below z.heap.size z z') : TwoB w A B t z' :=
  ⟨h.bA.stays hb, h.bB.stays hb, h.bel.trans (hb.mono h.bel.size)⟩

set_option maxHeartbeats 1000000 in
theorem eqIntS_same (v1 v2 : Value) (xs : List Int) (w : World) (h1 : IntsAt w v1 xs) (h2 : IntsAt w v2 xs) (hl : xs.length ≤ 1048576) :
    Calls Try.prog 8 #[v1, v2] w fun e w' => e = .returned (.bool true) ∧ Below w.heap.size w w' := by
  have H1 := hide h1
  have H2 := hide h2
  obtain ⟨ao, c, rfl, _⟩ := h1
  obtain ⟨bo, d, rfl, _⟩ := h2
  obtain ⟨n, en⟩ : ∃ n, xs.length = n := ⟨_, rfl⟩
  have EN := hide en
  rw [en] at H1 H2 hl ⊢
  clear en
  go_enter Try.func8, Try.ntmps8
  go_wp2
  go_loopw [5] (SameR w n) (fun iv _ => n - (intOf iv).toNat)
  case atStart => exact ⟨0, by omega, rfl, Below.refl _ _⟩
  case round =>
    obtain ⟨i, hi, rfl, HB2⟩ := hrel
    by_cases hlt : i < n
    · have hlt' : (i : Int) < (n : Int) := by omega
      have hi0 : (0 : Int) ≤ (i : Int) := by omega
      have hix : i < xs.length := by rw [EN.out]; exact hlt
      obtain ⟨ao', c', e1, hc1⟩ := H1.out.stays HB2.out
      injection e1 with e2 e3 e4
      subst e2
      obtain ⟨bo', d', e1, hc2⟩ := H2.out.stays HB2.out
      injection e1 with e2 e5 e6
      subst e2
      obtain ⟨a, rfl, _, hx⟩ := hc1 i hix
      obtain ⟨b, rfl, _, hy⟩ := hc2 i hix
      obtain ⟨x, ex⟩ : ∃ x, xs[i] = x := ⟨_, rfl⟩
      rw [ex] at hx hy
      clear ex hc1 hc2 e3 e4 e5 e6
      go_wp2
      go_region
      all_goals go_wp2
      go_roundw
      case rel => exact ⟨i + 1, by omega, by go_num, HB2.out.drew⟩
      case measure => simp [intOf]; omega
    · have hlt' : ¬ (i : Int) < (n : Int) := by omega
      go_wp2
      go_ret
      exact ⟨rfl, HB2.out⟩
end Go.Proofs.Ytlfhoeogjipakaa

namespace Go.Proofs.Ytlfhoeogjipakaa
open Go.RowKit

def szStrs (xs : List ByteArray) : Nat := xs.length + (xs.map ByteArray.size).sum
def szNd (x : Nd) : Nat := x.name.size + x.more.size + x.into.size + x.kids.length
def szNds (xs : List Nd) : Nat := xs.length + (xs.map szNd).sum
def szEn (x : En) : Nat := x.name.size + x.param.size
def szEns (xs : List En) : Nat := xs.length + (xs.map szEn).sum
def szMo (x : Mo) : Nat := x.name.size + szStrs x.vars + szStrs x.queues + szEns x.ents
def szMos (xs : List Mo) : Nat := xs.length + (xs.map szMo).sum
def szPr (x : Pr) : Nat := x.name.size + szStrs x.uses + szStrs x.vars
def szPrs (xs : List Pr) : Nat := xs.length + (xs.map szPr).sum
def szPg (x : Pg) : Nat := szNds x.nodes + szMos x.mons + szPrs x.pros

/-- What a reading says of lengths. -/
def IntsMax (xs : List Int) : Prop := xs.length ≤ maxLen
def StrsMax (xs : List ByteArray) : Prop := xs.length ≤ maxLen ∧ ∀ x ∈ xs, x.size ≤ maxLen
structure NdMax (x : Nd) : Prop where
  name : x.name.size ≤ maxLen
  more : x.more.size ≤ maxLen
  into : x.into.size ≤ maxLen
  kids : IntsMax x.kids
def NdsMax (xs : List Nd) : Prop := xs.length ≤ maxLen ∧ ∀ x ∈ xs, NdMax x
structure EnMax (x : En) : Prop where
  name : x.name.size ≤ maxLen
  param : x.param.size ≤ maxLen
def EnsMax (xs : List En) : Prop := xs.length ≤ maxLen ∧ ∀ x ∈ xs, EnMax x
structure MoMax (x : Mo) : Prop where
  name : x.name.size ≤ maxLen
  vars : StrsMax x.vars
  queues : StrsMax x.queues
  ents : EnsMax x.ents
def MosMax (xs : List Mo) : Prop := xs.length ≤ maxLen ∧ ∀ x ∈ xs, MoMax x
structure PrMax (x : Pr) : Prop where
  name : x.name.size ≤ maxLen
  uses : StrsMax x.uses
  vars : StrsMax x.vars
def PrsMax (xs : List Pr) : Prop := xs.length ≤ maxLen ∧ ∀ x ∈ xs, PrMax x
structure PgMax (x : Pg) : Prop where
  nodes : NdsMax x.nodes
  mons : MosMax x.mons
  pros : PrsMax x.pros

def SzR (w : World) (n : Nat) (l : Int) (f : Nat → Nat) (iv lv : Value) (wr : World) : Prop :=
  ∃ (k : Nat) (l' : Int), k ≤ n ∧ iv = .int .i64 k ∧ lv = .int .i64 l' ∧ 0 ≤ l' ∧ l' ≤ 1048576 ∧ Hid (l' + (n : Int) + (f k : Nat) = l) ∧ Hid (Below w.heap.size w wr)

end Go.Proofs.Ytlfhoeogjipakaa
