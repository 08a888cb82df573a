/-
  Words of a machine: as functions.
-/
import Derived.Test.YtgmihgnbhjgghaaFlR
import Derived.Test.YtgmihgnbhjgghaaTreeP
import Derived.Test.YtgmihgnbhjgghaaBoxP
namespace Go.Proofs.Ytgmihgnbhjgghaa
open Go.RowKit

/-- The parts of a word. -/
structure In4 where
  op : Int
  a : Int
  b : Int
  c : Int
/-- What an Op asks of its parts. -/
def insArgs (op a b c : Int) : Bool :=
  if op = 1 then decide (c ≤ 1000000) else if op = 4 then inZ 1 9 c else if op = 5 then c == 0 else if op = 6 then c == 0 else if op = 8 then a == 0 else if op = 10 then inZ 1 7 a && b == 0 else true
/-- Whether it uses its second register. -/
def insTwo (op b : Int) : Bool := op == 4 || op == 10 || b == 0
def insB (op a b c : Int) : Bool := inZ 1 10 op && inZ 0 7 a && inZ 0 7 b && inZ 0 4194303 c && insTwo op b && insArgs op a b c
def encI (op a b c : Int) : Int := op * 268435456 + a * 33554432 + b * 4194304 + c
/-- The parts of a number. -/
def decOp (n : Int) : Int := n / 268435456
def decA (n : Int) : Int := n / 33554432 % 8
def decBb (n : Int) : Int := n / 4194304 % 8
def decC (n : Int) : Int := n % 4194304
def decB (n : Int) : Bool := inZ 0 8589934592 n && insB (decOp n) (decA n) (decBb n) (decC n)

theorem insB_in {op a b c : Int} (h : insB op a b c = true) : (1 ≤ op ∧ op ≤ 10) ∧ (0 ≤ a ∧ a ≤ 7) ∧ (0 ≤ b ∧ b ≤ 7) ∧ (0 ≤ c ∧ c ≤ 4194303) := by
  unfold insB at h
  simp only [Bool.and_eq_true, inZ_yes] at h
  exact ⟨h.1.1.1.1.1, h.1.1.1.1.2, h.1.1.1.2, h.1.1.2⟩
theorem dec_enc {op a b c : Int} (h : insB op a b c = true) : decOp (encI op a b c) = op ∧ decA (encI op a b c) = a ∧ decBb (encI op a b c) = b ∧ decC (encI op a b c) = c ∧ inZ 0 8589934592 (encI op a b c) = true := by
  have := insB_in h
  unfold decOp decA decBb decC encI
  rw [inZ_yes]
  omega
theorem decB_enc {op a b c : Int} (h : insB op a b c = true) : decB (encI op a b c) = true := by
  obtain ⟨h1, h2, h3, h4, h5⟩ := dec_enc h
  unfold decB
  rw [h1, h2, h3, h4, h5, h]
  rfl
theorem enc_dec (n : Int) : encI (decOp n) (decA n) (decBb n) (decC n) = n := by
  unfold decOp decA decBb decC encI
  omega
end Go.Proofs.Ytgmihgnbhjgghaa

namespace Go.Proofs.Ytgmihgnbhjgghaa
open Go.RowKit

/-- A struct in a box and a value. -/
theorem box_retV {P : Program} {fn : Func} {p q : Tmp} {ty : TypeId} {Q : Ending → World → Prop} {a : Act} {w : World} {g : Nat} {cs : Array Value} {t : TypeId} (hr : fn.results = #[.cell p ty, .tmp q]) (hp : a.tmps.getD p undef = .pointer (some ⟨g, 0, none⟩)) (hb : Box w g cs t)
    (d : TypeDesc) (hu : P.underlying ty = some d) (hd : d.isRow = true) (hi : (P.info? ty).map (·.size) = some cs.size) (hdf : a.defers = []) (h : Q (.returned (.tuple #[.agg cs, a.tmps.getD q undef])) w) : bodyPost P fn Q .ret a w := by
  refine bodyPost_ret (v := .tuple #[.agg cs, a.tmps.getD q undef]) ?_ hdf h
  have hl := hb.read ty d hu hd hi
  have hp' : a.tmps[p]?.getD undef = .pointer (some ⟨g, 0, none⟩) := by simpa using hp
  simp only [results, hr]
  simp [hp', asAddr, hl]
/-- A struct in a box and two values. -/
theorem box_retVV {P : Program} {fn : Func} {p q q' : Tmp} {ty : TypeId} {Q : Ending → World → Prop} {a : Act} {w : World} {g : Nat} {cs : Array Value} {t : TypeId} (hr : fn.results = #[.cell p ty, .tmp q, .tmp q']) (hp : a.tmps.getD p undef = .pointer (some ⟨g, 0, none⟩)) (hb : Box w g cs t)
    (d : TypeDesc) (hu : P.underlying ty = some d) (hd : d.isRow = true) (hi : (P.info? ty).map (·.size) = some cs.size) (hdf : a.defers = []) (h : Q (.returned (.tuple #[.agg cs, a.tmps.getD q undef, a.tmps.getD q' undef])) w) : bodyPost P fn Q .ret a w := by
  refine bodyPost_ret (v := .tuple #[.agg cs, a.tmps.getD q undef, a.tmps.getD q' undef]) ?_ hdf h
  have hl := hb.read ty d hu hd hi
  have hp' : a.tmps[p]?.getD undef = .pointer (some ⟨g, 0, none⟩) := by simpa using hp
  simp only [results, hr]
  simp [hp', asAddr, hl]
/-- Two structs in boxes. -/
theorem box_retBB {P : Program} {fn : Func} {p p' : Tmp} {ty ty' : TypeId} {Q : Ending → World → Prop} {a : Act} {w : World} {g g' : Nat} {cs cs' : Array Value} {t t' : TypeId} (hr : fn.results = #[.cell p ty, .cell p' ty']) (hp : a.tmps.getD p undef = .pointer (some ⟨g, 0, none⟩)) (hq : a.tmps.getD p' undef = .pointer (some ⟨g', 0, none⟩)) (hb : Box w g cs t) (hb' : Box w g' cs' t')
    (d d' : TypeDesc) (hu : P.underlying ty = some d) (hu' : P.underlying ty' = some d') (hd : d.isRow = true) (hd' : d'.isRow = true) (hi : (P.info? ty).map (·.size) = some cs.size) (hi' : (P.info? ty').map (·.size) = some cs'.size) (hdf : a.defers = []) (h : Q (.returned (.tuple #[.agg cs, .agg cs'])) w) : bodyPost P fn Q .ret a w := by
  refine bodyPost_ret (v := .tuple #[.agg cs, .agg cs']) ?_ hdf h
  have hl := hb.read ty d hu hd hi
  have hl' := hb'.read ty' d' hu' hd' hi'
  have hp' : a.tmps[p]?.getD undef = .pointer (some ⟨g, 0, none⟩) := by simpa using hp
  have hq' : a.tmps[p']?.getD undef = .pointer (some ⟨g', 0, none⟩) := by simpa using hq
  simp only [results, hr]
  simp [hp', hq', asAddr, hl, hl']
end Go.Proofs.Ytgmihgnbhjgghaa
