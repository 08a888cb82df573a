/-
  Functions whose results are structs in boxes, beside other results.
-/
import Derived.Test.YtgmihgnbhjgghaaBoxP
namespace Go.Proofs.Ytgmihgnbhjgghaa
open Go.RowKit

/-- A struct in a box and a value. -/
theorem box_retV {P : Program} {fn : Func} {p q : Tmp} {ty : TypeId} {Q : Ending → World → Prop} {a : Act} {w : World} {g : Nat} {cs : Array Value} {t : TypeId} (hr : fn.results = #[.cell p ty, .tmp q]) (hp : a.tmps.getD p undef = .pointer (some ⟨g, 0, none⟩)) (hb : Box w g cs t)
    (d : TypeDesc) (hu : P.underlying ty = some d) (hd : d.isRow = true) (hi : (P.info? ty).map (·.size) = some cs.size) (hdf : a.defers = []) (h : Q (.returned (.tuple #[.agg cs, a.tmps.getD q undef])) w) : bodyPost P fn Q .ret a w := by
  refine bodyPost_ret (v := .tuple #[.agg cs, a.tmps.getD q undef]) ?_ hdf h
  have hl := hb.read ty d hu hd hi
  have hp' : a.tmps[p]?.getD undef = .pointer (some ⟨g, 0, none⟩) := by simpa using hp
  simp only [results, hr]
  simp [hp', asAddr, hl]
/-- A struct in a box and two values. -/
theorem box_retVV {P : Program} {fn : Func} {p q q' : Tmp} {ty : TypeId} {Q : Ending → World → Prop} {a : Act} {w : World} {g : Nat} {cs : Array Value} {t : TypeId} (hr : fn.results = #[.cell p ty, .tmp q, .tmp q']) (hp : a.tmps.getD p undef = .pointer (some ⟨g, 0, none⟩)) (hb : Box w g cs t)
    (d : TypeDesc) (hu : P.underlying ty = some d) (hd : d.isRow = true) (hi : (P.info? ty).map (·.size) = some cs.size) (hdf : a.defers = []) (h : Q (.returned (.tuple #[.agg cs, a.tmps.getD q undef, a.tmps.getD q' undef])) w) : bodyPost P fn Q .ret a w := by
  refine bodyPost_ret (v := .tuple #[.agg cs, a.tmps.getD q undef, a.tmps.getD q' undef]) ?_ hdf h
  have hl := hb.read ty d hu hd hi
  have hp' : a.tmps[p]?.getD undef = .pointer (some ⟨g, 0, none⟩) := by simpa using hp
  simp only [results, hr]
  simp [hp', asAddr, hl]
/-- Two structs in boxes. -/
theorem box_retBB {P : Program} {fn : Func} {p p' : Tmp} {ty ty' : TypeId} {Q : Ending → World → Prop} {a : Act} {w : World} {g g' : Nat} {cs cs' : Array Value} {t t' : TypeId} (hr : fn.results = #[.cell p ty, .cell p' ty']) (hp : a.tmps.getD p undef = .pointer (some ⟨g, 0, none⟩)) (hq : a.tmps.getD p' undef = .pointer (some ⟨g', 0, none⟩)) (hb : Box w g cs t) (hb' : Box w g' cs' t')
    (d d' : TypeDesc) (hu : P.underlying ty = some d) (hu' : P.underlying ty' = some d') (hd : d.isRow = true) (hd' : d'.isRow = true) (hi : (P.info? ty).map (·.size) = some cs.size) (hi' : (P.info? ty').map (·.size) = some cs'.size) (hdf : a.defers = []) (h : Q (.returned (.tuple #[.agg cs, .agg cs'])) w) : bodyPost P fn Q .ret a w := by
  refine bodyPost_ret (v := .tuple #[.agg cs, .agg cs']) ?_ hdf h
  have hl := hb.read ty d hu hd hi
  have hl' := hb'.read ty' d' hu' hd' hi'
  have hp' : a.tmps[p]?.getD undef = .pointer (some ⟨g, 0, none⟩) := by simpa using hp
  have hq' : a.tmps[p']?.getD undef = .pointer (some ⟨g', 0, none⟩) := by simpa using hq
  simp only [results, hr]
  simp [hp', hq', asAddr, hl, hl']
end Go.Proofs.Ytgmihgnbhjgghaa
