/-
  What is printed, of events: as a function.
-/
import Derived.Test.YtlfhoeogjipakaaEvtR
namespace Go.Proofs.Ytlfhoeogjipakaa
open Go.RowKit

def prints (xs : List Vt) : List Int := (xs.filter fun x => decide (x.kind = 5)).map Vt.num
def printsE (x : Rvt) : Ri := ⟨prints x.row⟩
theorem prints_len (xs : List Vt) : (prints xs).length ≤ xs.length := by
  unfold prints
  rw [List.length_map]
  exact List.length_filter_le _ _
theorem prints_snoc (xs : List Vt) (x : Vt) : prints (xs ++ [x]) = prints xs ++ (if x.kind = 5 then [x.num] else []) := by
  unfold prints
  by_cases h : x.kind = 5 <;> simp [h]
end Go.Proofs.Ytlfhoeogjipakaa
