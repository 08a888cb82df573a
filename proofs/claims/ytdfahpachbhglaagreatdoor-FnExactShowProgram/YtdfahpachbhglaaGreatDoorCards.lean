/-
  DERIVED. GIVEN WITH THE SEED: THE CARDS: each row of YtdfahpachbhglaaGreatDoorRows.lean that lists a variable, with what it lists TIED to the program's text (the seventh form; the later family's looks); each row that meets fmt, with fmt's text TOLD by the authors' own Lean function (tested against real Go, not proved from fmt's source: count such statements apart). THE CARD IS WHAT COUNTS. Prove the row's statement (the work); the ties are given (YtdfahpachbhglaaGreatDoorTie.lean); close each card by the builder's one call (the guide's Derived/Test/ToyasCard.lean, 'card_holds'). Laid BY PROGRAM, IN A SANDBOX (cutbox-door.mjs). By AI agents, Wed Nov 11 2026. No macro, syntax, notation, axiom, sorry.
-/
import Derived.Test.YtdfahpachbhglaaGreatDoorRows
import GoSem.ClaimSeven
namespace Go.Proofs.YtdfahpachbhglaaGreatDoor
namespace Rows

/-- THE TIED CARD OF 'laws.FnExactShowProgram'. -/
def fnExactShowProgramCard : Claim7 := { stood := { row := fnExactShowProgramRow, standIns := [], harness := (true, "8ccb25b96c4df4bb62ee66dcd8352c053d426a424c61c120f673ec7ad10c3e71"), looks := true }, kinds := [], alts := [], laidByText := true, laidKinds := [.data, .data, .data, .data], laidTests := true, laidLooks := .later }
def FnExactShowProgramCardSaid : Prop := Claim7.holds Tryz.pinned (.plain (OpenSpec.ofChange fnExactShowProgramSpec)) fnExactShowProgramCard

/-- THE SECOND FORM's CARD OF 'laws.FnExactShowProgram'. -/
def fnExactShowProgramUptoCard : Claim7 := { stood := { row := fnExactShowProgramUptoRow, standIns := [], harness := (true, "8ccb25b96c4df4bb62ee66dcd8352c053d426a424c61c120f673ec7ad10c3e71"), looks := true }, kinds := [], alts := [], laidByText := true, laidKinds := [.data, .data, .data, .data], laidTests := true, laidLooks := .later }
def FnExactShowProgramUptoCardSaid : Prop := Claim7.holds Tryz.pinned (.plain (OpenSpec.upto fnExactShowProgramSpec)) fnExactShowProgramUptoCard
end Rows
end Go.Proofs.YtdfahpachbhglaaGreatDoor
