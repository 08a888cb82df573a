/-
  DERIVED. GIVEN WITH THE SEED: THE CARDS: each row of YtpamglakdnegcaaDoorRows.lean that lists a variable, with what it lists TIED to the program's text (the seventh form; the later family's looks); each row that meets fmt, with fmt's text TOLD by the authors' own Lean function (tested against real Go, not proved from fmt's source: count such statements apart). THE CARD IS WHAT COUNTS. Prove the row's statement (the work); the ties are given (YtpamglakdnegcaaDoorTie.lean); close each card by the builder's one call (the guide's Derived/Test/ToyasCard.lean, 'card_holds'). Laid BY PROGRAM, IN A SANDBOX (cutbox-door.mjs). By AI agents, Wed Nov 11 2026. No macro, syntax, notation, axiom, sorry.
-/
import Derived.Test.YtpamglakdnegcaaDoorRows
import GoSem.ClaimSeven
namespace Go.Proofs.YtpamglakdnegcaaDoor
namespace Rows

/-- THE TIED CARD OF 'laws.FnExactShowIns'. -/
def fnExactShowInsCard : Claim7 := { stood := { row := fnExactShowInsRow, standIns := [], harness := (true, "c52645455fcea4ddee07727a6944f1a48cc12971855a2e1f2aa2fbf6d2a15390"), looks := false }, kinds := [], alts := [], laidByText := true, laidKinds := [.data, .data, .data], laidTests := true, laidLooks := .later }
def FnExactShowInsCardSaid : Prop := Claim7.holds Tryd.pinned (.plain (OpenSpec.ofChange fnExactShowInsSpec)) fnExactShowInsCard

/-- THE TIED CARD OF 'laws.FnWords'. -/
def fnWordsCard : Claim7 := { stood := { row := fnWordsRow, standIns := [], harness := (true, "c52645455fcea4ddee07727a6944f1a48cc12971855a2e1f2aa2fbf6d2a15390"), looks := false }, kinds := [], alts := [], laidByText := true, laidKinds := [.data, .data, .data], laidTests := true, laidLooks := .later }
def FnWordsCardSaid : Prop := Claim7.holds Tryd.pinned (.plain (OpenSpec.ofChange fnWordsSpec)) fnWordsCard

/-- THE SECOND FORM's CARD OF 'laws.FnExactShowIns'. -/
def fnExactShowInsUptoCard : Claim7 := { stood := { row := fnExactShowInsUptoRow, standIns := [], harness := (true, "c52645455fcea4ddee07727a6944f1a48cc12971855a2e1f2aa2fbf6d2a15390"), looks := false }, kinds := [], alts := [], laidByText := true, laidKinds := [.data, .data, .data], laidTests := true, laidLooks := .later }
def FnExactShowInsUptoCardSaid : Prop := Claim7.holds Tryd.pinned (.plain (OpenSpec.upto fnExactShowInsSpec)) fnExactShowInsUptoCard

/-- THE SECOND FORM's CARD OF 'laws.FnWords'. -/
def fnWordsUptoCard : Claim7 := { stood := { row := fnWordsUptoRow, standIns := [], harness := (true, "c52645455fcea4ddee07727a6944f1a48cc12971855a2e1f2aa2fbf6d2a15390"), looks := false }, kinds := [], alts := [], laidByText := true, laidKinds := [.data, .data, .data], laidTests := true, laidLooks := .later }
def FnWordsUptoCardSaid : Prop := Claim7.holds Tryd.pinned (.plain (OpenSpec.upto fnWordsSpec)) fnWordsUptoCard
end Rows
end Go.Proofs.YtpamglakdnegcaaDoor
