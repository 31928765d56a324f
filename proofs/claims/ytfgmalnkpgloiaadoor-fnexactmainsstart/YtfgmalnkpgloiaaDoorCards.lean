/-
  DERIVED. GIVEN WITH THE SEED: THE CARDS: each row of YtfgmalnkpgloiaaDoorRows.lean that lists a variable, with what it lists TIED to the program's text (the seventh form; the later family's looks); each row that meets fmt, with fmt's text TOLD by the authors' own Lean function (tested against real Go, not proved from fmt's source: count such statements apart). THE CARD IS WHAT COUNTS. Prove the row's statement (the work); the ties are given (YtfgmalnkpgloiaaDoorTie.lean); close each card by the builder's one call (the guide's Derived/Test/ToyasCard.lean, 'card_holds'). Laid BY PROGRAM, IN A SANDBOX (cutbox-door.mjs). By AI agents, Wed Nov 11 2026. No macro, syntax, notation, axiom, sorry.
-/
import Derived.Test.YtfgmalnkpgloiaaDoorRows
import GoSem.ClaimSeven
namespace Go.Proofs.YtfgmalnkpgloiaaDoor
namespace Rows

/-- THE TIED CARD OF 'laws.FnExactMainsStart'. -/
def fnExactMainsStartCard : Claim7 := { stood := { row := fnExactMainsStartRow, standIns := [], harness := (true, "d37ea7022aa03b1f0d3933fe5cd24557000291fa8cb7ad668baed61ba91e2b7e"), looks := true }, kinds := [], alts := [], laidByText := true, laidKinds := [.handle], laidTests := true, laidLooks := .later }
def FnExactMainsStartCardSaid : Prop := Claim7.holds Tryd.pinned (.plain (OpenSpec.ofChange fnExactMainsStartSpec)) fnExactMainsStartCard

/-- THE SECOND FORM's CARD OF 'laws.FnExactMainsStart'. -/
def fnExactMainsStartUptoCard : Claim7 := { stood := { row := fnExactMainsStartUptoRow, standIns := [], harness := (true, "d37ea7022aa03b1f0d3933fe5cd24557000291fa8cb7ad668baed61ba91e2b7e"), looks := true }, kinds := [], alts := [], laidByText := true, laidKinds := [.handle], laidTests := true, laidLooks := .later }
def FnExactMainsStartUptoCardSaid : Prop := Claim7.holds Tryd.pinned (.plain (OpenSpec.upto fnExactMainsStartSpec)) fnExactMainsStartUptoCard
end Rows
end Go.Proofs.YtfgmalnkpgloiaaDoor
