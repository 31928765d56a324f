/-
  DERIVED. GIVEN WITH THE SEED: THE CARDS: each row of YtkaokfmaecdkiaaGreatDoorRows.lean that lists a variable, with what it lists TIED to the program's text (the seventh form; the later family's looks); each row that meets fmt, with fmt's text TOLD by the authors' own Lean function (tested against real Go, not proved from fmt's source: count such statements apart). THE CARD IS WHAT COUNTS. Prove the row's statement (the work); the ties are given (YtkaokfmaecdkiaaGreatDoorTie.lean); close each card by the builder's one call (the guide's Derived/Test/ToyasCard.lean, 'card_holds'). Laid BY PROGRAM, IN A SANDBOX (cutbox-door.mjs). By AI agents, Wed Nov 11 2026. No macro, syntax, notation, axiom, sorry.
-/
import Derived.Test.YtkaokfmaecdkiaaGreatDoorRows
import GoSem.ClaimSeven
namespace Go.Proofs.YtkaokfmaecdkiaaGreatDoor
namespace Rows

/-- THE TIED CARD OF 'laws.FnNetOne'. -/
def fnNetOneCard : Claim7 := { stood := { row := fnNetOneRow, standIns := [], harness := (true, "da61b2bb4e1437c9d9cfd2b882907eac279b1b194347fd1014d1335d3be9d003"), looks := true }, kinds := [], alts := [], laidByText := true, laidKinds := [.handle], laidTests := true, laidLooks := .later }
def FnNetOneCardSaid : Prop := Claim7.holds Tryz.pinned (.plain (OpenSpec.ofChange fnNetOneSpec)) fnNetOneCard

/-- THE TIED CARD OF 'laws.FnExactNetSolve'. -/
def fnExactNetSolveCard : Claim7 := { stood := { row := fnExactNetSolveRow, standIns := [], harness := (true, "da61b2bb4e1437c9d9cfd2b882907eac279b1b194347fd1014d1335d3be9d003"), looks := true }, kinds := [], alts := [], laidByText := true, laidKinds := [.handle], laidTests := true, laidLooks := .later }
def FnExactNetSolveCardSaid : Prop := Claim7.holds Tryz.pinned (.plain (OpenSpec.ofChange fnExactNetSolveSpec)) fnExactNetSolveCard

/-- THE SECOND FORM's CARD OF 'laws.FnNetOne'. -/
def fnNetOneUptoCard : Claim7 := { stood := { row := fnNetOneUptoRow, standIns := [], harness := (true, "da61b2bb4e1437c9d9cfd2b882907eac279b1b194347fd1014d1335d3be9d003"), looks := true }, kinds := [], alts := [], laidByText := true, laidKinds := [.handle], laidTests := true, laidLooks := .later }
def FnNetOneUptoCardSaid : Prop := Claim7.holds Tryz.pinned (.plain (OpenSpec.upto fnNetOneSpec)) fnNetOneUptoCard

/-- THE SECOND FORM's CARD OF 'laws.FnExactNetSolve'. -/
def fnExactNetSolveUptoCard : Claim7 := { stood := { row := fnExactNetSolveUptoRow, standIns := [], harness := (true, "da61b2bb4e1437c9d9cfd2b882907eac279b1b194347fd1014d1335d3be9d003"), looks := true }, kinds := [], alts := [], laidByText := true, laidKinds := [.handle], laidTests := true, laidLooks := .later }
def FnExactNetSolveUptoCardSaid : Prop := Claim7.holds Tryz.pinned (.plain (OpenSpec.upto fnExactNetSolveSpec)) fnExactNetSolveUptoCard
end Rows
end Go.Proofs.YtkaokfmaecdkiaaGreatDoor
