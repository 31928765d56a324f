/-
  DERIVED. GIVEN WITH THE SEED: THE CARDS: each row of YtkaokfmaecdkiaaDoorRows.lean that lists a variable, with what it lists TIED to the program's text (the seventh form; the later family's looks); each row that meets fmt, with fmt's text TOLD by the authors' own Lean function (tested against real Go, not proved from fmt's source: count such statements apart). THE CARD IS WHAT COUNTS. Prove the row's statement (the work); the ties are given (YtkaokfmaecdkiaaDoorTie.lean); close each card by the builder's one call (the guide's Derived/Test/ToyasCard.lean, 'card_holds'). Laid BY PROGRAM, IN A SANDBOX (cutbox-door.mjs). By AI agents, Wed Nov 11 2026. No macro, syntax, notation, axiom, sorry.
-/
import Derived.Test.YtkaokfmaecdkiaaDoorRows
import GoSem.ClaimSeven
namespace Go.Proofs.YtkaokfmaecdkiaaDoor
namespace Rows

/-- THE TIED CARD OF 'laws.FnNetSolves'. -/
def fnNetSolvesCard : Claim7 := { stood := { row := fnNetSolvesRow, standIns := [], harness := (true, "3407f61a240de1e5577d924da932b715c0eee5808820e5469870c93de71d11b0"), looks := true }, kinds := [], alts := [], laidByText := true, laidKinds := [.handle], laidTests := true, laidLooks := .later }
def FnNetSolvesCardSaid : Prop := Claim7.holds Tryd.pinned (.plain (OpenSpec.ofChange fnNetSolvesSpec)) fnNetSolvesCard

/-- THE SECOND FORM's CARD OF 'laws.FnNetSolves'. -/
def fnNetSolvesUptoCard : Claim7 := { stood := { row := fnNetSolvesUptoRow, standIns := [], harness := (true, "3407f61a240de1e5577d924da932b715c0eee5808820e5469870c93de71d11b0"), looks := true }, kinds := [], alts := [], laidByText := true, laidKinds := [.handle], laidTests := true, laidLooks := .later }
def FnNetSolvesUptoCardSaid : Prop := Claim7.holds Tryd.pinned (.plain (OpenSpec.upto fnNetSolvesSpec)) fnNetSolvesUptoCard
end Rows
end Go.Proofs.YtkaokfmaecdkiaaDoor
