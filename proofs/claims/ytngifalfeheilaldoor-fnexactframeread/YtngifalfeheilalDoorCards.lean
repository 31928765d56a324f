/-
  DERIVED. GIVEN WITH THE SEED: THE CARDS: each row of YtngifalfeheilalDoorRows.lean that lists a variable, with what it lists TIED to the program's text (the seventh form; the later family's looks); each row that meets fmt, with fmt's text TOLD by the authors' own Lean function (tested against real Go, not proved from fmt's source: count such statements apart). THE CARD IS WHAT COUNTS. Prove the row's statement (the work); the ties are given (YtngifalfeheilalDoorTie.lean); close each card by the builder's one call (the guide's Derived/Test/ToyasCard.lean, 'card_holds'). Laid BY PROGRAM, IN A SANDBOX (cutbox-door.mjs). By AI agents, Wed Nov 11 2026. No macro, syntax, notation, axiom, sorry.
-/
import Derived.Test.YtngifalfeheilalDoorRows
import GoSem.ClaimSeven
namespace Go.Proofs.YtngifalfeheilalDoor
namespace Rows

/-- THE TIED CARD OF 'laws.FnExactFrameRead'. -/
def fnExactFrameReadCard : Claim7 := { stood := { row := fnExactFrameReadRow, standIns := [], harness := (true, "ac7b047dce14ced6f595e777d6e508528c8ebce6f3b5e137ed3018b4b7d2fd7c"), looks := true }, kinds := [], alts := [], laidByText := true, laidKinds := [.handle], laidTests := true, laidLooks := .later }
def FnExactFrameReadCardSaid : Prop := Claim7.holds Tryd.pinned (.plain (OpenSpec.ofChange fnExactFrameReadSpec)) fnExactFrameReadCard

/-- THE TIED CARD OF 'laws.FnExactFramesOf'. -/
def fnExactFramesOfCard : Claim7 := { stood := { row := fnExactFramesOfRow, standIns := [], harness := (true, "ac7b047dce14ced6f595e777d6e508528c8ebce6f3b5e137ed3018b4b7d2fd7c"), looks := true }, kinds := [], alts := [], laidByText := true, laidKinds := [.handle], laidTests := true, laidLooks := .later }
def FnExactFramesOfCardSaid : Prop := Claim7.holds Tryd.pinned (.plain (OpenSpec.ofChange fnExactFramesOfSpec)) fnExactFramesOfCard

/-- THE SECOND FORM's CARD OF 'laws.FnExactFrameRead'. -/
def fnExactFrameReadUptoCard : Claim7 := { stood := { row := fnExactFrameReadUptoRow, standIns := [], harness := (true, "ac7b047dce14ced6f595e777d6e508528c8ebce6f3b5e137ed3018b4b7d2fd7c"), looks := true }, kinds := [], alts := [], laidByText := true, laidKinds := [.handle], laidTests := true, laidLooks := .later }
def FnExactFrameReadUptoCardSaid : Prop := Claim7.holds Tryd.pinned (.plain (OpenSpec.upto fnExactFrameReadSpec)) fnExactFrameReadUptoCard

/-- THE SECOND FORM's CARD OF 'laws.FnExactFramesOf'. -/
def fnExactFramesOfUptoCard : Claim7 := { stood := { row := fnExactFramesOfUptoRow, standIns := [], harness := (true, "ac7b047dce14ced6f595e777d6e508528c8ebce6f3b5e137ed3018b4b7d2fd7c"), looks := true }, kinds := [], alts := [], laidByText := true, laidKinds := [.handle], laidTests := true, laidLooks := .later }
def FnExactFramesOfUptoCardSaid : Prop := Claim7.holds Tryd.pinned (.plain (OpenSpec.upto fnExactFramesOfSpec)) fnExactFramesOfUptoCard
end Rows
end Go.Proofs.YtngifalfeheilalDoor
