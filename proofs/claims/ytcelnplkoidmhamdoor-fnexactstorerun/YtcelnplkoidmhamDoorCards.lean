/-
  DERIVED. GIVEN WITH THE SEED: THE CARDS: each row of YtcelnplkoidmhamDoorRows.lean that lists a variable, with what it lists TIED to the program's text (the seventh form; the later family's looks); each row that meets fmt, with fmt's text TOLD by the authors' own Lean function (tested against real Go, not proved from fmt's source: count such statements apart). THE CARD IS WHAT COUNTS. Prove the row's statement (the work); the ties are given (YtcelnplkoidmhamDoorTie.lean); close each card by the builder's one call (the guide's Derived/Test/ToyasCard.lean, 'card_holds'). Laid BY PROGRAM, IN A SANDBOX (cutbox-door.mjs). By AI agents, Wed Nov 11 2026. No macro, syntax, notation, axiom, sorry.
-/
import Derived.Test.YtcelnplkoidmhamDoorRows
import GoSem.ClaimSeven
namespace Go.Proofs.YtcelnplkoidmhamDoor
namespace Rows

/-- THE TIED CARD OF 'laws.FnExactStoreStep'. -/
def fnExactStoreStepCard : Claim7 := { stood := { row := fnExactStoreStepRow, standIns := [], harness := (true, "087c9428587ad3348b4bac8feef39b3b97dbd9d1ae2208ddb5f4c56112953bb7"), looks := true }, kinds := [], alts := [], laidByText := true, laidKinds := [.handle], laidTests := true, laidLooks := .later }
def FnExactStoreStepCardSaid : Prop := Claim7.holds Tryd.pinned (.plain (OpenSpec.ofChange fnExactStoreStepSpec)) fnExactStoreStepCard

/-- THE TIED CARD OF 'laws.FnExactStoreRun'. -/
def fnExactStoreRunCard : Claim7 := { stood := { row := fnExactStoreRunRow, standIns := [], harness := (true, "087c9428587ad3348b4bac8feef39b3b97dbd9d1ae2208ddb5f4c56112953bb7"), looks := true }, kinds := [], alts := [], laidByText := true, laidKinds := [.data, .data, .data, .handle], laidTests := true, laidLooks := .later }
def FnExactStoreRunCardSaid : Prop := Claim7.holds Tryd.pinned (.plain (OpenSpec.ofChange fnExactStoreRunSpec)) fnExactStoreRunCard

/-- THE SECOND FORM's CARD OF 'laws.FnExactStoreStep'. -/
def fnExactStoreStepUptoCard : Claim7 := { stood := { row := fnExactStoreStepUptoRow, standIns := [], harness := (true, "087c9428587ad3348b4bac8feef39b3b97dbd9d1ae2208ddb5f4c56112953bb7"), looks := true }, kinds := [], alts := [], laidByText := true, laidKinds := [.handle], laidTests := true, laidLooks := .later }
def FnExactStoreStepUptoCardSaid : Prop := Claim7.holds Tryd.pinned (.plain (OpenSpec.upto fnExactStoreStepSpec)) fnExactStoreStepUptoCard

/-- THE SECOND FORM's CARD OF 'laws.FnExactStoreRun'. -/
def fnExactStoreRunUptoCard : Claim7 := { stood := { row := fnExactStoreRunUptoRow, standIns := [], harness := (true, "087c9428587ad3348b4bac8feef39b3b97dbd9d1ae2208ddb5f4c56112953bb7"), looks := true }, kinds := [], alts := [], laidByText := true, laidKinds := [.data, .data, .data, .handle], laidTests := true, laidLooks := .later }
def FnExactStoreRunUptoCardSaid : Prop := Claim7.holds Tryd.pinned (.plain (OpenSpec.upto fnExactStoreRunSpec)) fnExactStoreRunUptoCard
end Rows
end Go.Proofs.YtcelnplkoidmhamDoor
