/-
  DERIVED. GIVEN WITH THE SEED: THE CARDS: each row of YtcelnplkoidmhalDoorRows.lean that lists a variable, with what it lists TIED to the program's text (the seventh form; the later family's looks); each row that meets fmt, with fmt's text TOLD by the authors' own Lean function (tested against real Go, not proved from fmt's source: count such statements apart). THE CARD IS WHAT COUNTS. Prove the row's statement (the work); the ties are given (YtcelnplkoidmhalDoorTie.lean); close each card by the builder's one call (the guide's Derived/Test/ToyasCard.lean, 'card_holds'). Laid BY PROGRAM, IN A SANDBOX (cutbox-door.mjs). By AI agents, Wed Nov 11 2026. No macro, syntax, notation, axiom, sorry.
-/
import Derived.Test.YtcelnplkoidmhalDoorRows
import GoSem.ClaimSeven
namespace Go.Proofs.YtcelnplkoidmhalDoor
namespace Rows

/-- THE TIED CARD OF 'laws.FnExactFrameRead'. -/
def fnExactFrameReadCard : Claim7 := { stood := { row := fnExactFrameReadRow, standIns := [], harness := (true, "aa63f7230022e23738c9330d8df0387784ab9a11e9cd72c6ba8b6ba22854f417"), looks := true }, kinds := [], alts := [], laidByText := true, laidKinds := [.handle], laidTests := true, laidLooks := .later }
def FnExactFrameReadCardSaid : Prop := Claim7.holds Tryd.pinned (.plain (OpenSpec.ofChange fnExactFrameReadSpec)) fnExactFrameReadCard

/-- THE TIED CARD OF 'laws.FnExactFramesOf'. -/
def fnExactFramesOfCard : Claim7 := { stood := { row := fnExactFramesOfRow, standIns := [], harness := (true, "aa63f7230022e23738c9330d8df0387784ab9a11e9cd72c6ba8b6ba22854f417"), looks := true }, kinds := [], alts := [], laidByText := true, laidKinds := [.handle], laidTests := true, laidLooks := .later }
def FnExactFramesOfCardSaid : Prop := Claim7.holds Tryd.pinned (.plain (OpenSpec.ofChange fnExactFramesOfSpec)) fnExactFramesOfCard

/-- THE TIED CARD OF 'laws.FnExactRiverStep'. -/
def fnExactRiverStepCard : Claim7 := { stood := { row := fnExactRiverStepRow, standIns := [], harness := (true, "aa63f7230022e23738c9330d8df0387784ab9a11e9cd72c6ba8b6ba22854f417"), looks := true }, kinds := [], alts := [], laidByText := true, laidKinds := [.data, .data, .data, .handle], laidTests := true, laidLooks := .later }
def FnExactRiverStepCardSaid : Prop := Claim7.holds Tryd.pinned (.plain (OpenSpec.ofChange fnExactRiverStepSpec)) fnExactRiverStepCard

/-- THE TIED CARD OF 'laws.FnExactRiverRun'. -/
def fnExactRiverRunCard : Claim7 := { stood := { row := fnExactRiverRunRow, standIns := [], harness := (true, "aa63f7230022e23738c9330d8df0387784ab9a11e9cd72c6ba8b6ba22854f417"), looks := true }, kinds := [], alts := [], laidByText := true, laidKinds := [.data, .data, .data, .handle], laidTests := true, laidLooks := .later }
def FnExactRiverRunCardSaid : Prop := Claim7.holds Tryd.pinned (.plain (OpenSpec.ofChange fnExactRiverRunSpec)) fnExactRiverRunCard

/-- THE TIED CARD OF 'laws.FnExactRiverShort'. -/
def fnExactRiverShortCard : Claim7 := { stood := { row := fnExactRiverShortRow, standIns := [], harness := (true, "aa63f7230022e23738c9330d8df0387784ab9a11e9cd72c6ba8b6ba22854f417"), looks := true }, kinds := [], alts := [], laidByText := true, laidKinds := [.data, .data, .data, .handle], laidTests := true, laidLooks := .later }
def FnExactRiverShortCardSaid : Prop := Claim7.holds Tryd.pinned (.plain (OpenSpec.ofChange fnExactRiverShortSpec)) fnExactRiverShortCard

/-- THE SECOND FORM's CARD OF 'laws.FnExactFrameRead'. -/
def fnExactFrameReadUptoCard : Claim7 := { stood := { row := fnExactFrameReadUptoRow, standIns := [], harness := (true, "aa63f7230022e23738c9330d8df0387784ab9a11e9cd72c6ba8b6ba22854f417"), looks := true }, kinds := [], alts := [], laidByText := true, laidKinds := [.handle], laidTests := true, laidLooks := .later }
def FnExactFrameReadUptoCardSaid : Prop := Claim7.holds Tryd.pinned (.plain (OpenSpec.upto fnExactFrameReadSpec)) fnExactFrameReadUptoCard

/-- THE SECOND FORM's CARD OF 'laws.FnExactFramesOf'. -/
def fnExactFramesOfUptoCard : Claim7 := { stood := { row := fnExactFramesOfUptoRow, standIns := [], harness := (true, "aa63f7230022e23738c9330d8df0387784ab9a11e9cd72c6ba8b6ba22854f417"), looks := true }, kinds := [], alts := [], laidByText := true, laidKinds := [.handle], laidTests := true, laidLooks := .later }
def FnExactFramesOfUptoCardSaid : Prop := Claim7.holds Tryd.pinned (.plain (OpenSpec.upto fnExactFramesOfSpec)) fnExactFramesOfUptoCard

/-- THE SECOND FORM's CARD OF 'laws.FnExactRiverStep'. -/
def fnExactRiverStepUptoCard : Claim7 := { stood := { row := fnExactRiverStepUptoRow, standIns := [], harness := (true, "aa63f7230022e23738c9330d8df0387784ab9a11e9cd72c6ba8b6ba22854f417"), looks := true }, kinds := [], alts := [], laidByText := true, laidKinds := [.data, .data, .data, .handle], laidTests := true, laidLooks := .later }
def FnExactRiverStepUptoCardSaid : Prop := Claim7.holds Tryd.pinned (.plain (OpenSpec.upto fnExactRiverStepSpec)) fnExactRiverStepUptoCard

/-- THE SECOND FORM's CARD OF 'laws.FnExactRiverRun'. -/
def fnExactRiverRunUptoCard : Claim7 := { stood := { row := fnExactRiverRunUptoRow, standIns := [], harness := (true, "aa63f7230022e23738c9330d8df0387784ab9a11e9cd72c6ba8b6ba22854f417"), looks := true }, kinds := [], alts := [], laidByText := true, laidKinds := [.data, .data, .data, .handle], laidTests := true, laidLooks := .later }
def FnExactRiverRunUptoCardSaid : Prop := Claim7.holds Tryd.pinned (.plain (OpenSpec.upto fnExactRiverRunSpec)) fnExactRiverRunUptoCard

/-- THE SECOND FORM's CARD OF 'laws.FnExactRiverShort'. -/
def fnExactRiverShortUptoCard : Claim7 := { stood := { row := fnExactRiverShortUptoRow, standIns := [], harness := (true, "aa63f7230022e23738c9330d8df0387784ab9a11e9cd72c6ba8b6ba22854f417"), looks := true }, kinds := [], alts := [], laidByText := true, laidKinds := [.data, .data, .data, .handle], laidTests := true, laidLooks := .later }
def FnExactRiverShortUptoCardSaid : Prop := Claim7.holds Tryd.pinned (.plain (OpenSpec.upto fnExactRiverShortSpec)) fnExactRiverShortUptoCard
end Rows
end Go.Proofs.YtcelnplkoidmhalDoor
