/-
  DERIVED. GIVEN WITH THE SEED: THE CARDS: each row of YtdpghhmcibiplaaDoorRows.lean that lists a variable, with what it lists TIED to the program's text (the seventh form; the later family's looks); each row that meets fmt, with fmt's text TOLD by the authors' own Lean function (tested against real Go, not proved from fmt's source: count such statements apart). THE CARD IS WHAT COUNTS. Prove the row's statement (the work); the ties are given (YtdpghhmcibiplaaDoorTie.lean); close each card by the builder's one call (the guide's Derived/Test/ToyasCard.lean, 'card_holds'). Laid BY PROGRAM, IN A SANDBOX (cutbox-door.mjs). By AI agents, Wed Nov 11 2026. No macro, syntax, notation, axiom, sorry.
-/
import Derived.Test.YtdpghhmcibiplaaDoorRows
import GoSem.ClaimSeven
namespace Go.Proofs.YtdpghhmcibiplaaDoor
namespace Rows

/-- THE TIED CARD OF 'laws.FnExactRiverStep'. -/
def fnExactRiverStepCard : Claim7 := { stood := { row := fnExactRiverStepRow, standIns := [], harness := (true, "5303113bec54164a7eeab2b8f8c877f5815e238de5cf6070c1f8392d0d693c52"), looks := true }, kinds := [], alts := [], laidByText := true, laidKinds := [.data, .data, .data, .handle], laidTests := true, laidLooks := .later }
def FnExactRiverStepCardSaid : Prop := Claim7.holds Tryd.pinned (.plain (OpenSpec.ofChange fnExactRiverStepSpec)) fnExactRiverStepCard

/-- THE TIED CARD OF 'laws.FnExactRiverShort'. -/
def fnExactRiverShortCard : Claim7 := { stood := { row := fnExactRiverShortRow, standIns := [], harness := (true, "5303113bec54164a7eeab2b8f8c877f5815e238de5cf6070c1f8392d0d693c52"), looks := true }, kinds := [], alts := [], laidByText := true, laidKinds := [.data, .data, .data, .handle], laidTests := true, laidLooks := .later }
def FnExactRiverShortCardSaid : Prop := Claim7.holds Tryd.pinned (.plain (OpenSpec.ofChange fnExactRiverShortSpec)) fnExactRiverShortCard

/-- THE TIED CARD OF 'laws.FnRiverLeast'. -/
def fnRiverLeastCard : Claim7 := { stood := { row := fnRiverLeastRow, standIns := [], harness := (true, "5303113bec54164a7eeab2b8f8c877f5815e238de5cf6070c1f8392d0d693c52"), looks := true }, kinds := [], alts := [], laidByText := true, laidKinds := [.data, .data, .data, .handle], laidTests := true, laidLooks := .later }
def FnRiverLeastCardSaid : Prop := Claim7.holds Tryd.pinned (.plain (OpenSpec.ofChange fnRiverLeastSpec)) fnRiverLeastCard

/-- THE TIED CARD OF 'laws.FnRiverAbove'. -/
def fnRiverAboveCard : Claim7 := { stood := { row := fnRiverAboveRow, standIns := [], harness := (true, "5303113bec54164a7eeab2b8f8c877f5815e238de5cf6070c1f8392d0d693c52"), looks := true }, kinds := [], alts := [], laidByText := true, laidKinds := [.data, .data, .data, .handle], laidTests := true, laidLooks := .later }
def FnRiverAboveCardSaid : Prop := Claim7.holds Tryd.pinned (.plain (OpenSpec.ofChange fnRiverAboveSpec)) fnRiverAboveCard

/-- THE TIED CARD OF 'laws.FnRiverBook'. -/
def fnRiverBookCard : Claim7 := { stood := { row := fnRiverBookRow, standIns := [], harness := (true, "5303113bec54164a7eeab2b8f8c877f5815e238de5cf6070c1f8392d0d693c52"), looks := true }, kinds := [], alts := [], laidByText := true, laidKinds := [.data, .data, .data, .handle], laidTests := true, laidLooks := .later }
def FnRiverBookCardSaid : Prop := Claim7.holds Tryd.pinned (.plain (OpenSpec.ofChange fnRiverBookSpec)) fnRiverBookCard

/-- THE TIED CARD OF 'laws.FnExactStoreRun'. -/
def fnExactStoreRunCard : Claim7 := { stood := { row := fnExactStoreRunRow, standIns := [], harness := (true, "5303113bec54164a7eeab2b8f8c877f5815e238de5cf6070c1f8392d0d693c52"), looks := true }, kinds := [], alts := [], laidByText := true, laidKinds := [.data, .data, .data, .handle], laidTests := true, laidLooks := .later }
def FnExactStoreRunCardSaid : Prop := Claim7.holds Tryd.pinned (.plain (OpenSpec.ofChange fnExactStoreRunSpec)) fnExactStoreRunCard

/-- THE TIED CARD OF 'laws.FnStoreBook'. -/
def fnStoreBookCard : Claim7 := { stood := { row := fnStoreBookRow, standIns := [], harness := (true, "5303113bec54164a7eeab2b8f8c877f5815e238de5cf6070c1f8392d0d693c52"), looks := true }, kinds := [], alts := [], laidByText := true, laidKinds := [.data, .data, .data, .handle], laidTests := true, laidLooks := .later }
def FnStoreBookCardSaid : Prop := Claim7.holds Tryd.pinned (.plain (OpenSpec.ofChange fnStoreBookSpec)) fnStoreBookCard

/-- THE TIED CARD OF 'laws.FnYield'. -/
def fnYieldCard : Claim7 := { stood := { row := fnYieldRow, standIns := [], harness := (true, "5303113bec54164a7eeab2b8f8c877f5815e238de5cf6070c1f8392d0d693c52"), looks := true }, kinds := [], alts := [], laidByText := true, laidKinds := [.data, .data, .data, .handle], laidTests := true, laidLooks := .later }
def FnYieldCardSaid : Prop := Claim7.holds Tryd.pinned (.plain (OpenSpec.ofChange fnYieldSpec)) fnYieldCard

/-- THE TIED CARD OF 'laws.FnExactDistrictBook'. -/
def fnExactDistrictBookCard : Claim7 := { stood := { row := fnExactDistrictBookRow, standIns := [], harness := (true, "5303113bec54164a7eeab2b8f8c877f5815e238de5cf6070c1f8392d0d693c52"), looks := true }, kinds := [], alts := [], laidByText := true, laidKinds := [.handle], laidTests := true, laidLooks := .later }
def FnExactDistrictBookCardSaid : Prop := Claim7.holds Tryd.pinned (.plain (OpenSpec.ofChange fnExactDistrictBookSpec)) fnExactDistrictBookCard

/-- THE SECOND FORM's CARD OF 'laws.FnExactRiverStep'. -/
def fnExactRiverStepUptoCard : Claim7 := { stood := { row := fnExactRiverStepUptoRow, standIns := [], harness := (true, "5303113bec54164a7eeab2b8f8c877f5815e238de5cf6070c1f8392d0d693c52"), looks := true }, kinds := [], alts := [], laidByText := true, laidKinds := [.data, .data, .data, .handle], laidTests := true, laidLooks := .later }
def FnExactRiverStepUptoCardSaid : Prop := Claim7.holds Tryd.pinned (.plain (OpenSpec.upto fnExactRiverStepSpec)) fnExactRiverStepUptoCard

/-- THE SECOND FORM's CARD OF 'laws.FnExactRiverShort'. -/
def fnExactRiverShortUptoCard : Claim7 := { stood := { row := fnExactRiverShortUptoRow, standIns := [], harness := (true, "5303113bec54164a7eeab2b8f8c877f5815e238de5cf6070c1f8392d0d693c52"), looks := true }, kinds := [], alts := [], laidByText := true, laidKinds := [.data, .data, .data, .handle], laidTests := true, laidLooks := .later }
def FnExactRiverShortUptoCardSaid : Prop := Claim7.holds Tryd.pinned (.plain (OpenSpec.upto fnExactRiverShortSpec)) fnExactRiverShortUptoCard

/-- THE SECOND FORM's CARD OF 'laws.FnRiverLeast'. -/
def fnRiverLeastUptoCard : Claim7 := { stood := { row := fnRiverLeastUptoRow, standIns := [], harness := (true, "5303113bec54164a7eeab2b8f8c877f5815e238de5cf6070c1f8392d0d693c52"), looks := true }, kinds := [], alts := [], laidByText := true, laidKinds := [.data, .data, .data, .handle], laidTests := true, laidLooks := .later }
def FnRiverLeastUptoCardSaid : Prop := Claim7.holds Tryd.pinned (.plain (OpenSpec.upto fnRiverLeastSpec)) fnRiverLeastUptoCard

/-- THE SECOND FORM's CARD OF 'laws.FnRiverAbove'. -/
def fnRiverAboveUptoCard : Claim7 := { stood := { row := fnRiverAboveUptoRow, standIns := [], harness := (true, "5303113bec54164a7eeab2b8f8c877f5815e238de5cf6070c1f8392d0d693c52"), looks := true }, kinds := [], alts := [], laidByText := true, laidKinds := [.data, .data, .data, .handle], laidTests := true, laidLooks := .later }
def FnRiverAboveUptoCardSaid : Prop := Claim7.holds Tryd.pinned (.plain (OpenSpec.upto fnRiverAboveSpec)) fnRiverAboveUptoCard

/-- THE SECOND FORM's CARD OF 'laws.FnRiverBook'. -/
def fnRiverBookUptoCard : Claim7 := { stood := { row := fnRiverBookUptoRow, standIns := [], harness := (true, "5303113bec54164a7eeab2b8f8c877f5815e238de5cf6070c1f8392d0d693c52"), looks := true }, kinds := [], alts := [], laidByText := true, laidKinds := [.data, .data, .data, .handle], laidTests := true, laidLooks := .later }
def FnRiverBookUptoCardSaid : Prop := Claim7.holds Tryd.pinned (.plain (OpenSpec.upto fnRiverBookSpec)) fnRiverBookUptoCard

/-- THE SECOND FORM's CARD OF 'laws.FnExactStoreRun'. -/
def fnExactStoreRunUptoCard : Claim7 := { stood := { row := fnExactStoreRunUptoRow, standIns := [], harness := (true, "5303113bec54164a7eeab2b8f8c877f5815e238de5cf6070c1f8392d0d693c52"), looks := true }, kinds := [], alts := [], laidByText := true, laidKinds := [.data, .data, .data, .handle], laidTests := true, laidLooks := .later }
def FnExactStoreRunUptoCardSaid : Prop := Claim7.holds Tryd.pinned (.plain (OpenSpec.upto fnExactStoreRunSpec)) fnExactStoreRunUptoCard

/-- THE SECOND FORM's CARD OF 'laws.FnStoreBook'. -/
def fnStoreBookUptoCard : Claim7 := { stood := { row := fnStoreBookUptoRow, standIns := [], harness := (true, "5303113bec54164a7eeab2b8f8c877f5815e238de5cf6070c1f8392d0d693c52"), looks := true }, kinds := [], alts := [], laidByText := true, laidKinds := [.data, .data, .data, .handle], laidTests := true, laidLooks := .later }
def FnStoreBookUptoCardSaid : Prop := Claim7.holds Tryd.pinned (.plain (OpenSpec.upto fnStoreBookSpec)) fnStoreBookUptoCard

/-- THE SECOND FORM's CARD OF 'laws.FnYield'. -/
def fnYieldUptoCard : Claim7 := { stood := { row := fnYieldUptoRow, standIns := [], harness := (true, "5303113bec54164a7eeab2b8f8c877f5815e238de5cf6070c1f8392d0d693c52"), looks := true }, kinds := [], alts := [], laidByText := true, laidKinds := [.data, .data, .data, .handle], laidTests := true, laidLooks := .later }
def FnYieldUptoCardSaid : Prop := Claim7.holds Tryd.pinned (.plain (OpenSpec.upto fnYieldSpec)) fnYieldUptoCard

/-- THE SECOND FORM's CARD OF 'laws.FnExactDistrictBook'. -/
def fnExactDistrictBookUptoCard : Claim7 := { stood := { row := fnExactDistrictBookUptoRow, standIns := [], harness := (true, "5303113bec54164a7eeab2b8f8c877f5815e238de5cf6070c1f8392d0d693c52"), looks := true }, kinds := [], alts := [], laidByText := true, laidKinds := [.handle], laidTests := true, laidLooks := .later }
def FnExactDistrictBookUptoCardSaid : Prop := Claim7.holds Tryd.pinned (.plain (OpenSpec.upto fnExactDistrictBookSpec)) fnExactDistrictBookUptoCard
end Rows
end Go.Proofs.YtdpghhmcibiplaaDoor
