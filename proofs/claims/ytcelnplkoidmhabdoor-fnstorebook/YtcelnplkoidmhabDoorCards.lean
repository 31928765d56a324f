/-
  DERIVED. GIVEN WITH THE SEED: THE CARDS: each row of YtcelnplkoidmhabDoorRows.lean that lists a variable, with what it lists TIED to the program's text (the seventh form; the later family's looks); each row that meets fmt, with fmt's text TOLD by the authors' own Lean function (tested against real Go, not proved from fmt's source: count such statements apart). THE CARD IS WHAT COUNTS. Prove the row's statement (the work); the ties are given (YtcelnplkoidmhabDoorTie.lean); close each card by the builder's one call (the guide's Derived/Test/ToyasCard.lean, 'card_holds'). Laid BY PROGRAM, IN A SANDBOX (cutbox-door.mjs). By AI agents, Wed Nov 11 2026. No macro, syntax, notation, axiom, sorry.
-/
import Derived.Test.YtcelnplkoidmhabDoorRows
import GoSem.ClaimSeven
namespace Go.Proofs.YtcelnplkoidmhabDoor
namespace Rows

/-- THE TIED CARD OF 'laws.FnRiverLeast'. -/
def fnRiverLeastCard : Claim7 := { stood := { row := fnRiverLeastRow, standIns := [], harness := (true, "45f97f49764a27125b3be71c44a0b874d70a01374954869924233cef4ebaac57"), looks := true }, kinds := [], alts := [], laidByText := true, laidKinds := [.data, .data, .data, .handle], laidTests := true, laidLooks := .later }
def FnRiverLeastCardSaid : Prop := Claim7.holds Tryd.pinned (.plain (OpenSpec.ofChange fnRiverLeastSpec)) fnRiverLeastCard

/-- THE TIED CARD OF 'laws.FnRiverAbove'. -/
def fnRiverAboveCard : Claim7 := { stood := { row := fnRiverAboveRow, standIns := [], harness := (true, "45f97f49764a27125b3be71c44a0b874d70a01374954869924233cef4ebaac57"), looks := true }, kinds := [], alts := [], laidByText := true, laidKinds := [.data, .data, .data, .handle], laidTests := true, laidLooks := .later }
def FnRiverAboveCardSaid : Prop := Claim7.holds Tryd.pinned (.plain (OpenSpec.ofChange fnRiverAboveSpec)) fnRiverAboveCard

/-- THE TIED CARD OF 'laws.FnStoreBook'. -/
def fnStoreBookCard : Claim7 := { stood := { row := fnStoreBookRow, standIns := [], harness := (true, "45f97f49764a27125b3be71c44a0b874d70a01374954869924233cef4ebaac57"), looks := true }, kinds := [], alts := [], laidByText := true, laidKinds := [.data, .data, .data, .handle], laidTests := true, laidLooks := .later }
def FnStoreBookCardSaid : Prop := Claim7.holds Tryd.pinned (.plain (OpenSpec.ofChange fnStoreBookSpec)) fnStoreBookCard

/-- THE TIED CARD OF 'laws.FnYield'. -/
def fnYieldCard : Claim7 := { stood := { row := fnYieldRow, standIns := [], harness := (true, "45f97f49764a27125b3be71c44a0b874d70a01374954869924233cef4ebaac57"), looks := true }, kinds := [], alts := [], laidByText := true, laidKinds := [.data, .data, .data, .handle], laidTests := true, laidLooks := .later }
def FnYieldCardSaid : Prop := Claim7.holds Tryd.pinned (.plain (OpenSpec.ofChange fnYieldSpec)) fnYieldCard

/-- THE SECOND FORM's CARD OF 'laws.FnRiverLeast'. -/
def fnRiverLeastUptoCard : Claim7 := { stood := { row := fnRiverLeastUptoRow, standIns := [], harness := (true, "45f97f49764a27125b3be71c44a0b874d70a01374954869924233cef4ebaac57"), looks := true }, kinds := [], alts := [], laidByText := true, laidKinds := [.data, .data, .data, .handle], laidTests := true, laidLooks := .later }
def FnRiverLeastUptoCardSaid : Prop := Claim7.holds Tryd.pinned (.plain (OpenSpec.upto fnRiverLeastSpec)) fnRiverLeastUptoCard

/-- THE SECOND FORM's CARD OF 'laws.FnRiverAbove'. -/
def fnRiverAboveUptoCard : Claim7 := { stood := { row := fnRiverAboveUptoRow, standIns := [], harness := (true, "45f97f49764a27125b3be71c44a0b874d70a01374954869924233cef4ebaac57"), looks := true }, kinds := [], alts := [], laidByText := true, laidKinds := [.data, .data, .data, .handle], laidTests := true, laidLooks := .later }
def FnRiverAboveUptoCardSaid : Prop := Claim7.holds Tryd.pinned (.plain (OpenSpec.upto fnRiverAboveSpec)) fnRiverAboveUptoCard

/-- THE SECOND FORM's CARD OF 'laws.FnStoreBook'. -/
def fnStoreBookUptoCard : Claim7 := { stood := { row := fnStoreBookUptoRow, standIns := [], harness := (true, "45f97f49764a27125b3be71c44a0b874d70a01374954869924233cef4ebaac57"), looks := true }, kinds := [], alts := [], laidByText := true, laidKinds := [.data, .data, .data, .handle], laidTests := true, laidLooks := .later }
def FnStoreBookUptoCardSaid : Prop := Claim7.holds Tryd.pinned (.plain (OpenSpec.upto fnStoreBookSpec)) fnStoreBookUptoCard

/-- THE SECOND FORM's CARD OF 'laws.FnYield'. -/
def fnYieldUptoCard : Claim7 := { stood := { row := fnYieldUptoRow, standIns := [], harness := (true, "45f97f49764a27125b3be71c44a0b874d70a01374954869924233cef4ebaac57"), looks := true }, kinds := [], alts := [], laidByText := true, laidKinds := [.data, .data, .data, .handle], laidTests := true, laidLooks := .later }
def FnYieldUptoCardSaid : Prop := Claim7.holds Tryd.pinned (.plain (OpenSpec.upto fnYieldSpec)) fnYieldUptoCard
end Rows
end Go.Proofs.YtcelnplkoidmhabDoor
