/-
  DERIVED. GIVEN WITH THE SEED: THE CARDS: each row of YtcbdpbkkpdaolabDoorRows.lean that lists a variable, with what it lists TIED to the program's text (the seventh form; the later family's looks); each row that meets fmt, with fmt's text TOLD by the authors' own Lean function (tested against real Go, not proved from fmt's source: count such statements apart). THE CARD IS WHAT COUNTS. Prove the row's statement (the work); the ties are given (YtcbdpbkkpdaolabDoorTie.lean); close each card by the builder's one call (the guide's Derived/Test/ToyasCard.lean, 'card_holds'). Laid BY PROGRAM, IN A SANDBOX (cutbox-door.mjs). By AI agents, Wed Nov 11 2026. No macro, syntax, notation, axiom, sorry.
-/
import Derived.Test.YtcbdpbkkpdaolabDoorRows
import GoSem.ClaimSeven
namespace Go.Proofs.YtcbdpbkkpdaolabDoor
namespace Rows

/-- THE TIED CARD OF 'laws.FnRiverLeast'. -/
def fnRiverLeastCard : Claim7 := { stood := { row := fnRiverLeastRow, standIns := [], harness := (true, "07d4f3ae5868adc8cc077380ffe2a71b017d750265fa6776a433a05106b5cdb5"), looks := true }, kinds := [], alts := [], laidByText := true, laidKinds := [.data, .data, .data, .handle], laidTests := true, laidLooks := .later }
def FnRiverLeastCardSaid : Prop := Claim7.holds Tryd.pinned (.plain (OpenSpec.ofChange fnRiverLeastSpec)) fnRiverLeastCard

/-- THE TIED CARD OF 'laws.FnRiverAbove'. -/
def fnRiverAboveCard : Claim7 := { stood := { row := fnRiverAboveRow, standIns := [], harness := (true, "07d4f3ae5868adc8cc077380ffe2a71b017d750265fa6776a433a05106b5cdb5"), looks := true }, kinds := [], alts := [], laidByText := true, laidKinds := [.data, .data, .data, .handle], laidTests := true, laidLooks := .later }
def FnRiverAboveCardSaid : Prop := Claim7.holds Tryd.pinned (.plain (OpenSpec.ofChange fnRiverAboveSpec)) fnRiverAboveCard

/-- THE SECOND FORM's CARD OF 'laws.FnRiverLeast'. -/
def fnRiverLeastUptoCard : Claim7 := { stood := { row := fnRiverLeastUptoRow, standIns := [], harness := (true, "07d4f3ae5868adc8cc077380ffe2a71b017d750265fa6776a433a05106b5cdb5"), looks := true }, kinds := [], alts := [], laidByText := true, laidKinds := [.data, .data, .data, .handle], laidTests := true, laidLooks := .later }
def FnRiverLeastUptoCardSaid : Prop := Claim7.holds Tryd.pinned (.plain (OpenSpec.upto fnRiverLeastSpec)) fnRiverLeastUptoCard

/-- THE SECOND FORM's CARD OF 'laws.FnRiverAbove'. -/
def fnRiverAboveUptoCard : Claim7 := { stood := { row := fnRiverAboveUptoRow, standIns := [], harness := (true, "07d4f3ae5868adc8cc077380ffe2a71b017d750265fa6776a433a05106b5cdb5"), looks := true }, kinds := [], alts := [], laidByText := true, laidKinds := [.data, .data, .data, .handle], laidTests := true, laidLooks := .later }
def FnRiverAboveUptoCardSaid : Prop := Claim7.holds Tryd.pinned (.plain (OpenSpec.upto fnRiverAboveSpec)) fnRiverAboveUptoCard
end Rows
end Go.Proofs.YtcbdpbkkpdaolabDoor
