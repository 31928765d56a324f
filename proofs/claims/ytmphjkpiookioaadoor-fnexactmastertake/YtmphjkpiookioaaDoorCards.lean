/-
  DERIVED. GIVEN WITH THE SEED: THE CARDS: each row of YtmphjkpiookioaaDoorRows.lean that lists a variable, with what it lists TIED to the program's text (the seventh form; the later family's looks); each row that meets fmt, with fmt's text TOLD by the authors' own Lean function (tested against real Go, not proved from fmt's source: count such statements apart). THE CARD IS WHAT COUNTS. Prove the row's statement (the work); the ties are given (YtmphjkpiookioaaDoorTie.lean); close each card by the builder's one call (the guide's Derived/Test/ToyasCard.lean, 'card_holds'). Laid BY PROGRAM, IN A SANDBOX (cutbox-door.mjs). By AI agents, Wed Nov 11 2026. No macro, syntax, notation, axiom, sorry.
-/
import Derived.Test.YtmphjkpiookioaaDoorRows
import GoSem.ClaimSeven
namespace Go.Proofs.YtmphjkpiookioaaDoor
namespace Rows

/-- THE TIED CARD OF 'laws.FnExactStationSend'. -/
def fnExactStationSendCard : Claim7 := { stood := { row := fnExactStationSendRow, standIns := [], harness := (true, "740d1549f778056d070d041967d0d363c0edeb67352068a130c517a42ffc4f98"), looks := true }, kinds := [], alts := [], laidByText := true, laidKinds := [.data, .data, .data], laidTests := true, laidLooks := .later }
def FnExactStationSendCardSaid : Prop := Claim7.holds Tryd.pinned (.plain (OpenSpec.ofChange fnExactStationSendSpec)) fnExactStationSendCard

/-- THE TIED CARD OF 'laws.FnExactMasterTake'. -/
def fnExactMasterTakeCard : Claim7 := { stood := { row := fnExactMasterTakeRow, standIns := [], harness := (true, "740d1549f778056d070d041967d0d363c0edeb67352068a130c517a42ffc4f98"), looks := true }, kinds := [], alts := [], laidByText := true, laidKinds := [.data, .data, .data, .handle, .sentinel, .sentinel], laidTests := true, laidLooks := .later }
def FnExactMasterTakeCardSaid : Prop := Claim7.holds Tryd.pinned (.plain (OpenSpec.ofChange fnExactMasterTakeSpec)) fnExactMasterTakeCard

/-- THE SECOND FORM's CARD OF 'laws.FnExactStationSend'. -/
def fnExactStationSendUptoCard : Claim7 := { stood := { row := fnExactStationSendUptoRow, standIns := [], harness := (true, "740d1549f778056d070d041967d0d363c0edeb67352068a130c517a42ffc4f98"), looks := true }, kinds := [], alts := [], laidByText := true, laidKinds := [.data, .data, .data], laidTests := true, laidLooks := .later }
def FnExactStationSendUptoCardSaid : Prop := Claim7.holds Tryd.pinned (.plain (OpenSpec.upto fnExactStationSendSpec)) fnExactStationSendUptoCard

/-- THE SECOND FORM's CARD OF 'laws.FnExactMasterTake'. -/
def fnExactMasterTakeUptoCard : Claim7 := { stood := { row := fnExactMasterTakeUptoRow, standIns := [], harness := (true, "740d1549f778056d070d041967d0d363c0edeb67352068a130c517a42ffc4f98"), looks := true }, kinds := [], alts := [], laidByText := true, laidKinds := [.data, .data, .data, .handle, .sentinel, .sentinel], laidTests := true, laidLooks := .later }
def FnExactMasterTakeUptoCardSaid : Prop := Claim7.holds Tryd.pinned (.plain (OpenSpec.upto fnExactMasterTakeSpec)) fnExactMasterTakeUptoCard
end Rows
end Go.Proofs.YtmphjkpiookioaaDoor
