/-
  DERIVED. GIVEN WITH THE SEED: THE CARDS: each row of YtaebmfengmmpjaaDoorRows.lean that lists a variable, with what it lists TIED to the program's text (the seventh form; the later family's looks); each row that meets fmt, with fmt's text TOLD by the authors' own Lean function (tested against real Go, not proved from fmt's source: count such statements apart). THE CARD IS WHAT COUNTS. Prove the row's statement (the work); the ties are given (YtaebmfengmmpjaaDoorTie.lean); close each card by the builder's one call (the guide's Derived/Test/ToyasCard.lean, 'card_holds'). Laid BY PROGRAM, IN A SANDBOX (cutbox-door.mjs). By AI agents, Wed Nov 11 2026. No macro, syntax, notation, axiom, sorry.
-/
import Derived.Test.YtaebmfengmmpjaaDoorRows
import GoSem.ClaimSeven
namespace Go.Proofs.YtaebmfengmmpjaaDoor
namespace Rows

/-- THE TIED CARD OF 'laws.FnRiverBook'. -/
def fnRiverBookCard : Claim7 := { stood := { row := fnRiverBookRow, standIns := [], harness := (true, "33dd09c5d25204cd267abff35e2184ab0be3da5a2e2995fb09adccc2b6198e99"), looks := true }, kinds := [], alts := [], laidByText := true, laidKinds := [.data, .data, .data, .handle], laidTests := true, laidLooks := .later }
def FnRiverBookCardSaid : Prop := Claim7.holds Tryd.pinned (.plain (OpenSpec.ofChange fnRiverBookSpec)) fnRiverBookCard

/-- THE SECOND FORM's CARD OF 'laws.FnRiverBook'. -/
def fnRiverBookUptoCard : Claim7 := { stood := { row := fnRiverBookUptoRow, standIns := [], harness := (true, "33dd09c5d25204cd267abff35e2184ab0be3da5a2e2995fb09adccc2b6198e99"), looks := true }, kinds := [], alts := [], laidByText := true, laidKinds := [.data, .data, .data, .handle], laidTests := true, laidLooks := .later }
def FnRiverBookUptoCardSaid : Prop := Claim7.holds Tryd.pinned (.plain (OpenSpec.upto fnRiverBookSpec)) fnRiverBookUptoCard
end Rows
end Go.Proofs.YtaebmfengmmpjaaDoor
