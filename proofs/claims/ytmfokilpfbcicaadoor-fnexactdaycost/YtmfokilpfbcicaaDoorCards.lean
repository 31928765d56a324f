/-
  DERIVED. GIVEN WITH THE SEED: THE CARDS: each row of YtmfokilpfbcicaaDoorRows.lean that lists a variable, with what it lists TIED to the program's text (the seventh form; the later family's looks); each row that meets fmt, with fmt's text TOLD by the authors' own Lean function (tested against real Go, not proved from fmt's source: count such statements apart). THE CARD IS WHAT COUNTS. Prove the row's statement (the work); the ties are given (YtmfokilpfbcicaaDoorTie.lean); close each card by the builder's one call (the guide's Derived/Test/ToyasCard.lean, 'card_holds'). Laid BY PROGRAM, IN A SANDBOX (cutbox-door.mjs). By AI agents, Wed Nov 11 2026. No macro, syntax, notation, axiom, sorry.
-/
import Derived.Test.YtmfokilpfbcicaaDoorRows
import GoSem.ClaimSeven
namespace Go.Proofs.YtmfokilpfbcicaaDoor
namespace Rows

/-- THE TIED CARD OF 'laws.FnExactDayCost'. -/
def fnExactDayCostCard : Claim7 := { stood := { row := fnExactDayCostRow, standIns := [], harness := (true, "ffa15930c83c3aac47902c6ef11e209b726325c4099af790b58f518fddbef4e4"), looks := true }, kinds := [], alts := [], laidByText := true, laidKinds := [.data, .data, .data, .handle], laidTests := true, laidLooks := .later }
def FnExactDayCostCardSaid : Prop := Claim7.holds Tryd.pinned (.plain (OpenSpec.ofChange fnExactDayCostSpec)) fnExactDayCostCard

/-- THE SECOND FORM's CARD OF 'laws.FnExactDayCost'. -/
def fnExactDayCostUptoCard : Claim7 := { stood := { row := fnExactDayCostUptoRow, standIns := [], harness := (true, "ffa15930c83c3aac47902c6ef11e209b726325c4099af790b58f518fddbef4e4"), looks := true }, kinds := [], alts := [], laidByText := true, laidKinds := [.data, .data, .data, .handle], laidTests := true, laidLooks := .later }
def FnExactDayCostUptoCardSaid : Prop := Claim7.holds Tryd.pinned (.plain (OpenSpec.upto fnExactDayCostSpec)) fnExactDayCostUptoCard
end Rows
end Go.Proofs.YtmfokilpfbcicaaDoor
