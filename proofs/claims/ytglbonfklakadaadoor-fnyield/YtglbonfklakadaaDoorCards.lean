/-
  DERIVED. GIVEN WITH THE SEED: THE CARDS: each row of YtglbonfklakadaaDoorRows.lean that lists a variable, with what it lists TIED to the program's text (the seventh form; the later family's looks); each row that meets fmt, with fmt's text TOLD by the authors' own Lean function (tested against real Go, not proved from fmt's source: count such statements apart). THE CARD IS WHAT COUNTS. Prove the row's statement (the work); the ties are given (YtglbonfklakadaaDoorTie.lean); close each card by the builder's one call (the guide's Derived/Test/ToyasCard.lean, 'card_holds'). Laid BY PROGRAM, IN A SANDBOX (cutbox-door.mjs). By AI agents, Wed Nov 11 2026. No macro, syntax, notation, axiom, sorry.
-/
import Derived.Test.YtglbonfklakadaaDoorRows
import GoSem.ClaimSeven
namespace Go.Proofs.YtglbonfklakadaaDoor
namespace Rows

/-- THE TIED CARD OF 'laws.FnYield'. -/
def fnYieldCard : Claim7 := { stood := { row := fnYieldRow, standIns := [], harness := (true, "bc610d97cfd78b499e840ef03741fb9140e1febe4bf58debb843f399069edfe3"), looks := true }, kinds := [], alts := [], laidByText := true, laidKinds := [.data, .data, .data, .handle], laidTests := true, laidLooks := .later }
def FnYieldCardSaid : Prop := Claim7.holds Tryd.pinned (.plain (OpenSpec.ofChange fnYieldSpec)) fnYieldCard

/-- THE SECOND FORM's CARD OF 'laws.FnYield'. -/
def fnYieldUptoCard : Claim7 := { stood := { row := fnYieldUptoRow, standIns := [], harness := (true, "bc610d97cfd78b499e840ef03741fb9140e1febe4bf58debb843f399069edfe3"), looks := true }, kinds := [], alts := [], laidByText := true, laidKinds := [.data, .data, .data, .handle], laidTests := true, laidLooks := .later }
def FnYieldUptoCardSaid : Prop := Claim7.holds Tryd.pinned (.plain (OpenSpec.upto fnYieldSpec)) fnYieldUptoCard
end Rows
end Go.Proofs.YtglbonfklakadaaDoor
