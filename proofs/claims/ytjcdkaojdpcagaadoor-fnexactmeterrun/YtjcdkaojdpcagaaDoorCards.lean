/-
  DERIVED. GIVEN WITH THE SEED: THE CARDS: each row of YtjcdkaojdpcagaaDoorRows.lean that lists a variable, with what it lists TIED to the program's text (the seventh form; the later family's looks); each row that meets fmt, with fmt's text TOLD by the authors' own Lean function (tested against real Go, not proved from fmt's source: count such statements apart). THE CARD IS WHAT COUNTS. Prove the row's statement (the work); the ties are given (YtjcdkaojdpcagaaDoorTie.lean); close each card by the builder's one call (the guide's Derived/Test/ToyasCard.lean, 'card_holds'). Laid BY PROGRAM, IN A SANDBOX (cutbox-door.mjs). By AI agents, Wed Nov 11 2026. No macro, syntax, notation, axiom, sorry.
-/
import Derived.Test.YtjcdkaojdpcagaaDoorRows
import GoSem.ClaimSeven
namespace Go.Proofs.YtjcdkaojdpcagaaDoor
namespace Rows

/-- THE TIED CARD OF 'laws.FnExactMeterRead'. -/
def fnExactMeterReadCard : Claim7 := { stood := { row := fnExactMeterReadRow, standIns := [], harness := (true, "2c65398431bcede1bc715e80a84b00424a1bba11c9c92f04aa27d6e9b4aca698"), looks := true }, kinds := [], alts := [], laidByText := true, laidKinds := [.handle], laidTests := true, laidLooks := .later }
def FnExactMeterReadCardSaid : Prop := Claim7.holds Tryd.pinned (.plain (OpenSpec.ofChange fnExactMeterReadSpec)) fnExactMeterReadCard

/-- THE TIED CARD OF 'laws.FnExactMeterRun'. -/
def fnExactMeterRunCard : Claim7 := { stood := { row := fnExactMeterRunRow, standIns := [], harness := (true, "2c65398431bcede1bc715e80a84b00424a1bba11c9c92f04aa27d6e9b4aca698"), looks := true }, kinds := [], alts := [], laidByText := true, laidKinds := [.data, .data, .data, .handle], laidTests := true, laidLooks := .later }
def FnExactMeterRunCardSaid : Prop := Claim7.holds Tryd.pinned (.plain (OpenSpec.ofChange fnExactMeterRunSpec)) fnExactMeterRunCard

/-- THE SECOND FORM's CARD OF 'laws.FnExactMeterRead'. -/
def fnExactMeterReadUptoCard : Claim7 := { stood := { row := fnExactMeterReadUptoRow, standIns := [], harness := (true, "2c65398431bcede1bc715e80a84b00424a1bba11c9c92f04aa27d6e9b4aca698"), looks := true }, kinds := [], alts := [], laidByText := true, laidKinds := [.handle], laidTests := true, laidLooks := .later }
def FnExactMeterReadUptoCardSaid : Prop := Claim7.holds Tryd.pinned (.plain (OpenSpec.upto fnExactMeterReadSpec)) fnExactMeterReadUptoCard

/-- THE SECOND FORM's CARD OF 'laws.FnExactMeterRun'. -/
def fnExactMeterRunUptoCard : Claim7 := { stood := { row := fnExactMeterRunUptoRow, standIns := [], harness := (true, "2c65398431bcede1bc715e80a84b00424a1bba11c9c92f04aa27d6e9b4aca698"), looks := true }, kinds := [], alts := [], laidByText := true, laidKinds := [.data, .data, .data, .handle], laidTests := true, laidLooks := .later }
def FnExactMeterRunUptoCardSaid : Prop := Claim7.holds Tryd.pinned (.plain (OpenSpec.upto fnExactMeterRunSpec)) fnExactMeterRunUptoCard
end Rows
end Go.Proofs.YtjcdkaojdpcagaaDoor
