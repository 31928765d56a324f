/-
  DERIVED. GIVEN WITH THE SEED: THE CARDS: each row of YtogfjomfhenhfaaGreatDoorRows.lean that lists a variable, with what it lists TIED to the program's text (the seventh form; the later family's looks); each row that meets fmt, with fmt's text TOLD by the authors' own Lean function (tested against real Go, not proved from fmt's source: count such statements apart). THE CARD IS WHAT COUNTS. Prove the row's statement (the work); the ties are given (YtogfjomfhenhfaaGreatDoorTie.lean); close each card by the builder's one call (the guide's Derived/Test/ToyasCard.lean, 'card_holds'). Laid BY PROGRAM, IN A SANDBOX (cutbox-door.mjs). By AI agents, Wed Nov 11 2026. No macro, syntax, notation, axiom, sorry.
-/
import Derived.Test.YtogfjomfhenhfaaGreatDoorRows
import GoSem.ClaimSeven
namespace Go.Proofs.YtogfjomfhenhfaaGreatDoor
namespace Rows

/-- THE TIED CARD OF 'laws.FnGuarded'. -/
def fnGuardedCard : Claim7 := { stood := { row := fnGuardedRow, standIns := [], harness := (true, "8912a2eb98b03bc87465d328b5427c6d9f41419dbf55cd8f08ad8fabf315b541"), looks := true }, kinds := [], alts := [], laidByText := true, laidKinds := [.handle], laidTests := true, laidLooks := .later }
def FnGuardedCardSaid : Prop := Claim7.holds Tryz.pinned (.plain (OpenSpec.ofChange fnGuardedSpec)) fnGuardedCard

/-- THE TIED CARD OF 'laws.FnCompiled'. -/
def fnCompiledCard : Claim7 := { stood := { row := fnCompiledRow, standIns := [], harness := (true, "8912a2eb98b03bc87465d328b5427c6d9f41419dbf55cd8f08ad8fabf315b541"), looks := true }, kinds := [], alts := [], laidByText := true, laidKinds := [.data, .data, .data, .handle], laidTests := true, laidLooks := .later }
def FnCompiledCardSaid : Prop := Claim7.holds Tryz.pinned (.plain (OpenSpec.ofChange fnCompiledSpec)) fnCompiledCard

/-- THE TIED CARD OF 'laws.FnExactCodeCycle'. -/
def fnExactCodeCycleCard : Claim7 := { stood := { row := fnExactCodeCycleRow, standIns := [], harness := (true, "8912a2eb98b03bc87465d328b5427c6d9f41419dbf55cd8f08ad8fabf315b541"), looks := true }, kinds := [], alts := [], laidByText := true, laidKinds := [.data, .data, .data, .handle], laidTests := true, laidLooks := .later }
def FnExactCodeCycleCardSaid : Prop := Claim7.holds Tryz.pinned (.plain (OpenSpec.ofChange fnExactCodeCycleSpec)) fnExactCodeCycleCard

/-- THE SECOND FORM's CARD OF 'laws.FnGuarded'. -/
def fnGuardedUptoCard : Claim7 := { stood := { row := fnGuardedUptoRow, standIns := [], harness := (true, "8912a2eb98b03bc87465d328b5427c6d9f41419dbf55cd8f08ad8fabf315b541"), looks := true }, kinds := [], alts := [], laidByText := true, laidKinds := [.handle], laidTests := true, laidLooks := .later }
def FnGuardedUptoCardSaid : Prop := Claim7.holds Tryz.pinned (.plain (OpenSpec.upto fnGuardedSpec)) fnGuardedUptoCard

/-- THE SECOND FORM's CARD OF 'laws.FnCompiled'. -/
def fnCompiledUptoCard : Claim7 := { stood := { row := fnCompiledUptoRow, standIns := [], harness := (true, "8912a2eb98b03bc87465d328b5427c6d9f41419dbf55cd8f08ad8fabf315b541"), looks := true }, kinds := [], alts := [], laidByText := true, laidKinds := [.data, .data, .data, .handle], laidTests := true, laidLooks := .later }
def FnCompiledUptoCardSaid : Prop := Claim7.holds Tryz.pinned (.plain (OpenSpec.upto fnCompiledSpec)) fnCompiledUptoCard

/-- THE SECOND FORM's CARD OF 'laws.FnExactCodeCycle'. -/
def fnExactCodeCycleUptoCard : Claim7 := { stood := { row := fnExactCodeCycleUptoRow, standIns := [], harness := (true, "8912a2eb98b03bc87465d328b5427c6d9f41419dbf55cd8f08ad8fabf315b541"), looks := true }, kinds := [], alts := [], laidByText := true, laidKinds := [.data, .data, .data, .handle], laidTests := true, laidLooks := .later }
def FnExactCodeCycleUptoCardSaid : Prop := Claim7.holds Tryz.pinned (.plain (OpenSpec.upto fnExactCodeCycleSpec)) fnExactCodeCycleUptoCard
end Rows
end Go.Proofs.YtogfjomfhenhfaaGreatDoor
