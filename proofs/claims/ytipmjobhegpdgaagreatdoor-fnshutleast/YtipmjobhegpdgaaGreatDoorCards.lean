/-
  DERIVED. GIVEN WITH THE SEED: THE CARDS: each row of YtipmjobhegpdgaaGreatDoorRows.lean that lists a variable, with what it lists TIED to the program's text (the seventh form; the later family's looks); each row that meets fmt, with fmt's text TOLD by the authors' own Lean function (tested against real Go, not proved from fmt's source: count such statements apart). THE CARD IS WHAT COUNTS. Prove the row's statement (the work); the ties are given (YtipmjobhegpdgaaGreatDoorTie.lean); close each card by the builder's one call (the guide's Derived/Test/ToyasCard.lean, 'card_holds'). Laid BY PROGRAM, IN A SANDBOX (cutbox-door.mjs). By AI agents, Wed Nov 11 2026. No macro, syntax, notation, axiom, sorry.
-/
import Derived.Test.YtipmjobhegpdgaaGreatDoorRows
import GoSem.ClaimSeven
namespace Go.Proofs.YtipmjobhegpdgaaGreatDoor
namespace Rows

/-- THE TIED CARD OF 'laws.FnExactLeastShut'. -/
def fnExactLeastShutCard : Claim7 := { stood := { row := fnExactLeastShutRow, standIns := [], harness := (true, "b34e2f58c5f2c4d865d51fca4f6e5a627cf0b79d918693e34b375ebe9809c5f7"), looks := true }, kinds := [], alts := [], laidByText := true, laidKinds := [.handle], laidTests := true, laidLooks := .later }
def FnExactLeastShutCardSaid : Prop := Claim7.holds Tryz.pinned (.plain (OpenSpec.ofChange fnExactLeastShutSpec)) fnExactLeastShutCard

/-- THE TIED CARD OF 'laws.FnShutOff'. -/
def fnShutOffCard : Claim7 := { stood := { row := fnShutOffRow, standIns := [], harness := (true, "b34e2f58c5f2c4d865d51fca4f6e5a627cf0b79d918693e34b375ebe9809c5f7"), looks := true }, kinds := [], alts := [], laidByText := true, laidKinds := [.handle], laidTests := true, laidLooks := .later }
def FnShutOffCardSaid : Prop := Claim7.holds Tryz.pinned (.plain (OpenSpec.ofChange fnShutOffSpec)) fnShutOffCard

/-- THE TIED CARD OF 'laws.FnShutLeast'. -/
def fnShutLeastCard : Claim7 := { stood := { row := fnShutLeastRow, standIns := [], harness := (true, "b34e2f58c5f2c4d865d51fca4f6e5a627cf0b79d918693e34b375ebe9809c5f7"), looks := true }, kinds := [], alts := [], laidByText := true, laidKinds := [.handle], laidTests := true, laidLooks := .later }
def FnShutLeastCardSaid : Prop := Claim7.holds Tryz.pinned (.plain (OpenSpec.ofChange fnShutLeastSpec)) fnShutLeastCard

/-- THE SECOND FORM's CARD OF 'laws.FnExactLeastShut'. -/
def fnExactLeastShutUptoCard : Claim7 := { stood := { row := fnExactLeastShutUptoRow, standIns := [], harness := (true, "b34e2f58c5f2c4d865d51fca4f6e5a627cf0b79d918693e34b375ebe9809c5f7"), looks := true }, kinds := [], alts := [], laidByText := true, laidKinds := [.handle], laidTests := true, laidLooks := .later }
def FnExactLeastShutUptoCardSaid : Prop := Claim7.holds Tryz.pinned (.plain (OpenSpec.upto fnExactLeastShutSpec)) fnExactLeastShutUptoCard

/-- THE SECOND FORM's CARD OF 'laws.FnShutOff'. -/
def fnShutOffUptoCard : Claim7 := { stood := { row := fnShutOffUptoRow, standIns := [], harness := (true, "b34e2f58c5f2c4d865d51fca4f6e5a627cf0b79d918693e34b375ebe9809c5f7"), looks := true }, kinds := [], alts := [], laidByText := true, laidKinds := [.handle], laidTests := true, laidLooks := .later }
def FnShutOffUptoCardSaid : Prop := Claim7.holds Tryz.pinned (.plain (OpenSpec.upto fnShutOffSpec)) fnShutOffUptoCard

/-- THE SECOND FORM's CARD OF 'laws.FnShutLeast'. -/
def fnShutLeastUptoCard : Claim7 := { stood := { row := fnShutLeastUptoRow, standIns := [], harness := (true, "b34e2f58c5f2c4d865d51fca4f6e5a627cf0b79d918693e34b375ebe9809c5f7"), looks := true }, kinds := [], alts := [], laidByText := true, laidKinds := [.handle], laidTests := true, laidLooks := .later }
def FnShutLeastUptoCardSaid : Prop := Claim7.holds Tryz.pinned (.plain (OpenSpec.upto fnShutLeastSpec)) fnShutLeastUptoCard
end Rows
end Go.Proofs.YtipmjobhegpdgaaGreatDoor
