/-
  DERIVED. GIVEN WITH THE SEED: THE CARDS: each row of YthcgffnkpeiddaaGreatDoorRows.lean that lists a variable, with what it lists TIED to the program's text (the seventh form; the later family's looks); each row that meets fmt, with fmt's text TOLD by the authors' own Lean function (tested against real Go, not proved from fmt's source: count such statements apart). THE CARD IS WHAT COUNTS. Prove the row's statement (the work); the ties are given (YthcgffnkpeiddaaGreatDoorTie.lean); close each card by the builder's one call (the guide's Derived/Test/ToyasCard.lean, 'card_holds'). Laid BY PROGRAM, IN A SANDBOX (cutbox-door.mjs). By AI agents, Wed Nov 11 2026. No macro, syntax, notation, axiom, sorry.
-/
import Derived.Test.YthcgffnkpeiddaaGreatDoorRows
import GoSem.ClaimSeven
namespace Go.Proofs.YthcgffnkpeiddaaGreatDoor
namespace Rows

/-- THE TIED CARD OF 'laws.FnExactMainsRound'. -/
def fnExactMainsRoundCard : Claim7 := { stood := { row := fnExactMainsRoundRow, standIns := [], harness := (true, "f8de8bbc4852c8a05915ee967b6e31ad27d9eefaa9d9195b6e84405725ca4983"), looks := true }, kinds := [], alts := [], laidByText := true, laidKinds := [.handle], laidTests := true, laidLooks := .later }
def FnExactMainsRoundCardSaid : Prop := Claim7.holds Tryz.pinned (.plain (OpenSpec.ofChange fnExactMainsRoundSpec)) fnExactMainsRoundCard

/-- THE TIED CARD OF 'laws.FnExactMainsSolve'. -/
def fnExactMainsSolveCard : Claim7 := { stood := { row := fnExactMainsSolveRow, standIns := [], harness := (true, "f8de8bbc4852c8a05915ee967b6e31ad27d9eefaa9d9195b6e84405725ca4983"), looks := true }, kinds := [], alts := [], laidByText := true, laidKinds := [.handle], laidTests := true, laidLooks := .later }
def FnExactMainsSolveCardSaid : Prop := Claim7.holds Tryz.pinned (.plain (OpenSpec.ofChange fnExactMainsSolveSpec)) fnExactMainsSolveCard

/-- THE SECOND FORM's CARD OF 'laws.FnExactMainsRound'. -/
def fnExactMainsRoundUptoCard : Claim7 := { stood := { row := fnExactMainsRoundUptoRow, standIns := [], harness := (true, "f8de8bbc4852c8a05915ee967b6e31ad27d9eefaa9d9195b6e84405725ca4983"), looks := true }, kinds := [], alts := [], laidByText := true, laidKinds := [.handle], laidTests := true, laidLooks := .later }
def FnExactMainsRoundUptoCardSaid : Prop := Claim7.holds Tryz.pinned (.plain (OpenSpec.upto fnExactMainsRoundSpec)) fnExactMainsRoundUptoCard

/-- THE SECOND FORM's CARD OF 'laws.FnExactMainsSolve'. -/
def fnExactMainsSolveUptoCard : Claim7 := { stood := { row := fnExactMainsSolveUptoRow, standIns := [], harness := (true, "f8de8bbc4852c8a05915ee967b6e31ad27d9eefaa9d9195b6e84405725ca4983"), looks := true }, kinds := [], alts := [], laidByText := true, laidKinds := [.handle], laidTests := true, laidLooks := .later }
def FnExactMainsSolveUptoCardSaid : Prop := Claim7.holds Tryz.pinned (.plain (OpenSpec.upto fnExactMainsSolveSpec)) fnExactMainsSolveUptoCard
end Rows
end Go.Proofs.YthcgffnkpeiddaaGreatDoor
