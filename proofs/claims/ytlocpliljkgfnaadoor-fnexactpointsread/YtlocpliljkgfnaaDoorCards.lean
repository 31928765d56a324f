/-
  DERIVED. GIVEN WITH THE SEED: THE CARDS: each row of YtlocpliljkgfnaaDoorRows.lean that lists a variable, with what it lists TIED to the program's text (the seventh form; the later family's looks); each row that meets fmt, with fmt's text TOLD by the authors' own Lean function (tested against real Go, not proved from fmt's source: count such statements apart). THE CARD IS WHAT COUNTS. Prove the row's statement (the work); the ties are given (YtlocpliljkgfnaaDoorTie.lean); close each card by the builder's one call (the guide's Derived/Test/ToyasCard.lean, 'card_holds'). Laid BY PROGRAM, IN A SANDBOX (cutbox-door.mjs). By AI agents, Wed Nov 11 2026. No macro, syntax, notation, axiom, sorry.
-/
import Derived.Test.YtlocpliljkgfnaaDoorRows
import GoSem.ClaimSeven
namespace Go.Proofs.YtlocpliljkgfnaaDoor
namespace Rows

/-- THE TIED CARD OF 'laws.FnExactPointsRead'. -/
def fnExactPointsReadCard : Claim7 := { stood := { row := fnExactPointsReadRow, standIns := [], harness := (true, "474fdf177427ea54c5760093b6591ba71b67088c104526e3ad6efb2cc0d32f7a"), looks := true }, kinds := [], alts := [], laidByText := true, laidKinds := [.handle], laidTests := true, laidLooks := .later }
def FnExactPointsReadCardSaid : Prop := Claim7.holds Tryd.pinned (.plain (OpenSpec.ofChange fnExactPointsReadSpec)) fnExactPointsReadCard

/-- THE TIED CARD OF 'laws.FnPointsBack'. -/
def fnPointsBackCard : Claim7 := { stood := { row := fnPointsBackRow, standIns := [], harness := (true, "474fdf177427ea54c5760093b6591ba71b67088c104526e3ad6efb2cc0d32f7a"), looks := true }, kinds := [], alts := [], laidByText := true, laidKinds := [.handle], laidTests := true, laidLooks := .later }
def FnPointsBackCardSaid : Prop := Claim7.holds Tryd.pinned (.plain (OpenSpec.ofChange fnPointsBackSpec)) fnPointsBackCard

/-- THE SECOND FORM's CARD OF 'laws.FnExactPointsRead'. -/
def fnExactPointsReadUptoCard : Claim7 := { stood := { row := fnExactPointsReadUptoRow, standIns := [], harness := (true, "474fdf177427ea54c5760093b6591ba71b67088c104526e3ad6efb2cc0d32f7a"), looks := true }, kinds := [], alts := [], laidByText := true, laidKinds := [.handle], laidTests := true, laidLooks := .later }
def FnExactPointsReadUptoCardSaid : Prop := Claim7.holds Tryd.pinned (.plain (OpenSpec.upto fnExactPointsReadSpec)) fnExactPointsReadUptoCard

/-- THE SECOND FORM's CARD OF 'laws.FnPointsBack'. -/
def fnPointsBackUptoCard : Claim7 := { stood := { row := fnPointsBackUptoRow, standIns := [], harness := (true, "474fdf177427ea54c5760093b6591ba71b67088c104526e3ad6efb2cc0d32f7a"), looks := true }, kinds := [], alts := [], laidByText := true, laidKinds := [.handle], laidTests := true, laidLooks := .later }
def FnPointsBackUptoCardSaid : Prop := Claim7.holds Tryd.pinned (.plain (OpenSpec.upto fnPointsBackSpec)) fnPointsBackUptoCard
end Rows
end Go.Proofs.YtlocpliljkgfnaaDoor
