/-
  DERIVED. GIVEN WITH THE SEED: THE CARDS: each row of YtganlipebndeoaaDoorRows.lean that lists a variable, with what it lists TIED to the program's text (the seventh form; the later family's looks); each row that meets fmt, with fmt's text TOLD by the authors' own Lean function (tested against real Go, not proved from fmt's source: count such statements apart). THE CARD IS WHAT COUNTS. Prove the row's statement (the work); the ties are given (YtganlipebndeoaaDoorTie.lean); close each card by the builder's one call (the guide's Derived/Test/ToyasCard.lean, 'card_holds'). Laid BY PROGRAM, IN A SANDBOX (cutbox-door.mjs). By AI agents, Wed Nov 11 2026. No macro, syntax, notation, axiom, sorry.
-/
import Derived.Test.YtganlipebndeoaaDoorRows
import GoSem.ClaimSeven
namespace Go.Proofs.YtganlipebndeoaaDoor
namespace Rows

/-- THE TIED CARD OF 'laws.FnExactWorkLeast'. -/
def fnExactWorkLeastCard : Claim7 := { stood := { row := fnExactWorkLeastRow, standIns := [], harness := (true, "ef8ca48a68bc6c8464795619883c17c22d1118e9b54009888389669dab7d7624"), looks := true }, kinds := [], alts := [], laidByText := true, laidKinds := [.handle], laidTests := true, laidLooks := .later }
def FnExactWorkLeastCardSaid : Prop := Claim7.holds Tryd.pinned (.plain (OpenSpec.ofChange fnExactWorkLeastSpec)) fnExactWorkLeastCard

/-- THE SECOND FORM's CARD OF 'laws.FnExactWorkLeast'. -/
def fnExactWorkLeastUptoCard : Claim7 := { stood := { row := fnExactWorkLeastUptoRow, standIns := [], harness := (true, "ef8ca48a68bc6c8464795619883c17c22d1118e9b54009888389669dab7d7624"), looks := true }, kinds := [], alts := [], laidByText := true, laidKinds := [.handle], laidTests := true, laidLooks := .later }
def FnExactWorkLeastUptoCardSaid : Prop := Claim7.holds Tryd.pinned (.plain (OpenSpec.upto fnExactWorkLeastSpec)) fnExactWorkLeastUptoCard
end Rows
end Go.Proofs.YtganlipebndeoaaDoor
