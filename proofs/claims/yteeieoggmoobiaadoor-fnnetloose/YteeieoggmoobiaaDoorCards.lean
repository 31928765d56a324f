/-
  DERIVED. GIVEN WITH THE SEED: THE CARDS: each row of YteeieoggmoobiaaDoorRows.lean that lists a variable, with what it lists TIED to the program's text (the seventh form; the later family's looks); each row that meets fmt, with fmt's text TOLD by the authors' own Lean function (tested against real Go, not proved from fmt's source: count such statements apart). THE CARD IS WHAT COUNTS. Prove the row's statement (the work); the ties are given (YteeieoggmoobiaaDoorTie.lean); close each card by the builder's one call (the guide's Derived/Test/ToyasCard.lean, 'card_holds'). Laid BY PROGRAM, IN A SANDBOX (cutbox-door.mjs). By AI agents, Wed Nov 11 2026. No macro, syntax, notation, axiom, sorry.
-/
import Derived.Test.YteeieoggmoobiaaDoorRows
import GoSem.ClaimSeven
namespace Go.Proofs.YteeieoggmoobiaaDoor
namespace Rows

/-- THE TIED CARD OF 'laws.FnNetSolves'. -/
def fnNetSolvesCard : Claim7 := { stood := { row := fnNetSolvesRow, standIns := [], harness := (true, "bda93726b054b0871620e621736ddb485e8e884441684d7dd35de30f1ecb01de"), looks := true }, kinds := [], alts := [], laidByText := true, laidKinds := [.handle], laidTests := true, laidLooks := .later }
def FnNetSolvesCardSaid : Prop := Claim7.holds Tryd.pinned (.plain (OpenSpec.ofChange fnNetSolvesSpec)) fnNetSolvesCard

/-- THE TIED CARD OF 'laws.FnNetLoose'. -/
def fnNetLooseCard : Claim7 := { stood := { row := fnNetLooseRow, standIns := [], harness := (true, "bda93726b054b0871620e621736ddb485e8e884441684d7dd35de30f1ecb01de"), looks := true }, kinds := [], alts := [], laidByText := true, laidKinds := [.handle], laidTests := true, laidLooks := .later }
def FnNetLooseCardSaid : Prop := Claim7.holds Tryd.pinned (.plain (OpenSpec.ofChange fnNetLooseSpec)) fnNetLooseCard

/-- THE SECOND FORM's CARD OF 'laws.FnNetSolves'. -/
def fnNetSolvesUptoCard : Claim7 := { stood := { row := fnNetSolvesUptoRow, standIns := [], harness := (true, "bda93726b054b0871620e621736ddb485e8e884441684d7dd35de30f1ecb01de"), looks := true }, kinds := [], alts := [], laidByText := true, laidKinds := [.handle], laidTests := true, laidLooks := .later }
def FnNetSolvesUptoCardSaid : Prop := Claim7.holds Tryd.pinned (.plain (OpenSpec.upto fnNetSolvesSpec)) fnNetSolvesUptoCard

/-- THE SECOND FORM's CARD OF 'laws.FnNetLoose'. -/
def fnNetLooseUptoCard : Claim7 := { stood := { row := fnNetLooseUptoRow, standIns := [], harness := (true, "bda93726b054b0871620e621736ddb485e8e884441684d7dd35de30f1ecb01de"), looks := true }, kinds := [], alts := [], laidByText := true, laidKinds := [.handle], laidTests := true, laidLooks := .later }
def FnNetLooseUptoCardSaid : Prop := Claim7.holds Tryd.pinned (.plain (OpenSpec.upto fnNetLooseSpec)) fnNetLooseUptoCard
end Rows
end Go.Proofs.YteeieoggmoobiaaDoor
