/-
  DERIVED. GIVEN WITH THE SEED: THE CARDS: each row of YtcjeieagpcphjaaDoorRows.lean that lists a variable, with what it lists TIED to the program's text (the seventh form; the later family's looks); each row that meets fmt, with fmt's text TOLD by the authors' own Lean function (tested against real Go, not proved from fmt's source: count such statements apart). THE CARD IS WHAT COUNTS. Prove the row's statement (the work); the ties are given (YtcjeieagpcphjaaDoorTie.lean); close each card by the builder's one call (the guide's Derived/Test/ToyasCard.lean, 'card_holds'). Laid BY PROGRAM, IN A SANDBOX (cutbox-door.mjs). By AI agents, Wed Nov 11 2026. No macro, syntax, notation, axiom, sorry.
-/
import Derived.Test.YtcjeieagpcphjaaDoorRows
import GoSem.ClaimSeven
namespace Go.Proofs.YtcjeieagpcphjaaDoor
namespace Rows

/-- THE TIED CARD OF 'laws.FnExactPlantRun'. -/
def fnExactPlantRunCard : Claim7 := { stood := { row := fnExactPlantRunRow, standIns := [], harness := (true, "3653787519cb954063d9981f555561ca4e21b26f1ef61a524a12dc38596f7a59"), looks := true }, kinds := [], alts := [], laidByText := true, laidKinds := [.data, .data, .data, .handle], laidTests := true, laidLooks := .later }
def FnExactPlantRunCardSaid : Prop := Claim7.holds Tryd.pinned (.plain (OpenSpec.ofChange fnExactPlantRunSpec)) fnExactPlantRunCard

/-- THE TIED CARD OF 'laws.FnPlantBook'. -/
def fnPlantBookCard : Claim7 := { stood := { row := fnPlantBookRow, standIns := [], harness := (true, "3653787519cb954063d9981f555561ca4e21b26f1ef61a524a12dc38596f7a59"), looks := true }, kinds := [], alts := [], laidByText := true, laidKinds := [.data, .data, .data, .handle], laidTests := true, laidLooks := .later }
def FnPlantBookCardSaid : Prop := Claim7.holds Tryd.pinned (.plain (OpenSpec.ofChange fnPlantBookSpec)) fnPlantBookCard

/-- THE SECOND FORM's CARD OF 'laws.FnExactPlantRun'. -/
def fnExactPlantRunUptoCard : Claim7 := { stood := { row := fnExactPlantRunUptoRow, standIns := [], harness := (true, "3653787519cb954063d9981f555561ca4e21b26f1ef61a524a12dc38596f7a59"), looks := true }, kinds := [], alts := [], laidByText := true, laidKinds := [.data, .data, .data, .handle], laidTests := true, laidLooks := .later }
def FnExactPlantRunUptoCardSaid : Prop := Claim7.holds Tryd.pinned (.plain (OpenSpec.upto fnExactPlantRunSpec)) fnExactPlantRunUptoCard

/-- THE SECOND FORM's CARD OF 'laws.FnPlantBook'. -/
def fnPlantBookUptoCard : Claim7 := { stood := { row := fnPlantBookUptoRow, standIns := [], harness := (true, "3653787519cb954063d9981f555561ca4e21b26f1ef61a524a12dc38596f7a59"), looks := true }, kinds := [], alts := [], laidByText := true, laidKinds := [.data, .data, .data, .handle], laidTests := true, laidLooks := .later }
def FnPlantBookUptoCardSaid : Prop := Claim7.holds Tryd.pinned (.plain (OpenSpec.upto fnPlantBookSpec)) fnPlantBookUptoCard
end Rows
end Go.Proofs.YtcjeieagpcphjaaDoor
