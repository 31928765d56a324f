/-
  DERIVED. GIVEN WITH THE SEED: THE CARDS: each row of YtokbhkcpkilcmaaDoorRows.lean that lists a variable, with what it lists TIED to the program's text (the seventh form; the later family's looks); each row that meets fmt, with fmt's text TOLD by the authors' own Lean function (tested against real Go, not proved from fmt's source: count such statements apart). THE CARD IS WHAT COUNTS. Prove the row's statement (the work); the ties are given (YtokbhkcpkilcmaaDoorTie.lean); close each card by the builder's one call (the guide's Derived/Test/ToyasCard.lean, 'card_holds'). Laid BY PROGRAM, IN A SANDBOX (cutbox-door.mjs). By AI agents, Wed Nov 11 2026. No macro, syntax, notation, axiom, sorry.
-/
import Derived.Test.YtokbhkcpkilcmaaDoorRows
import GoSem.ClaimSeven
namespace Go.Proofs.YtokbhkcpkilcmaaDoor
namespace Rows

/-- THE TIED CARD OF 'laws.FnExactSewerStep'. -/
def fnExactSewerStepCard : Claim7 := { stood := { row := fnExactSewerStepRow, standIns := [], harness := (true, "03a6cdbcc7b9c225d2ca16121b5bb9cafa7ae5c29ecd5fe426db0cb81c5957fb"), looks := true }, kinds := [], alts := [], laidByText := true, laidKinds := [.handle], laidTests := true, laidLooks := .later }
def FnExactSewerStepCardSaid : Prop := Claim7.holds Tryd.pinned (.plain (OpenSpec.ofChange fnExactSewerStepSpec)) fnExactSewerStepCard

/-- THE TIED CARD OF 'laws.FnExactSewerSpills'. -/
def fnExactSewerSpillsCard : Claim7 := { stood := { row := fnExactSewerSpillsRow, standIns := [], harness := (true, "03a6cdbcc7b9c225d2ca16121b5bb9cafa7ae5c29ecd5fe426db0cb81c5957fb"), looks := true }, kinds := [], alts := [], laidByText := true, laidKinds := [.data, .data, .data, .handle], laidTests := true, laidLooks := .later }
def FnExactSewerSpillsCardSaid : Prop := Claim7.holds Tryd.pinned (.plain (OpenSpec.ofChange fnExactSewerSpillsSpec)) fnExactSewerSpillsCard

/-- THE TIED CARD OF 'laws.FnExactSewerRun'. -/
def fnExactSewerRunCard : Claim7 := { stood := { row := fnExactSewerRunRow, standIns := [], harness := (true, "03a6cdbcc7b9c225d2ca16121b5bb9cafa7ae5c29ecd5fe426db0cb81c5957fb"), looks := true }, kinds := [], alts := [], laidByText := true, laidKinds := [.data, .data, .data, .handle], laidTests := true, laidLooks := .later }
def FnExactSewerRunCardSaid : Prop := Claim7.holds Tryd.pinned (.plain (OpenSpec.ofChange fnExactSewerRunSpec)) fnExactSewerRunCard

/-- THE TIED CARD OF 'laws.FnSewerBook'. -/
def fnSewerBookCard : Claim7 := { stood := { row := fnSewerBookRow, standIns := [], harness := (true, "03a6cdbcc7b9c225d2ca16121b5bb9cafa7ae5c29ecd5fe426db0cb81c5957fb"), looks := true }, kinds := [], alts := [], laidByText := true, laidKinds := [.data, .data, .data, .handle], laidTests := true, laidLooks := .later }
def FnSewerBookCardSaid : Prop := Claim7.holds Tryd.pinned (.plain (OpenSpec.ofChange fnSewerBookSpec)) fnSewerBookCard

/-- THE SECOND FORM's CARD OF 'laws.FnExactSewerStep'. -/
def fnExactSewerStepUptoCard : Claim7 := { stood := { row := fnExactSewerStepUptoRow, standIns := [], harness := (true, "03a6cdbcc7b9c225d2ca16121b5bb9cafa7ae5c29ecd5fe426db0cb81c5957fb"), looks := true }, kinds := [], alts := [], laidByText := true, laidKinds := [.handle], laidTests := true, laidLooks := .later }
def FnExactSewerStepUptoCardSaid : Prop := Claim7.holds Tryd.pinned (.plain (OpenSpec.upto fnExactSewerStepSpec)) fnExactSewerStepUptoCard

/-- THE SECOND FORM's CARD OF 'laws.FnExactSewerSpills'. -/
def fnExactSewerSpillsUptoCard : Claim7 := { stood := { row := fnExactSewerSpillsUptoRow, standIns := [], harness := (true, "03a6cdbcc7b9c225d2ca16121b5bb9cafa7ae5c29ecd5fe426db0cb81c5957fb"), looks := true }, kinds := [], alts := [], laidByText := true, laidKinds := [.data, .data, .data, .handle], laidTests := true, laidLooks := .later }
def FnExactSewerSpillsUptoCardSaid : Prop := Claim7.holds Tryd.pinned (.plain (OpenSpec.upto fnExactSewerSpillsSpec)) fnExactSewerSpillsUptoCard

/-- THE SECOND FORM's CARD OF 'laws.FnExactSewerRun'. -/
def fnExactSewerRunUptoCard : Claim7 := { stood := { row := fnExactSewerRunUptoRow, standIns := [], harness := (true, "03a6cdbcc7b9c225d2ca16121b5bb9cafa7ae5c29ecd5fe426db0cb81c5957fb"), looks := true }, kinds := [], alts := [], laidByText := true, laidKinds := [.data, .data, .data, .handle], laidTests := true, laidLooks := .later }
def FnExactSewerRunUptoCardSaid : Prop := Claim7.holds Tryd.pinned (.plain (OpenSpec.upto fnExactSewerRunSpec)) fnExactSewerRunUptoCard

/-- THE SECOND FORM's CARD OF 'laws.FnSewerBook'. -/
def fnSewerBookUptoCard : Claim7 := { stood := { row := fnSewerBookUptoRow, standIns := [], harness := (true, "03a6cdbcc7b9c225d2ca16121b5bb9cafa7ae5c29ecd5fe426db0cb81c5957fb"), looks := true }, kinds := [], alts := [], laidByText := true, laidKinds := [.data, .data, .data, .handle], laidTests := true, laidLooks := .later }
def FnSewerBookUptoCardSaid : Prop := Claim7.holds Tryd.pinned (.plain (OpenSpec.upto fnSewerBookSpec)) fnSewerBookUptoCard
end Rows
end Go.Proofs.YtokbhkcpkilcmaaDoor
