/-
  DERIVED. GIVEN WITH THE SEED: THE CARDS: each row of YtoeibcmmpbkbpaaDoorRows.lean that lists a variable, with what it lists TIED to the program's text (the seventh form; the later family's looks); each row that meets fmt, with fmt's text TOLD by the authors' own Lean function (tested against real Go, not proved from fmt's source: count such statements apart). THE CARD IS WHAT COUNTS. Prove the row's statement (the work); the ties are given (YtoeibcmmpbkbpaaDoorTie.lean); close each card by the builder's one call (the guide's Derived/Test/ToyasCard.lean, 'card_holds'). Laid BY PROGRAM, IN A SANDBOX (cutbox-door.mjs). By AI agents, Wed Nov 11 2026. No macro, syntax, notation, axiom, sorry.
-/
import Derived.Test.YtoeibcmmpbkbpaaDoorRows
import GoSem.ClaimSeven
namespace Go.Proofs.YtoeibcmmpbkbpaaDoor
namespace Rows

/-- THE TIED CARD OF 'laws.FnRiverBook'. -/
def fnRiverBookCard : Claim7 := { stood := { row := fnRiverBookRow, standIns := [], harness := (true, "29dcadb0cacf3add46e3c3d727b4d42feeb144f01fe406b3d9cc77ccb018b3cb"), looks := true }, kinds := [], alts := [], laidByText := true, laidKinds := [.data, .data, .data, .handle], laidTests := true, laidLooks := .later }
def FnRiverBookCardSaid : Prop := Claim7.holds Tryd.pinned (.plain (OpenSpec.ofChange fnRiverBookSpec)) fnRiverBookCard

/-- THE TIED CARD OF 'laws.FnYield'. -/
def fnYieldCard : Claim7 := { stood := { row := fnYieldRow, standIns := [], harness := (true, "29dcadb0cacf3add46e3c3d727b4d42feeb144f01fe406b3d9cc77ccb018b3cb"), looks := true }, kinds := [], alts := [], laidByText := true, laidKinds := [.data, .data, .data, .handle], laidTests := true, laidLooks := .later }
def FnYieldCardSaid : Prop := Claim7.holds Tryd.pinned (.plain (OpenSpec.ofChange fnYieldSpec)) fnYieldCard

/-- THE TIED CARD OF 'laws.FnSplit'. -/
def fnSplitCard : Claim7 := { stood := { row := fnSplitRow, standIns := [], harness := (true, "29dcadb0cacf3add46e3c3d727b4d42feeb144f01fe406b3d9cc77ccb018b3cb"), looks := true }, kinds := [], alts := [], laidByText := true, laidKinds := [.data, .data, .data, .handle], laidTests := true, laidLooks := .later }
def FnSplitCardSaid : Prop := Claim7.holds Tryd.pinned (.plain (OpenSpec.ofChange fnSplitSpec)) fnSplitCard

/-- THE TIED CARD OF 'laws.FnPlantBook'. -/
def fnPlantBookCard : Claim7 := { stood := { row := fnPlantBookRow, standIns := [], harness := (true, "29dcadb0cacf3add46e3c3d727b4d42feeb144f01fe406b3d9cc77ccb018b3cb"), looks := true }, kinds := [], alts := [], laidByText := true, laidKinds := [.data, .data, .data, .handle], laidTests := true, laidLooks := .later }
def FnPlantBookCardSaid : Prop := Claim7.holds Tryd.pinned (.plain (OpenSpec.ofChange fnPlantBookSpec)) fnPlantBookCard

/-- THE TIED CARD OF 'laws.FnExactMixBatches'. -/
def fnExactMixBatchesCard : Claim7 := { stood := { row := fnExactMixBatchesRow, standIns := [], harness := (true, "29dcadb0cacf3add46e3c3d727b4d42feeb144f01fe406b3d9cc77ccb018b3cb"), looks := true }, kinds := [], alts := [], laidByText := true, laidKinds := [.data, .data, .data, .handle], laidTests := true, laidLooks := .later }
def FnExactMixBatchesCardSaid : Prop := Claim7.holds Tryd.pinned (.plain (OpenSpec.ofChange fnExactMixBatchesSpec)) fnExactMixBatchesCard

/-- THE TIED CARD OF 'laws.FnExactSplitBatch'. -/
def fnExactSplitBatchCard : Claim7 := { stood := { row := fnExactSplitBatchRow, standIns := [], harness := (true, "29dcadb0cacf3add46e3c3d727b4d42feeb144f01fe406b3d9cc77ccb018b3cb"), looks := true }, kinds := [], alts := [], laidByText := true, laidKinds := [.handle], laidTests := true, laidLooks := .later }
def FnExactSplitBatchCardSaid : Prop := Claim7.holds Tryd.pinned (.plain (OpenSpec.ofChange fnExactSplitBatchSpec)) fnExactSplitBatchCard

/-- THE TIED CARD OF 'laws.FnExactSettleBatch'. -/
def fnExactSettleBatchCard : Claim7 := { stood := { row := fnExactSettleBatchRow, standIns := [], harness := (true, "29dcadb0cacf3add46e3c3d727b4d42feeb144f01fe406b3d9cc77ccb018b3cb"), looks := true }, kinds := [], alts := [], laidByText := true, laidKinds := [.handle], laidTests := true, laidLooks := .later }
def FnExactSettleBatchCardSaid : Prop := Claim7.holds Tryd.pinned (.plain (OpenSpec.ofChange fnExactSettleBatchSpec)) fnExactSettleBatchCard

/-- THE TIED CARD OF 'laws.FnExactFilterStep'. -/
def fnExactFilterStepCard : Claim7 := { stood := { row := fnExactFilterStepRow, standIns := [], harness := (true, "29dcadb0cacf3add46e3c3d727b4d42feeb144f01fe406b3d9cc77ccb018b3cb"), looks := true }, kinds := [], alts := [], laidByText := true, laidKinds := [.handle], laidTests := true, laidLooks := .later }
def FnExactFilterStepCardSaid : Prop := Claim7.holds Tryd.pinned (.plain (OpenSpec.ofChange fnExactFilterStepSpec)) fnExactFilterStepCard

/-- THE TIED CARD OF 'laws.FnExactPlantRun'. -/
def fnExactPlantRunCard : Claim7 := { stood := { row := fnExactPlantRunRow, standIns := [], harness := (true, "29dcadb0cacf3add46e3c3d727b4d42feeb144f01fe406b3d9cc77ccb018b3cb"), looks := true }, kinds := [], alts := [], laidByText := true, laidKinds := [.data, .data, .data, .handle], laidTests := true, laidLooks := .later }
def FnExactPlantRunCardSaid : Prop := Claim7.holds Tryd.pinned (.plain (OpenSpec.ofChange fnExactPlantRunSpec)) fnExactPlantRunCard

/-- THE SECOND FORM's CARD OF 'laws.FnRiverBook'. -/
def fnRiverBookUptoCard : Claim7 := { stood := { row := fnRiverBookUptoRow, standIns := [], harness := (true, "29dcadb0cacf3add46e3c3d727b4d42feeb144f01fe406b3d9cc77ccb018b3cb"), looks := true }, kinds := [], alts := [], laidByText := true, laidKinds := [.data, .data, .data, .handle], laidTests := true, laidLooks := .later }
def FnRiverBookUptoCardSaid : Prop := Claim7.holds Tryd.pinned (.plain (OpenSpec.upto fnRiverBookSpec)) fnRiverBookUptoCard

/-- THE SECOND FORM's CARD OF 'laws.FnYield'. -/
def fnYieldUptoCard : Claim7 := { stood := { row := fnYieldUptoRow, standIns := [], harness := (true, "29dcadb0cacf3add46e3c3d727b4d42feeb144f01fe406b3d9cc77ccb018b3cb"), looks := true }, kinds := [], alts := [], laidByText := true, laidKinds := [.data, .data, .data, .handle], laidTests := true, laidLooks := .later }
def FnYieldUptoCardSaid : Prop := Claim7.holds Tryd.pinned (.plain (OpenSpec.upto fnYieldSpec)) fnYieldUptoCard

/-- THE SECOND FORM's CARD OF 'laws.FnSplit'. -/
def fnSplitUptoCard : Claim7 := { stood := { row := fnSplitUptoRow, standIns := [], harness := (true, "29dcadb0cacf3add46e3c3d727b4d42feeb144f01fe406b3d9cc77ccb018b3cb"), looks := true }, kinds := [], alts := [], laidByText := true, laidKinds := [.data, .data, .data, .handle], laidTests := true, laidLooks := .later }
def FnSplitUptoCardSaid : Prop := Claim7.holds Tryd.pinned (.plain (OpenSpec.upto fnSplitSpec)) fnSplitUptoCard

/-- THE SECOND FORM's CARD OF 'laws.FnPlantBook'. -/
def fnPlantBookUptoCard : Claim7 := { stood := { row := fnPlantBookUptoRow, standIns := [], harness := (true, "29dcadb0cacf3add46e3c3d727b4d42feeb144f01fe406b3d9cc77ccb018b3cb"), looks := true }, kinds := [], alts := [], laidByText := true, laidKinds := [.data, .data, .data, .handle], laidTests := true, laidLooks := .later }
def FnPlantBookUptoCardSaid : Prop := Claim7.holds Tryd.pinned (.plain (OpenSpec.upto fnPlantBookSpec)) fnPlantBookUptoCard

/-- THE SECOND FORM's CARD OF 'laws.FnExactMixBatches'. -/
def fnExactMixBatchesUptoCard : Claim7 := { stood := { row := fnExactMixBatchesUptoRow, standIns := [], harness := (true, "29dcadb0cacf3add46e3c3d727b4d42feeb144f01fe406b3d9cc77ccb018b3cb"), looks := true }, kinds := [], alts := [], laidByText := true, laidKinds := [.data, .data, .data, .handle], laidTests := true, laidLooks := .later }
def FnExactMixBatchesUptoCardSaid : Prop := Claim7.holds Tryd.pinned (.plain (OpenSpec.upto fnExactMixBatchesSpec)) fnExactMixBatchesUptoCard

/-- THE SECOND FORM's CARD OF 'laws.FnExactSplitBatch'. -/
def fnExactSplitBatchUptoCard : Claim7 := { stood := { row := fnExactSplitBatchUptoRow, standIns := [], harness := (true, "29dcadb0cacf3add46e3c3d727b4d42feeb144f01fe406b3d9cc77ccb018b3cb"), looks := true }, kinds := [], alts := [], laidByText := true, laidKinds := [.handle], laidTests := true, laidLooks := .later }
def FnExactSplitBatchUptoCardSaid : Prop := Claim7.holds Tryd.pinned (.plain (OpenSpec.upto fnExactSplitBatchSpec)) fnExactSplitBatchUptoCard

/-- THE SECOND FORM's CARD OF 'laws.FnExactSettleBatch'. -/
def fnExactSettleBatchUptoCard : Claim7 := { stood := { row := fnExactSettleBatchUptoRow, standIns := [], harness := (true, "29dcadb0cacf3add46e3c3d727b4d42feeb144f01fe406b3d9cc77ccb018b3cb"), looks := true }, kinds := [], alts := [], laidByText := true, laidKinds := [.handle], laidTests := true, laidLooks := .later }
def FnExactSettleBatchUptoCardSaid : Prop := Claim7.holds Tryd.pinned (.plain (OpenSpec.upto fnExactSettleBatchSpec)) fnExactSettleBatchUptoCard

/-- THE SECOND FORM's CARD OF 'laws.FnExactFilterStep'. -/
def fnExactFilterStepUptoCard : Claim7 := { stood := { row := fnExactFilterStepUptoRow, standIns := [], harness := (true, "29dcadb0cacf3add46e3c3d727b4d42feeb144f01fe406b3d9cc77ccb018b3cb"), looks := true }, kinds := [], alts := [], laidByText := true, laidKinds := [.handle], laidTests := true, laidLooks := .later }
def FnExactFilterStepUptoCardSaid : Prop := Claim7.holds Tryd.pinned (.plain (OpenSpec.upto fnExactFilterStepSpec)) fnExactFilterStepUptoCard

/-- THE SECOND FORM's CARD OF 'laws.FnExactPlantRun'. -/
def fnExactPlantRunUptoCard : Claim7 := { stood := { row := fnExactPlantRunUptoRow, standIns := [], harness := (true, "29dcadb0cacf3add46e3c3d727b4d42feeb144f01fe406b3d9cc77ccb018b3cb"), looks := true }, kinds := [], alts := [], laidByText := true, laidKinds := [.data, .data, .data, .handle], laidTests := true, laidLooks := .later }
def FnExactPlantRunUptoCardSaid : Prop := Claim7.holds Tryd.pinned (.plain (OpenSpec.upto fnExactPlantRunSpec)) fnExactPlantRunUptoCard
end Rows
end Go.Proofs.YtoeibcmmpbkbpaaDoor
