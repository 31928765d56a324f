/-
  DERIVED. GIVEN WITH THE SEED: THE CARDS: each row of YtmejmpdljckfgaaDoorRows.lean that lists a variable, with what it lists TIED to the program's text (the seventh form; the later family's looks); each row that meets fmt, with fmt's text TOLD by the authors' own Lean function (tested against real Go, not proved from fmt's source: count such statements apart). THE CARD IS WHAT COUNTS. Prove the row's statement (the work); the ties are given (YtmejmpdljckfgaaDoorTie.lean); close each card by the builder's one call (the guide's Derived/Test/ToyasCard.lean, 'card_holds'). Laid BY PROGRAM, IN A SANDBOX (cutbox-door.mjs). By AI agents, Wed Nov 11 2026. No macro, syntax, notation, axiom, sorry.
-/
import Derived.Test.YtmejmpdljckfgaaDoorRows
import GoSem.ClaimSeven
namespace Go.Proofs.YtmejmpdljckfgaaDoor
namespace Rows

/-- THE TIED CARD OF 'laws.FnUses'. -/
def fnUsesCard : Claim7 := { stood := { row := fnUsesRow, standIns := [], harness := (true, "4d721d6bc0aadc86ff64944f4ff07b0e7ff0d95ae7191b70ec8ce0c386d63cab"), looks := true }, kinds := [], alts := [], laidByText := true, laidKinds := [.data, .data, .data, .handle], laidTests := true, laidLooks := .later }
def FnUsesCardSaid : Prop := Claim7.holds Tryd.pinned (.plain (OpenSpec.ofChange fnUsesSpec)) fnUsesCard

/-- THE TIED CARD OF 'laws.FnAlarmParts'. -/
def fnAlarmPartsCard : Claim7 := { stood := { row := fnAlarmPartsRow, standIns := [], harness := (true, "4d721d6bc0aadc86ff64944f4ff07b0e7ff0d95ae7191b70ec8ce0c386d63cab"), looks := true }, kinds := [], alts := [], laidByText := true, laidKinds := [.handle], laidTests := true, laidLooks := .later }
def FnAlarmPartsCardSaid : Prop := Claim7.holds Tryd.pinned (.plain (OpenSpec.ofChange fnAlarmPartsSpec)) fnAlarmPartsCard

/-- THE TIED CARD OF 'laws.FnHistory'. -/
def fnHistoryCard : Claim7 := { stood := { row := fnHistoryRow, standIns := [], harness := (true, "4d721d6bc0aadc86ff64944f4ff07b0e7ff0d95ae7191b70ec8ce0c386d63cab"), looks := true }, kinds := [], alts := [], laidByText := true, laidKinds := [.handle], laidTests := true, laidLooks := .later }
def FnHistoryCardSaid : Prop := Claim7.holds Tryd.pinned (.plain (OpenSpec.ofChange fnHistorySpec)) fnHistoryCard

/-- THE SECOND FORM's CARD OF 'laws.FnUses'. -/
def fnUsesUptoCard : Claim7 := { stood := { row := fnUsesUptoRow, standIns := [], harness := (true, "4d721d6bc0aadc86ff64944f4ff07b0e7ff0d95ae7191b70ec8ce0c386d63cab"), looks := true }, kinds := [], alts := [], laidByText := true, laidKinds := [.data, .data, .data, .handle], laidTests := true, laidLooks := .later }
def FnUsesUptoCardSaid : Prop := Claim7.holds Tryd.pinned (.plain (OpenSpec.upto fnUsesSpec)) fnUsesUptoCard

/-- THE SECOND FORM's CARD OF 'laws.FnAlarmParts'. -/
def fnAlarmPartsUptoCard : Claim7 := { stood := { row := fnAlarmPartsUptoRow, standIns := [], harness := (true, "4d721d6bc0aadc86ff64944f4ff07b0e7ff0d95ae7191b70ec8ce0c386d63cab"), looks := true }, kinds := [], alts := [], laidByText := true, laidKinds := [.handle], laidTests := true, laidLooks := .later }
def FnAlarmPartsUptoCardSaid : Prop := Claim7.holds Tryd.pinned (.plain (OpenSpec.upto fnAlarmPartsSpec)) fnAlarmPartsUptoCard

/-- THE SECOND FORM's CARD OF 'laws.FnHistory'. -/
def fnHistoryUptoCard : Claim7 := { stood := { row := fnHistoryUptoRow, standIns := [], harness := (true, "4d721d6bc0aadc86ff64944f4ff07b0e7ff0d95ae7191b70ec8ce0c386d63cab"), looks := true }, kinds := [], alts := [], laidByText := true, laidKinds := [.handle], laidTests := true, laidLooks := .later }
def FnHistoryUptoCardSaid : Prop := Claim7.holds Tryd.pinned (.plain (OpenSpec.upto fnHistorySpec)) fnHistoryUptoCard
end Rows
end Go.Proofs.YtmejmpdljckfgaaDoor
