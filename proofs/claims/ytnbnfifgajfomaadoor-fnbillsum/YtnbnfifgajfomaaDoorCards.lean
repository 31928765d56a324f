/-
  DERIVED. GIVEN WITH THE SEED: THE CARDS: each row of YtnbnfifgajfomaaDoorRows.lean that lists a variable, with what it lists TIED to the program's text (the seventh form; the later family's looks); each row that meets fmt, with fmt's text TOLD by the authors' own Lean function (tested against real Go, not proved from fmt's source: count such statements apart). THE CARD IS WHAT COUNTS. Prove the row's statement (the work); the ties are given (YtnbnfifgajfomaaDoorTie.lean); close each card by the builder's one call (the guide's Derived/Test/ToyasCard.lean, 'card_holds'). Laid BY PROGRAM, IN A SANDBOX (cutbox-door.mjs). By AI agents, Wed Nov 11 2026. No macro, syntax, notation, axiom, sorry.
-/
import Derived.Test.YtnbnfifgajfomaaDoorRows
import GoSem.ClaimSeven
namespace Go.Proofs.YtnbnfifgajfomaaDoor
namespace Rows

/-- THE TIED CARD OF 'laws.FnBillSum'. -/
def fnBillSumCard : Claim7 := { stood := { row := fnBillSumRow, standIns := [], harness := (true, "4bb665e67b3d31f53962d1f54372043a33be03717e06e93b00c5786023e5501a"), looks := true }, kinds := [], alts := [], laidByText := true, laidKinds := [.handle], laidTests := true, laidLooks := .later }
def FnBillSumCardSaid : Prop := Claim7.holds Tryd.pinned (.plain (OpenSpec.ofChange fnBillSumSpec)) fnBillSumCard

/-- THE TIED CARD OF 'laws.FnAccount'. -/
def fnAccountCard : Claim7 := { stood := { row := fnAccountRow, standIns := [], harness := (true, "4bb665e67b3d31f53962d1f54372043a33be03717e06e93b00c5786023e5501a"), looks := true }, kinds := [], alts := [], laidByText := true, laidKinds := [.data, .data, .data, .handle], laidTests := true, laidLooks := .later }
def FnAccountCardSaid : Prop := Claim7.holds Tryd.pinned (.plain (OpenSpec.ofChange fnAccountSpec)) fnAccountCard

/-- THE TIED CARD OF 'laws.FnExactBillMake'. -/
def fnExactBillMakeCard : Claim7 := { stood := { row := fnExactBillMakeRow, standIns := [], harness := (true, "4bb665e67b3d31f53962d1f54372043a33be03717e06e93b00c5786023e5501a"), looks := true }, kinds := [], alts := [], laidByText := true, laidKinds := [.handle], laidTests := true, laidLooks := .later }
def FnExactBillMakeCardSaid : Prop := Claim7.holds Tryd.pinned (.plain (OpenSpec.ofChange fnExactBillMakeSpec)) fnExactBillMakeCard

/-- THE TIED CARD OF 'laws.FnExactBillRight'. -/
def fnExactBillRightCard : Claim7 := { stood := { row := fnExactBillRightRow, standIns := [], harness := (true, "4bb665e67b3d31f53962d1f54372043a33be03717e06e93b00c5786023e5501a"), looks := true }, kinds := [], alts := [], laidByText := true, laidKinds := [.handle], laidTests := true, laidLooks := .later }
def FnExactBillRightCardSaid : Prop := Claim7.holds Tryd.pinned (.plain (OpenSpec.ofChange fnExactBillRightSpec)) fnExactBillRightCard

/-- THE TIED CARD OF 'laws.FnExactAccountRun'. -/
def fnExactAccountRunCard : Claim7 := { stood := { row := fnExactAccountRunRow, standIns := [], harness := (true, "4bb665e67b3d31f53962d1f54372043a33be03717e06e93b00c5786023e5501a"), looks := true }, kinds := [], alts := [], laidByText := true, laidKinds := [.data, .data, .data, .handle], laidTests := true, laidLooks := .later }
def FnExactAccountRunCardSaid : Prop := Claim7.holds Tryd.pinned (.plain (OpenSpec.ofChange fnExactAccountRunSpec)) fnExactAccountRunCard

/-- THE SECOND FORM's CARD OF 'laws.FnBillSum'. -/
def fnBillSumUptoCard : Claim7 := { stood := { row := fnBillSumUptoRow, standIns := [], harness := (true, "4bb665e67b3d31f53962d1f54372043a33be03717e06e93b00c5786023e5501a"), looks := true }, kinds := [], alts := [], laidByText := true, laidKinds := [.handle], laidTests := true, laidLooks := .later }
def FnBillSumUptoCardSaid : Prop := Claim7.holds Tryd.pinned (.plain (OpenSpec.upto fnBillSumSpec)) fnBillSumUptoCard

/-- THE SECOND FORM's CARD OF 'laws.FnAccount'. -/
def fnAccountUptoCard : Claim7 := { stood := { row := fnAccountUptoRow, standIns := [], harness := (true, "4bb665e67b3d31f53962d1f54372043a33be03717e06e93b00c5786023e5501a"), looks := true }, kinds := [], alts := [], laidByText := true, laidKinds := [.data, .data, .data, .handle], laidTests := true, laidLooks := .later }
def FnAccountUptoCardSaid : Prop := Claim7.holds Tryd.pinned (.plain (OpenSpec.upto fnAccountSpec)) fnAccountUptoCard

/-- THE SECOND FORM's CARD OF 'laws.FnExactBillMake'. -/
def fnExactBillMakeUptoCard : Claim7 := { stood := { row := fnExactBillMakeUptoRow, standIns := [], harness := (true, "4bb665e67b3d31f53962d1f54372043a33be03717e06e93b00c5786023e5501a"), looks := true }, kinds := [], alts := [], laidByText := true, laidKinds := [.handle], laidTests := true, laidLooks := .later }
def FnExactBillMakeUptoCardSaid : Prop := Claim7.holds Tryd.pinned (.plain (OpenSpec.upto fnExactBillMakeSpec)) fnExactBillMakeUptoCard

/-- THE SECOND FORM's CARD OF 'laws.FnExactBillRight'. -/
def fnExactBillRightUptoCard : Claim7 := { stood := { row := fnExactBillRightUptoRow, standIns := [], harness := (true, "4bb665e67b3d31f53962d1f54372043a33be03717e06e93b00c5786023e5501a"), looks := true }, kinds := [], alts := [], laidByText := true, laidKinds := [.handle], laidTests := true, laidLooks := .later }
def FnExactBillRightUptoCardSaid : Prop := Claim7.holds Tryd.pinned (.plain (OpenSpec.upto fnExactBillRightSpec)) fnExactBillRightUptoCard

/-- THE SECOND FORM's CARD OF 'laws.FnExactAccountRun'. -/
def fnExactAccountRunUptoCard : Claim7 := { stood := { row := fnExactAccountRunUptoRow, standIns := [], harness := (true, "4bb665e67b3d31f53962d1f54372043a33be03717e06e93b00c5786023e5501a"), looks := true }, kinds := [], alts := [], laidByText := true, laidKinds := [.data, .data, .data, .handle], laidTests := true, laidLooks := .later }
def FnExactAccountRunUptoCardSaid : Prop := Claim7.holds Tryd.pinned (.plain (OpenSpec.upto fnExactAccountRunSpec)) fnExactAccountRunUptoCard
end Rows
end Go.Proofs.YtnbnfifgajfomaaDoor
