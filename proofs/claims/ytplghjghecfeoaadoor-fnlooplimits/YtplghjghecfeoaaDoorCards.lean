/-
  DERIVED. GIVEN WITH THE SEED: THE CARDS: each row of YtplghjghecfeoaaDoorRows.lean that lists a variable, with what it lists TIED to the program's text (the seventh form; the later family's looks); each row that meets fmt, with fmt's text TOLD by the authors' own Lean function (tested against real Go, not proved from fmt's source: count such statements apart). THE CARD IS WHAT COUNTS. Prove the row's statement (the work); the ties are given (YtplghjghecfeoaaDoorTie.lean); close each card by the builder's one call (the guide's Derived/Test/ToyasCard.lean, 'card_holds'). Laid BY PROGRAM, IN A SANDBOX (cutbox-door.mjs). By AI agents, Wed Nov 11 2026. No macro, syntax, notation, axiom, sorry.
-/
import Derived.Test.YtplghjghecfeoaaDoorRows
import GoSem.ClaimSeven
namespace Go.Proofs.YtplghjghecfeoaaDoor
namespace Rows

/-- THE TIED CARD OF 'laws.FnLoopLimits'. -/
def fnLoopLimitsCard : Claim7 := { stood := { row := fnLoopLimitsRow, standIns := [], harness := (true, "47abd85818cbc9f88c4a5f1e1f946d2365def278fee52a848cc00accf3acb2b6"), looks := true }, kinds := [], alts := [], laidByText := true, laidKinds := [.data, .data, .data, .handle], laidTests := true, laidLooks := .later }
def FnLoopLimitsCardSaid : Prop := Claim7.holds Tryd.pinned (.plain (OpenSpec.ofChange fnLoopLimitsSpec)) fnLoopLimitsCard

/-- THE TIED CARD OF 'laws.FnExactLoopRun'. -/
def fnExactLoopRunCard : Claim7 := { stood := { row := fnExactLoopRunRow, standIns := [], harness := (true, "47abd85818cbc9f88c4a5f1e1f946d2365def278fee52a848cc00accf3acb2b6"), looks := true }, kinds := [], alts := [], laidByText := true, laidKinds := [.data, .data, .data, .handle], laidTests := true, laidLooks := .later }
def FnExactLoopRunCardSaid : Prop := Claim7.holds Tryd.pinned (.plain (OpenSpec.ofChange fnExactLoopRunSpec)) fnExactLoopRunCard

/-- THE SECOND FORM's CARD OF 'laws.FnLoopLimits'. -/
def fnLoopLimitsUptoCard : Claim7 := { stood := { row := fnLoopLimitsUptoRow, standIns := [], harness := (true, "47abd85818cbc9f88c4a5f1e1f946d2365def278fee52a848cc00accf3acb2b6"), looks := true }, kinds := [], alts := [], laidByText := true, laidKinds := [.data, .data, .data, .handle], laidTests := true, laidLooks := .later }
def FnLoopLimitsUptoCardSaid : Prop := Claim7.holds Tryd.pinned (.plain (OpenSpec.upto fnLoopLimitsSpec)) fnLoopLimitsUptoCard

/-- THE SECOND FORM's CARD OF 'laws.FnExactLoopRun'. -/
def fnExactLoopRunUptoCard : Claim7 := { stood := { row := fnExactLoopRunUptoRow, standIns := [], harness := (true, "47abd85818cbc9f88c4a5f1e1f946d2365def278fee52a848cc00accf3acb2b6"), looks := true }, kinds := [], alts := [], laidByText := true, laidKinds := [.data, .data, .data, .handle], laidTests := true, laidLooks := .later }
def FnExactLoopRunUptoCardSaid : Prop := Claim7.holds Tryd.pinned (.plain (OpenSpec.upto fnExactLoopRunSpec)) fnExactLoopRunUptoCard
end Rows
end Go.Proofs.YtplghjghecfeoaaDoor
