/-
  DERIVED. GIVEN WITH THE SEED: THE CARDS: each row of YtnfdamkjkclnmaaDoorRows.lean that lists a variable, with what it lists TIED to the program's text (the seventh form; the later family's looks); each row that meets fmt, with fmt's text TOLD by the authors' own Lean function (tested against real Go, not proved from fmt's source: count such statements apart). THE CARD IS WHAT COUNTS. Prove the row's statement (the work); the ties are given (YtnfdamkjkclnmaaDoorTie.lean); close each card by the builder's one call (the guide's Derived/Test/ToyasCard.lean, 'card_holds'). Laid BY PROGRAM, IN A SANDBOX (cutbox-door.mjs). By AI agents, Wed Nov 11 2026. No macro, syntax, notation, axiom, sorry.
-/
import Derived.Test.YtnfdamkjkclnmaaDoorRows
import GoSem.ClaimSeven
namespace Go.Proofs.YtnfdamkjkclnmaaDoor
namespace Rows

/-- THE TIED CARD OF 'laws.FnAlarmCalm'. -/
def fnAlarmCalmCard : Claim7 := { stood := { row := fnAlarmCalmRow, standIns := [], harness := (true, "01b5b52f1c9c7a3848dfa1fa82232a7a665614ed68d172186f91c6158b69bde3"), looks := true }, kinds := [], alts := [], laidByText := true, laidKinds := [.handle], laidTests := true, laidLooks := .later }
def FnAlarmCalmCardSaid : Prop := Claim7.holds Tryd.pinned (.plain (OpenSpec.ofChange fnAlarmCalmSpec)) fnAlarmCalmCard

/-- THE TIED CARD OF 'laws.FnExactAlarmRun'. -/
def fnExactAlarmRunCard : Claim7 := { stood := { row := fnExactAlarmRunRow, standIns := [], harness := (true, "01b5b52f1c9c7a3848dfa1fa82232a7a665614ed68d172186f91c6158b69bde3"), looks := true }, kinds := [], alts := [], laidByText := true, laidKinds := [.handle], laidTests := true, laidLooks := .later }
def FnExactAlarmRunCardSaid : Prop := Claim7.holds Tryd.pinned (.plain (OpenSpec.ofChange fnExactAlarmRunSpec)) fnExactAlarmRunCard

/-- THE SECOND FORM's CARD OF 'laws.FnAlarmCalm'. -/
def fnAlarmCalmUptoCard : Claim7 := { stood := { row := fnAlarmCalmUptoRow, standIns := [], harness := (true, "01b5b52f1c9c7a3848dfa1fa82232a7a665614ed68d172186f91c6158b69bde3"), looks := true }, kinds := [], alts := [], laidByText := true, laidKinds := [.handle], laidTests := true, laidLooks := .later }
def FnAlarmCalmUptoCardSaid : Prop := Claim7.holds Tryd.pinned (.plain (OpenSpec.upto fnAlarmCalmSpec)) fnAlarmCalmUptoCard

/-- THE SECOND FORM's CARD OF 'laws.FnExactAlarmRun'. -/
def fnExactAlarmRunUptoCard : Claim7 := { stood := { row := fnExactAlarmRunUptoRow, standIns := [], harness := (true, "01b5b52f1c9c7a3848dfa1fa82232a7a665614ed68d172186f91c6158b69bde3"), looks := true }, kinds := [], alts := [], laidByText := true, laidKinds := [.handle], laidTests := true, laidLooks := .later }
def FnExactAlarmRunUptoCardSaid : Prop := Claim7.holds Tryd.pinned (.plain (OpenSpec.upto fnExactAlarmRunSpec)) fnExactAlarmRunUptoCard
end Rows
end Go.Proofs.YtnfdamkjkclnmaaDoor
