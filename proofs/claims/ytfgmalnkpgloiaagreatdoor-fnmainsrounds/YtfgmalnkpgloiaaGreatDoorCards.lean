/-
  DERIVED. GIVEN WITH THE SEED: THE CARDS: each row of YtfgmalnkpgloiaaGreatDoorRows.lean that lists a variable, with what it lists TIED to the program's text (the seventh form; the later family's looks); each row that meets fmt, with fmt's text TOLD by the authors' own Lean function (tested against real Go, not proved from fmt's source: count such statements apart). THE CARD IS WHAT COUNTS. Prove the row's statement (the work); the ties are given (YtfgmalnkpgloiaaGreatDoorTie.lean); close each card by the builder's one call (the guide's Derived/Test/ToyasCard.lean, 'card_holds'). Laid BY PROGRAM, IN A SANDBOX (cutbox-door.mjs). By AI agents, Wed Nov 11 2026. No macro, syntax, notation, axiom, sorry.
-/
import Derived.Test.YtfgmalnkpgloiaaGreatDoorRows
import GoSem.ClaimSeven
namespace Go.Proofs.YtfgmalnkpgloiaaGreatDoor
namespace Rows

/-- THE TIED CARD OF 'laws.FnMainsBalance'. -/
def fnMainsBalanceCard : Claim7 := { stood := { row := fnMainsBalanceRow, standIns := [], harness := (true, "13c2f59cda850e4459880db02f41329acf558494aba7dd2a4c221da876c214eb"), looks := true }, kinds := [], alts := [], laidByText := true, laidKinds := [.handle], laidTests := true, laidLooks := .later }
def FnMainsBalanceCardSaid : Prop := Claim7.holds Tryz.pinned (.plain (OpenSpec.ofChange fnMainsBalanceSpec)) fnMainsBalanceCard

/-- THE TIED CARD OF 'laws.FnMainsRounds'. -/
def fnMainsRoundsCard : Claim7 := { stood := { row := fnMainsRoundsRow, standIns := [], harness := (true, "13c2f59cda850e4459880db02f41329acf558494aba7dd2a4c221da876c214eb"), looks := true }, kinds := [], alts := [], laidByText := true, laidKinds := [.handle], laidTests := true, laidLooks := .later }
def FnMainsRoundsCardSaid : Prop := Claim7.holds Tryz.pinned (.plain (OpenSpec.ofChange fnMainsRoundsSpec)) fnMainsRoundsCard

/-- THE TIED CARD OF 'laws.FnExactMainsRound'. -/
def fnExactMainsRoundCard : Claim7 := { stood := { row := fnExactMainsRoundRow, standIns := [], harness := (true, "13c2f59cda850e4459880db02f41329acf558494aba7dd2a4c221da876c214eb"), looks := true }, kinds := [], alts := [], laidByText := true, laidKinds := [.handle], laidTests := true, laidLooks := .later }
def FnExactMainsRoundCardSaid : Prop := Claim7.holds Tryz.pinned (.plain (OpenSpec.ofChange fnExactMainsRoundSpec)) fnExactMainsRoundCard

/-- THE TIED CARD OF 'laws.FnExactMainsSolve'. -/
def fnExactMainsSolveCard : Claim7 := { stood := { row := fnExactMainsSolveRow, standIns := [], harness := (true, "13c2f59cda850e4459880db02f41329acf558494aba7dd2a4c221da876c214eb"), looks := true }, kinds := [], alts := [], laidByText := true, laidKinds := [.handle], laidTests := true, laidLooks := .later }
def FnExactMainsSolveCardSaid : Prop := Claim7.holds Tryz.pinned (.plain (OpenSpec.ofChange fnExactMainsSolveSpec)) fnExactMainsSolveCard

/-- THE SECOND FORM's CARD OF 'laws.FnMainsBalance'. -/
def fnMainsBalanceUptoCard : Claim7 := { stood := { row := fnMainsBalanceUptoRow, standIns := [], harness := (true, "13c2f59cda850e4459880db02f41329acf558494aba7dd2a4c221da876c214eb"), looks := true }, kinds := [], alts := [], laidByText := true, laidKinds := [.handle], laidTests := true, laidLooks := .later }
def FnMainsBalanceUptoCardSaid : Prop := Claim7.holds Tryz.pinned (.plain (OpenSpec.upto fnMainsBalanceSpec)) fnMainsBalanceUptoCard

/-- THE SECOND FORM's CARD OF 'laws.FnMainsRounds'. -/
def fnMainsRoundsUptoCard : Claim7 := { stood := { row := fnMainsRoundsUptoRow, standIns := [], harness := (true, "13c2f59cda850e4459880db02f41329acf558494aba7dd2a4c221da876c214eb"), looks := true }, kinds := [], alts := [], laidByText := true, laidKinds := [.handle], laidTests := true, laidLooks := .later }
def FnMainsRoundsUptoCardSaid : Prop := Claim7.holds Tryz.pinned (.plain (OpenSpec.upto fnMainsRoundsSpec)) fnMainsRoundsUptoCard

/-- THE SECOND FORM's CARD OF 'laws.FnExactMainsRound'. -/
def fnExactMainsRoundUptoCard : Claim7 := { stood := { row := fnExactMainsRoundUptoRow, standIns := [], harness := (true, "13c2f59cda850e4459880db02f41329acf558494aba7dd2a4c221da876c214eb"), looks := true }, kinds := [], alts := [], laidByText := true, laidKinds := [.handle], laidTests := true, laidLooks := .later }
def FnExactMainsRoundUptoCardSaid : Prop := Claim7.holds Tryz.pinned (.plain (OpenSpec.upto fnExactMainsRoundSpec)) fnExactMainsRoundUptoCard

/-- THE SECOND FORM's CARD OF 'laws.FnExactMainsSolve'. -/
def fnExactMainsSolveUptoCard : Claim7 := { stood := { row := fnExactMainsSolveUptoRow, standIns := [], harness := (true, "13c2f59cda850e4459880db02f41329acf558494aba7dd2a4c221da876c214eb"), looks := true }, kinds := [], alts := [], laidByText := true, laidKinds := [.handle], laidTests := true, laidLooks := .later }
def FnExactMainsSolveUptoCardSaid : Prop := Claim7.holds Tryz.pinned (.plain (OpenSpec.upto fnExactMainsSolveSpec)) fnExactMainsSolveUptoCard
end Rows
end Go.Proofs.YtfgmalnkpgloiaaGreatDoor
