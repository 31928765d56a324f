/-
  DERIVED. GIVEN WITH THE SEED: THE CARDS: each row of YtjcncfkidnggaaaGreatDoorRows.lean that lists a variable, with what it lists TIED to the program's text (the seventh form; the later family's looks); each row that meets fmt, with fmt's text TOLD by the authors' own Lean function (tested against real Go, not proved from fmt's source: count such statements apart). THE CARD IS WHAT COUNTS. Prove the row's statement (the work); the ties are given (YtjcncfkidnggaaaGreatDoorTie.lean); close each card by the builder's one call (the guide's Derived/Test/ToyasCard.lean, 'card_holds'). Laid BY PROGRAM, IN A SANDBOX (cutbox-door.mjs). By AI agents, Wed Nov 11 2026. No macro, syntax, notation, axiom, sorry.
-/
import Derived.Test.YtjcncfkidnggaaaGreatDoorRows
import GoSem.ClaimSeven
namespace Go.Proofs.YtjcncfkidnggaaaGreatDoor
namespace Rows

/-- THE TIED CARD OF 'laws.FnMainsBalance'. -/
def fnMainsBalanceCard : Claim7 := { stood := { row := fnMainsBalanceRow, standIns := [], harness := (true, "a49bb82c69ca19ca438554d0c786b79c45c322f64b879af043b99e7ffb2dcd6e"), looks := true }, kinds := [], alts := [], laidByText := true, laidKinds := [.handle], laidTests := true, laidLooks := .later }
def FnMainsBalanceCardSaid : Prop := Claim7.holds Tryz.pinned (.plain (OpenSpec.ofChange fnMainsBalanceSpec)) fnMainsBalanceCard

/-- THE TIED CARD OF 'laws.FnMainsRounds'. -/
def fnMainsRoundsCard : Claim7 := { stood := { row := fnMainsRoundsRow, standIns := [], harness := (true, "a49bb82c69ca19ca438554d0c786b79c45c322f64b879af043b99e7ffb2dcd6e"), looks := true }, kinds := [], alts := [], laidByText := true, laidKinds := [.handle], laidTests := true, laidLooks := .later }
def FnMainsRoundsCardSaid : Prop := Claim7.holds Tryz.pinned (.plain (OpenSpec.ofChange fnMainsRoundsSpec)) fnMainsRoundsCard

/-- THE SECOND FORM's CARD OF 'laws.FnMainsBalance'. -/
def fnMainsBalanceUptoCard : Claim7 := { stood := { row := fnMainsBalanceUptoRow, standIns := [], harness := (true, "a49bb82c69ca19ca438554d0c786b79c45c322f64b879af043b99e7ffb2dcd6e"), looks := true }, kinds := [], alts := [], laidByText := true, laidKinds := [.handle], laidTests := true, laidLooks := .later }
def FnMainsBalanceUptoCardSaid : Prop := Claim7.holds Tryz.pinned (.plain (OpenSpec.upto fnMainsBalanceSpec)) fnMainsBalanceUptoCard

/-- THE SECOND FORM's CARD OF 'laws.FnMainsRounds'. -/
def fnMainsRoundsUptoCard : Claim7 := { stood := { row := fnMainsRoundsUptoRow, standIns := [], harness := (true, "a49bb82c69ca19ca438554d0c786b79c45c322f64b879af043b99e7ffb2dcd6e"), looks := true }, kinds := [], alts := [], laidByText := true, laidKinds := [.handle], laidTests := true, laidLooks := .later }
def FnMainsRoundsUptoCardSaid : Prop := Claim7.holds Tryz.pinned (.plain (OpenSpec.upto fnMainsRoundsSpec)) fnMainsRoundsUptoCard
end Rows
end Go.Proofs.YtjcncfkidnggaaaGreatDoor
