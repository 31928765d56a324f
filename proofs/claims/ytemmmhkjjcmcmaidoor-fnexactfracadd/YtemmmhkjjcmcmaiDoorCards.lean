/-
  DERIVED. GIVEN WITH THE SEED: THE CARDS: each row of YtemmmhkjjcmcmaiDoorRows.lean that lists a variable, with what it lists TIED to the program's text (the seventh form; the later family's looks); each row that meets fmt, with fmt's text TOLD by the authors' own Lean function (tested against real Go, not proved from fmt's source: count such statements apart). THE CARD IS WHAT COUNTS. Prove the row's statement (the work); the ties are given (YtemmmhkjjcmcmaiDoorTie.lean); close each card by the builder's one call (the guide's Derived/Test/ToyasCard.lean, 'card_holds'). Laid BY PROGRAM, IN A SANDBOX (cutbox-door.mjs). By AI agents, Wed Nov 11 2026. No macro, syntax, notation, axiom, sorry.
-/
import Derived.Test.YtemmmhkjjcmcmaiDoorRows
import GoSem.ClaimSeven
namespace Go.Proofs.YtemmmhkjjcmcmaiDoor
namespace Rows

/-- THE TIED CARD OF 'laws.FnExactFracOf'. -/
def fnExactFracOfCard : Claim7 := { stood := { row := fnExactFracOfRow, standIns := [], harness := (true, "8136d0e065d918f023e1f061a7886dd301e2ee96d17978fe9b2bc0755fa8b65c"), looks := true }, kinds := [], alts := [], laidByText := true, laidKinds := [.handle], laidTests := true, laidLooks := .later }
def FnExactFracOfCardSaid : Prop := Claim7.holds Tryd.pinned (.plain (OpenSpec.ofChange fnExactFracOfSpec)) fnExactFracOfCard

/-- THE TIED CARD OF 'laws.FnExactFracAdd'. -/
def fnExactFracAddCard : Claim7 := { stood := { row := fnExactFracAddRow, standIns := [], harness := (true, "8136d0e065d918f023e1f061a7886dd301e2ee96d17978fe9b2bc0755fa8b65c"), looks := true }, kinds := [], alts := [], laidByText := true, laidKinds := [.handle], laidTests := true, laidLooks := .later }
def FnExactFracAddCardSaid : Prop := Claim7.holds Tryd.pinned (.plain (OpenSpec.ofChange fnExactFracAddSpec)) fnExactFracAddCard

/-- THE SECOND FORM's CARD OF 'laws.FnExactFracOf'. -/
def fnExactFracOfUptoCard : Claim7 := { stood := { row := fnExactFracOfUptoRow, standIns := [], harness := (true, "8136d0e065d918f023e1f061a7886dd301e2ee96d17978fe9b2bc0755fa8b65c"), looks := true }, kinds := [], alts := [], laidByText := true, laidKinds := [.handle], laidTests := true, laidLooks := .later }
def FnExactFracOfUptoCardSaid : Prop := Claim7.holds Tryd.pinned (.plain (OpenSpec.upto fnExactFracOfSpec)) fnExactFracOfUptoCard

/-- THE SECOND FORM's CARD OF 'laws.FnExactFracAdd'. -/
def fnExactFracAddUptoCard : Claim7 := { stood := { row := fnExactFracAddUptoRow, standIns := [], harness := (true, "8136d0e065d918f023e1f061a7886dd301e2ee96d17978fe9b2bc0755fa8b65c"), looks := true }, kinds := [], alts := [], laidByText := true, laidKinds := [.handle], laidTests := true, laidLooks := .later }
def FnExactFracAddUptoCardSaid : Prop := Claim7.holds Tryd.pinned (.plain (OpenSpec.upto fnExactFracAddSpec)) fnExactFracAddUptoCard
end Rows
end Go.Proofs.YtemmmhkjjcmcmaiDoor
