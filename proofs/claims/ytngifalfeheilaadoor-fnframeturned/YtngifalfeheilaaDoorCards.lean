/-
  DERIVED. GIVEN WITH THE SEED: THE CARDS: each row of YtngifalfeheilaaDoorRows.lean that lists a variable, with what it lists TIED to the program's text (the seventh form; the later family's looks); each row that meets fmt, with fmt's text TOLD by the authors' own Lean function (tested against real Go, not proved from fmt's source: count such statements apart). THE CARD IS WHAT COUNTS. Prove the row's statement (the work); the ties are given (YtngifalfeheilaaDoorTie.lean); close each card by the builder's one call (the guide's Derived/Test/ToyasCard.lean, 'card_holds'). Laid BY PROGRAM, IN A SANDBOX (cutbox-door.mjs). By AI agents, Wed Nov 11 2026. No macro, syntax, notation, axiom, sorry.
-/
import Derived.Test.YtngifalfeheilaaDoorRows
import GoSem.ClaimSeven
namespace Go.Proofs.YtngifalfeheilaaDoor
namespace Rows

/-- THE TIED CARD OF 'laws.FnFracs'. -/
def fnFracsCard : Claim7 := { stood := { row := fnFracsRow, standIns := [], harness := (true, "3bc545ed1e86edfe76e59c562af64352bdb06b8142d55d9769356ecc8be30e6c"), looks := true }, kinds := [], alts := [], laidByText := true, laidKinds := [.handle], laidTests := true, laidLooks := .later }
def FnFracsCardSaid : Prop := Claim7.holds Tryd.pinned (.plain (OpenSpec.ofChange fnFracsSpec)) fnFracsCard

/-- THE TIED CARD OF 'laws.FnFracText'. -/
def fnFracTextCard : Claim7 := { stood := { row := fnFracTextRow, standIns := [], harness := (true, "3bc545ed1e86edfe76e59c562af64352bdb06b8142d55d9769356ecc8be30e6c"), looks := true }, kinds := [], alts := [], laidByText := true, laidKinds := [.data, .data, .data, .handle, .sentinel, .sentinel], laidTests := true, laidLooks := .later }
def FnFracTextCardSaid : Prop := Claim7.holds Tryd.pinned (.plain (OpenSpec.ofChange fnFracTextSpec)) fnFracTextCard

/-- THE TIED CARD OF 'laws.FnFrames'. -/
def fnFramesCard : Claim7 := { stood := { row := fnFramesRow, standIns := [], harness := (true, "3bc545ed1e86edfe76e59c562af64352bdb06b8142d55d9769356ecc8be30e6c"), looks := true }, kinds := [], alts := [], laidByText := true, laidKinds := [.handle], laidTests := true, laidLooks := .later }
def FnFramesCardSaid : Prop := Claim7.holds Tryd.pinned (.plain (OpenSpec.ofChange fnFramesSpec)) fnFramesCard

/-- THE TIED CARD OF 'laws.FnFrameTurned'. -/
def fnFrameTurnedCard : Claim7 := { stood := { row := fnFrameTurnedRow, standIns := [], harness := (true, "3bc545ed1e86edfe76e59c562af64352bdb06b8142d55d9769356ecc8be30e6c"), looks := true }, kinds := [], alts := [], laidByText := true, laidKinds := [.handle], laidTests := true, laidLooks := .later }
def FnFrameTurnedCardSaid : Prop := Claim7.holds Tryd.pinned (.plain (OpenSpec.ofChange fnFrameTurnedSpec)) fnFrameTurnedCard

/-- THE SECOND FORM's CARD OF 'laws.FnFracs'. -/
def fnFracsUptoCard : Claim7 := { stood := { row := fnFracsUptoRow, standIns := [], harness := (true, "3bc545ed1e86edfe76e59c562af64352bdb06b8142d55d9769356ecc8be30e6c"), looks := true }, kinds := [], alts := [], laidByText := true, laidKinds := [.handle], laidTests := true, laidLooks := .later }
def FnFracsUptoCardSaid : Prop := Claim7.holds Tryd.pinned (.plain (OpenSpec.upto fnFracsSpec)) fnFracsUptoCard

/-- THE SECOND FORM's CARD OF 'laws.FnFracText'. -/
def fnFracTextUptoCard : Claim7 := { stood := { row := fnFracTextUptoRow, standIns := [], harness := (true, "3bc545ed1e86edfe76e59c562af64352bdb06b8142d55d9769356ecc8be30e6c"), looks := true }, kinds := [], alts := [], laidByText := true, laidKinds := [.data, .data, .data, .handle, .sentinel, .sentinel], laidTests := true, laidLooks := .later }
def FnFracTextUptoCardSaid : Prop := Claim7.holds Tryd.pinned (.plain (OpenSpec.upto fnFracTextSpec)) fnFracTextUptoCard

/-- THE SECOND FORM's CARD OF 'laws.FnFrames'. -/
def fnFramesUptoCard : Claim7 := { stood := { row := fnFramesUptoRow, standIns := [], harness := (true, "3bc545ed1e86edfe76e59c562af64352bdb06b8142d55d9769356ecc8be30e6c"), looks := true }, kinds := [], alts := [], laidByText := true, laidKinds := [.handle], laidTests := true, laidLooks := .later }
def FnFramesUptoCardSaid : Prop := Claim7.holds Tryd.pinned (.plain (OpenSpec.upto fnFramesSpec)) fnFramesUptoCard

/-- THE SECOND FORM's CARD OF 'laws.FnFrameTurned'. -/
def fnFrameTurnedUptoCard : Claim7 := { stood := { row := fnFrameTurnedUptoRow, standIns := [], harness := (true, "3bc545ed1e86edfe76e59c562af64352bdb06b8142d55d9769356ecc8be30e6c"), looks := true }, kinds := [], alts := [], laidByText := true, laidKinds := [.handle], laidTests := true, laidLooks := .later }
def FnFrameTurnedUptoCardSaid : Prop := Claim7.holds Tryd.pinned (.plain (OpenSpec.upto fnFrameTurnedSpec)) fnFrameTurnedUptoCard
end Rows
end Go.Proofs.YtngifalfeheilaaDoor
