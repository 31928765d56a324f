/-
  DERIVED. GIVEN WITH THE SEED: THE CARDS: each row of YtgkgpdionhfkmaaDoorRows.lean that lists a variable, with what it lists TIED to the program's text (the seventh form; the later family's looks); each row that meets fmt, with fmt's text TOLD by the authors' own Lean function (tested against real Go, not proved from fmt's source: count such statements apart). THE CARD IS WHAT COUNTS. Prove the row's statement (the work); the ties are given (YtgkgpdionhfkmaaDoorTie.lean); close each card by the builder's one call (the guide's Derived/Test/ToyasCard.lean, 'card_holds'). Laid BY PROGRAM, IN A SANDBOX (cutbox-door.mjs). By AI agents, Wed Nov 11 2026. No macro, syntax, notation, axiom, sorry.
-/
import Derived.Test.YtgkgpdionhfkmaaDoorRows
import GoSem.ClaimSeven
namespace Go.Proofs.YtgkgpdionhfkmaaDoor
namespace Rows

/-- THE TIED CARD OF 'laws.FnFrames'. -/
def fnFramesCard : Claim7 := { stood := { row := fnFramesRow, standIns := [], harness := (true, "0c203cc494ec27b699ba8d5e62d1f8e741c9a43429445f38a5a16a5def96ebc7"), looks := true }, kinds := [], alts := [], laidByText := true, laidKinds := [.handle], laidTests := true, laidLooks := .later }
def FnFramesCardSaid : Prop := Claim7.holds Tryd.pinned (.plain (OpenSpec.ofChange fnFramesSpec)) fnFramesCard

/-- THE TIED CARD OF 'laws.FnFrameTurned'. -/
def fnFrameTurnedCard : Claim7 := { stood := { row := fnFrameTurnedRow, standIns := [], harness := (true, "0c203cc494ec27b699ba8d5e62d1f8e741c9a43429445f38a5a16a5def96ebc7"), looks := true }, kinds := [], alts := [], laidByText := true, laidKinds := [.handle], laidTests := true, laidLooks := .later }
def FnFrameTurnedCardSaid : Prop := Claim7.holds Tryd.pinned (.plain (OpenSpec.ofChange fnFrameTurnedSpec)) fnFrameTurnedCard

/-- THE TIED CARD OF 'laws.FnExactFrameRead'. -/
def fnExactFrameReadCard : Claim7 := { stood := { row := fnExactFrameReadRow, standIns := [], harness := (true, "0c203cc494ec27b699ba8d5e62d1f8e741c9a43429445f38a5a16a5def96ebc7"), looks := true }, kinds := [], alts := [], laidByText := true, laidKinds := [.handle], laidTests := true, laidLooks := .later }
def FnExactFrameReadCardSaid : Prop := Claim7.holds Tryd.pinned (.plain (OpenSpec.ofChange fnExactFrameReadSpec)) fnExactFrameReadCard

/-- THE TIED CARD OF 'laws.FnExactFramesOf'. -/
def fnExactFramesOfCard : Claim7 := { stood := { row := fnExactFramesOfRow, standIns := [], harness := (true, "0c203cc494ec27b699ba8d5e62d1f8e741c9a43429445f38a5a16a5def96ebc7"), looks := true }, kinds := [], alts := [], laidByText := true, laidKinds := [.handle], laidTests := true, laidLooks := .later }
def FnExactFramesOfCardSaid : Prop := Claim7.holds Tryd.pinned (.plain (OpenSpec.ofChange fnExactFramesOfSpec)) fnExactFramesOfCard

/-- THE SECOND FORM's CARD OF 'laws.FnFrames'. -/
def fnFramesUptoCard : Claim7 := { stood := { row := fnFramesUptoRow, standIns := [], harness := (true, "0c203cc494ec27b699ba8d5e62d1f8e741c9a43429445f38a5a16a5def96ebc7"), looks := true }, kinds := [], alts := [], laidByText := true, laidKinds := [.handle], laidTests := true, laidLooks := .later }
def FnFramesUptoCardSaid : Prop := Claim7.holds Tryd.pinned (.plain (OpenSpec.upto fnFramesSpec)) fnFramesUptoCard

/-- THE SECOND FORM's CARD OF 'laws.FnFrameTurned'. -/
def fnFrameTurnedUptoCard : Claim7 := { stood := { row := fnFrameTurnedUptoRow, standIns := [], harness := (true, "0c203cc494ec27b699ba8d5e62d1f8e741c9a43429445f38a5a16a5def96ebc7"), looks := true }, kinds := [], alts := [], laidByText := true, laidKinds := [.handle], laidTests := true, laidLooks := .later }
def FnFrameTurnedUptoCardSaid : Prop := Claim7.holds Tryd.pinned (.plain (OpenSpec.upto fnFrameTurnedSpec)) fnFrameTurnedUptoCard

/-- THE SECOND FORM's CARD OF 'laws.FnExactFrameRead'. -/
def fnExactFrameReadUptoCard : Claim7 := { stood := { row := fnExactFrameReadUptoRow, standIns := [], harness := (true, "0c203cc494ec27b699ba8d5e62d1f8e741c9a43429445f38a5a16a5def96ebc7"), looks := true }, kinds := [], alts := [], laidByText := true, laidKinds := [.handle], laidTests := true, laidLooks := .later }
def FnExactFrameReadUptoCardSaid : Prop := Claim7.holds Tryd.pinned (.plain (OpenSpec.upto fnExactFrameReadSpec)) fnExactFrameReadUptoCard

/-- THE SECOND FORM's CARD OF 'laws.FnExactFramesOf'. -/
def fnExactFramesOfUptoCard : Claim7 := { stood := { row := fnExactFramesOfUptoRow, standIns := [], harness := (true, "0c203cc494ec27b699ba8d5e62d1f8e741c9a43429445f38a5a16a5def96ebc7"), looks := true }, kinds := [], alts := [], laidByText := true, laidKinds := [.handle], laidTests := true, laidLooks := .later }
def FnExactFramesOfUptoCardSaid : Prop := Claim7.holds Tryd.pinned (.plain (OpenSpec.upto fnExactFramesOfSpec)) fnExactFramesOfUptoCard
end Rows
end Go.Proofs.YtgkgpdionhfkmaaDoor
