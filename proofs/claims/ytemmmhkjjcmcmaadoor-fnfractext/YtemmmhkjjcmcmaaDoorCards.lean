/-
  DERIVED. GIVEN WITH THE SEED: THE CARDS: each row of YtemmmhkjjcmcmaaDoorRows.lean that lists a variable, with what it lists TIED to the program's text (the seventh form; the later family's looks); each row that meets fmt, with fmt's text TOLD by the authors' own Lean function (tested against real Go, not proved from fmt's source: count such statements apart). THE CARD IS WHAT COUNTS. Prove the row's statement (the work); the ties are given (YtemmmhkjjcmcmaaDoorTie.lean); close each card by the builder's one call (the guide's Derived/Test/ToyasCard.lean, 'card_holds'). Laid BY PROGRAM, IN A SANDBOX (cutbox-door.mjs). By AI agents, Wed Nov 11 2026. No macro, syntax, notation, axiom, sorry.
-/
import Derived.Test.YtemmmhkjjcmcmaaDoorRows
import GoSem.ClaimSeven
namespace Go.Proofs.YtemmmhkjjcmcmaaDoor
namespace Rows

/-- THE TIED CARD OF 'laws.FnFracs'. -/
def fnFracsCard : Claim7 := { stood := { row := fnFracsRow, standIns := [], harness := (true, "d5d2d44f6e8f55cd8a0d1e415f78847ee5d9eafbcd6f088aceaa67eafbafd53b"), looks := true }, kinds := [], alts := [], laidByText := true, laidKinds := [.handle], laidTests := true, laidLooks := .later }
def FnFracsCardSaid : Prop := Claim7.holds Tryd.pinned (.plain (OpenSpec.ofChange fnFracsSpec)) fnFracsCard

/-- THE TIED CARD OF 'laws.FnFracText'. -/
def fnFracTextCard : Claim7 := { stood := { row := fnFracTextRow, standIns := [], harness := (true, "d5d2d44f6e8f55cd8a0d1e415f78847ee5d9eafbcd6f088aceaa67eafbafd53b"), looks := true }, kinds := [], alts := [], laidByText := true, laidKinds := [.data, .data, .data, .handle, .sentinel, .sentinel], laidTests := true, laidLooks := .later }
def FnFracTextCardSaid : Prop := Claim7.holds Tryd.pinned (.plain (OpenSpec.ofChange fnFracTextSpec)) fnFracTextCard

/-- THE SECOND FORM's CARD OF 'laws.FnFracs'. -/
def fnFracsUptoCard : Claim7 := { stood := { row := fnFracsUptoRow, standIns := [], harness := (true, "d5d2d44f6e8f55cd8a0d1e415f78847ee5d9eafbcd6f088aceaa67eafbafd53b"), looks := true }, kinds := [], alts := [], laidByText := true, laidKinds := [.handle], laidTests := true, laidLooks := .later }
def FnFracsUptoCardSaid : Prop := Claim7.holds Tryd.pinned (.plain (OpenSpec.upto fnFracsSpec)) fnFracsUptoCard

/-- THE SECOND FORM's CARD OF 'laws.FnFracText'. -/
def fnFracTextUptoCard : Claim7 := { stood := { row := fnFracTextUptoRow, standIns := [], harness := (true, "d5d2d44f6e8f55cd8a0d1e415f78847ee5d9eafbcd6f088aceaa67eafbafd53b"), looks := true }, kinds := [], alts := [], laidByText := true, laidKinds := [.data, .data, .data, .handle, .sentinel, .sentinel], laidTests := true, laidLooks := .later }
def FnFracTextUptoCardSaid : Prop := Claim7.holds Tryd.pinned (.plain (OpenSpec.upto fnFracTextSpec)) fnFracTextUptoCard
end Rows
end Go.Proofs.YtemmmhkjjcmcmaaDoor
