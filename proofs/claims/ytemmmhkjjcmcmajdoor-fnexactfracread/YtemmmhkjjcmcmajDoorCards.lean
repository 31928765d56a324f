/-
  DERIVED. GIVEN WITH THE SEED: THE CARDS: each row of YtemmmhkjjcmcmajDoorRows.lean that lists a variable, with what it lists TIED to the program's text (the seventh form; the later family's looks); each row that meets fmt, with fmt's text TOLD by the authors' own Lean function (tested against real Go, not proved from fmt's source: count such statements apart). THE CARD IS WHAT COUNTS. Prove the row's statement (the work); the ties are given (YtemmmhkjjcmcmajDoorTie.lean); close each card by the builder's one call (the guide's Derived/Test/ToyasCard.lean, 'card_holds'). Laid BY PROGRAM, IN A SANDBOX (cutbox-door.mjs). By AI agents, Wed Nov 11 2026. No macro, syntax, notation, axiom, sorry.
-/
import Derived.Test.YtemmmhkjjcmcmajDoorRows
import GoSem.ClaimSeven
namespace Go.Proofs.YtemmmhkjjcmcmajDoor
namespace Rows

/-- THE TIED CARD OF 'laws.FnExactFracSub'. -/
def fnExactFracSubCard : Claim7 := { stood := { row := fnExactFracSubRow, standIns := [], harness := (true, "ee06ba30755deeba2d3125a49ff7d0cd254e9175f5139090471c7692f422aabc"), looks := true }, kinds := [], alts := [], laidByText := true, laidKinds := [.handle], laidTests := true, laidLooks := .later }
def FnExactFracSubCardSaid : Prop := Claim7.holds Tryd.pinned (.plain (OpenSpec.ofChange fnExactFracSubSpec)) fnExactFracSubCard

/-- THE TIED CARD OF 'laws.FnExactFracMul'. -/
def fnExactFracMulCard : Claim7 := { stood := { row := fnExactFracMulRow, standIns := [], harness := (true, "ee06ba30755deeba2d3125a49ff7d0cd254e9175f5139090471c7692f422aabc"), looks := true }, kinds := [], alts := [], laidByText := true, laidKinds := [.handle], laidTests := true, laidLooks := .later }
def FnExactFracMulCardSaid : Prop := Claim7.holds Tryd.pinned (.plain (OpenSpec.ofChange fnExactFracMulSpec)) fnExactFracMulCard

/-- THE TIED CARD OF 'laws.FnExactFracDiv'. -/
def fnExactFracDivCard : Claim7 := { stood := { row := fnExactFracDivRow, standIns := [], harness := (true, "ee06ba30755deeba2d3125a49ff7d0cd254e9175f5139090471c7692f422aabc"), looks := true }, kinds := [], alts := [], laidByText := true, laidKinds := [.handle], laidTests := true, laidLooks := .later }
def FnExactFracDivCardSaid : Prop := Claim7.holds Tryd.pinned (.plain (OpenSpec.ofChange fnExactFracDivSpec)) fnExactFracDivCard

/-- THE TIED CARD OF 'laws.FnExactFracText'. -/
def fnExactFracTextCard : Claim7 := { stood := { row := fnExactFracTextRow, standIns := [], harness := (true, "ee06ba30755deeba2d3125a49ff7d0cd254e9175f5139090471c7692f422aabc"), looks := true }, kinds := [], alts := [], laidByText := true, laidKinds := [.data, .data, .data], laidTests := true, laidLooks := .later }
def FnExactFracTextCardSaid : Prop := Claim7.holds Tryd.pinned (.plain (OpenSpec.ofChange fnExactFracTextSpec)) fnExactFracTextCard

/-- THE TIED CARD OF 'laws.FnExactFracRead'. -/
def fnExactFracReadCard : Claim7 := { stood := { row := fnExactFracReadRow, standIns := [], harness := (true, "ee06ba30755deeba2d3125a49ff7d0cd254e9175f5139090471c7692f422aabc"), looks := true }, kinds := [], alts := [], laidByText := true, laidKinds := [.data, .data, .data, .handle, .sentinel, .sentinel], laidTests := true, laidLooks := .later }
def FnExactFracReadCardSaid : Prop := Claim7.holds Tryd.pinned (.plain (OpenSpec.ofChange fnExactFracReadSpec)) fnExactFracReadCard

/-- THE SECOND FORM's CARD OF 'laws.FnExactFracSub'. -/
def fnExactFracSubUptoCard : Claim7 := { stood := { row := fnExactFracSubUptoRow, standIns := [], harness := (true, "ee06ba30755deeba2d3125a49ff7d0cd254e9175f5139090471c7692f422aabc"), looks := true }, kinds := [], alts := [], laidByText := true, laidKinds := [.handle], laidTests := true, laidLooks := .later }
def FnExactFracSubUptoCardSaid : Prop := Claim7.holds Tryd.pinned (.plain (OpenSpec.upto fnExactFracSubSpec)) fnExactFracSubUptoCard

/-- THE SECOND FORM's CARD OF 'laws.FnExactFracMul'. -/
def fnExactFracMulUptoCard : Claim7 := { stood := { row := fnExactFracMulUptoRow, standIns := [], harness := (true, "ee06ba30755deeba2d3125a49ff7d0cd254e9175f5139090471c7692f422aabc"), looks := true }, kinds := [], alts := [], laidByText := true, laidKinds := [.handle], laidTests := true, laidLooks := .later }
def FnExactFracMulUptoCardSaid : Prop := Claim7.holds Tryd.pinned (.plain (OpenSpec.upto fnExactFracMulSpec)) fnExactFracMulUptoCard

/-- THE SECOND FORM's CARD OF 'laws.FnExactFracDiv'. -/
def fnExactFracDivUptoCard : Claim7 := { stood := { row := fnExactFracDivUptoRow, standIns := [], harness := (true, "ee06ba30755deeba2d3125a49ff7d0cd254e9175f5139090471c7692f422aabc"), looks := true }, kinds := [], alts := [], laidByText := true, laidKinds := [.handle], laidTests := true, laidLooks := .later }
def FnExactFracDivUptoCardSaid : Prop := Claim7.holds Tryd.pinned (.plain (OpenSpec.upto fnExactFracDivSpec)) fnExactFracDivUptoCard

/-- THE SECOND FORM's CARD OF 'laws.FnExactFracText'. -/
def fnExactFracTextUptoCard : Claim7 := { stood := { row := fnExactFracTextUptoRow, standIns := [], harness := (true, "ee06ba30755deeba2d3125a49ff7d0cd254e9175f5139090471c7692f422aabc"), looks := true }, kinds := [], alts := [], laidByText := true, laidKinds := [.data, .data, .data], laidTests := true, laidLooks := .later }
def FnExactFracTextUptoCardSaid : Prop := Claim7.holds Tryd.pinned (.plain (OpenSpec.upto fnExactFracTextSpec)) fnExactFracTextUptoCard

/-- THE SECOND FORM's CARD OF 'laws.FnExactFracRead'. -/
def fnExactFracReadUptoCard : Claim7 := { stood := { row := fnExactFracReadUptoRow, standIns := [], harness := (true, "ee06ba30755deeba2d3125a49ff7d0cd254e9175f5139090471c7692f422aabc"), looks := true }, kinds := [], alts := [], laidByText := true, laidKinds := [.data, .data, .data, .handle, .sentinel, .sentinel], laidTests := true, laidLooks := .later }
def FnExactFracReadUptoCardSaid : Prop := Claim7.holds Tryd.pinned (.plain (OpenSpec.upto fnExactFracReadSpec)) fnExactFracReadUptoCard
end Rows
end Go.Proofs.YtemmmhkjjcmcmajDoor
