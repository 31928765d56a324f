/-
  DERIVED. GIVEN WITH THE SEED: THE CARDS: each row of YtjmnehlgefpheaaDoorRows.lean that lists a variable, with what it lists TIED to the program's text (the seventh form; the later family's looks); each row that meets fmt, with fmt's text TOLD by the authors' own Lean function (tested against real Go, not proved from fmt's source: count such statements apart). THE CARD IS WHAT COUNTS. Prove the row's statement (the work); the ties are given (YtjmnehlgefpheaaDoorTie.lean); close each card by the builder's one call (the guide's Derived/Test/ToyasCard.lean, 'card_holds'). Laid BY PROGRAM, IN A SANDBOX (cutbox-door.mjs). By AI agents, Wed Nov 11 2026. No macro, syntax, notation, axiom, sorry.
-/
import Derived.Test.YtjmnehlgefpheaaDoorRows
import GoSem.ClaimSeven
namespace Go.Proofs.YtjmnehlgefpheaaDoor
namespace Rows

/-- THE TIED CARD OF 'laws.FnTubeBook'. -/
def fnTubeBookCard : Claim7 := { stood := { row := fnTubeBookRow, standIns := [], harness := (true, "ca3a597094d4c50b5146d4fddf2674f115f10fafa0cf8085a4965a628cef1c42"), looks := true }, kinds := [], alts := [], laidByText := true, laidKinds := [.data, .data, .data, .handle], laidTests := true, laidLooks := .later }
def FnTubeBookCardSaid : Prop := Claim7.holds Tryd.pinned (.plain (OpenSpec.ofChange fnTubeBookSpec)) fnTubeBookCard

/-- THE TIED CARD OF 'laws.FnTubeOrder'. -/
def fnTubeOrderCard : Claim7 := { stood := { row := fnTubeOrderRow, standIns := [], harness := (true, "ca3a597094d4c50b5146d4fddf2674f115f10fafa0cf8085a4965a628cef1c42"), looks := true }, kinds := [], alts := [], laidByText := true, laidKinds := [.data, .data, .data, .handle], laidTests := true, laidLooks := .later }
def FnTubeOrderCardSaid : Prop := Claim7.holds Tryd.pinned (.plain (OpenSpec.ofChange fnTubeOrderSpec)) fnTubeOrderCard

/-- THE TIED CARD OF 'laws.FnExactTubePush'. -/
def fnExactTubePushCard : Claim7 := { stood := { row := fnExactTubePushRow, standIns := [], harness := (true, "ca3a597094d4c50b5146d4fddf2674f115f10fafa0cf8085a4965a628cef1c42"), looks := true }, kinds := [], alts := [], laidByText := true, laidKinds := [.data, .data, .data, .handle], laidTests := true, laidLooks := .later }
def FnExactTubePushCardSaid : Prop := Claim7.holds Tryd.pinned (.plain (OpenSpec.ofChange fnExactTubePushSpec)) fnExactTubePushCard

/-- THE TIED CARD OF 'laws.FnExactTubeRun'. -/
def fnExactTubeRunCard : Claim7 := { stood := { row := fnExactTubeRunRow, standIns := [], harness := (true, "ca3a597094d4c50b5146d4fddf2674f115f10fafa0cf8085a4965a628cef1c42"), looks := true }, kinds := [], alts := [], laidByText := true, laidKinds := [.data, .data, .data, .handle], laidTests := true, laidLooks := .later }
def FnExactTubeRunCardSaid : Prop := Claim7.holds Tryd.pinned (.plain (OpenSpec.ofChange fnExactTubeRunSpec)) fnExactTubeRunCard

/-- THE SECOND FORM's CARD OF 'laws.FnTubeBook'. -/
def fnTubeBookUptoCard : Claim7 := { stood := { row := fnTubeBookUptoRow, standIns := [], harness := (true, "ca3a597094d4c50b5146d4fddf2674f115f10fafa0cf8085a4965a628cef1c42"), looks := true }, kinds := [], alts := [], laidByText := true, laidKinds := [.data, .data, .data, .handle], laidTests := true, laidLooks := .later }
def FnTubeBookUptoCardSaid : Prop := Claim7.holds Tryd.pinned (.plain (OpenSpec.upto fnTubeBookSpec)) fnTubeBookUptoCard

/-- THE SECOND FORM's CARD OF 'laws.FnTubeOrder'. -/
def fnTubeOrderUptoCard : Claim7 := { stood := { row := fnTubeOrderUptoRow, standIns := [], harness := (true, "ca3a597094d4c50b5146d4fddf2674f115f10fafa0cf8085a4965a628cef1c42"), looks := true }, kinds := [], alts := [], laidByText := true, laidKinds := [.data, .data, .data, .handle], laidTests := true, laidLooks := .later }
def FnTubeOrderUptoCardSaid : Prop := Claim7.holds Tryd.pinned (.plain (OpenSpec.upto fnTubeOrderSpec)) fnTubeOrderUptoCard

/-- THE SECOND FORM's CARD OF 'laws.FnExactTubePush'. -/
def fnExactTubePushUptoCard : Claim7 := { stood := { row := fnExactTubePushUptoRow, standIns := [], harness := (true, "ca3a597094d4c50b5146d4fddf2674f115f10fafa0cf8085a4965a628cef1c42"), looks := true }, kinds := [], alts := [], laidByText := true, laidKinds := [.data, .data, .data, .handle], laidTests := true, laidLooks := .later }
def FnExactTubePushUptoCardSaid : Prop := Claim7.holds Tryd.pinned (.plain (OpenSpec.upto fnExactTubePushSpec)) fnExactTubePushUptoCard

/-- THE SECOND FORM's CARD OF 'laws.FnExactTubeRun'. -/
def fnExactTubeRunUptoCard : Claim7 := { stood := { row := fnExactTubeRunUptoRow, standIns := [], harness := (true, "ca3a597094d4c50b5146d4fddf2674f115f10fafa0cf8085a4965a628cef1c42"), looks := true }, kinds := [], alts := [], laidByText := true, laidKinds := [.data, .data, .data, .handle], laidTests := true, laidLooks := .later }
def FnExactTubeRunUptoCardSaid : Prop := Claim7.holds Tryd.pinned (.plain (OpenSpec.upto fnExactTubeRunSpec)) fnExactTubeRunUptoCard
end Rows
end Go.Proofs.YtjmnehlgefpheaaDoor
