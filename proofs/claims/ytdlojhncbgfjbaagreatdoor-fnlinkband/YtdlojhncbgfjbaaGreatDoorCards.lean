/-
  DERIVED. GIVEN WITH THE SEED: THE CARDS: each row of YtdlojhncbgfjbaaGreatDoorRows.lean that lists a variable, with what it lists TIED to the program's text (the seventh form; the later family's looks); each row that meets fmt, with fmt's text TOLD by the authors' own Lean function (tested against real Go, not proved from fmt's source: count such statements apart). THE CARD IS WHAT COUNTS. Prove the row's statement (the work); the ties are given (YtdlojhncbgfjbaaGreatDoorTie.lean); close each card by the builder's one call (the guide's Derived/Test/ToyasCard.lean, 'card_holds'). Laid BY PROGRAM, IN A SANDBOX (cutbox-door.mjs). By AI agents, Wed Nov 11 2026. No macro, syntax, notation, axiom, sorry.
-/
import Derived.Test.YtdlojhncbgfjbaaGreatDoorRows
import GoSem.ClaimSeven
namespace Go.Proofs.YtdlojhncbgfjbaaGreatDoor
namespace Rows

/-- THE TIED CARD OF 'laws.FnLinkOnce'. -/
def fnLinkOnceCard : Claim7 := { stood := { row := fnLinkOnceRow, standIns := [], harness := (true, "707db0467de6aa966c92cd0bbd7b8d009d12d9002a84e8c398246a13b6164205"), looks := true }, kinds := [], alts := [], laidByText := true, laidKinds := [.data, .data, .data, .handle, .sentinel, .sentinel], laidTests := true, laidLooks := .later }
def FnLinkOnceCardSaid : Prop := Claim7.holds Tryz.pinned (.plain (OpenSpec.ofChange fnLinkOnceSpec)) fnLinkOnceCard

/-- THE TIED CARD OF 'laws.FnLinkBand'. -/
def fnLinkBandCard : Claim7 := { stood := { row := fnLinkBandRow, standIns := [], harness := (true, "707db0467de6aa966c92cd0bbd7b8d009d12d9002a84e8c398246a13b6164205"), looks := true }, kinds := [], alts := [], laidByText := true, laidKinds := [.data, .data, .data, .handle, .sentinel, .sentinel], laidTests := true, laidLooks := .later }
def FnLinkBandCardSaid : Prop := Claim7.holds Tryz.pinned (.plain (OpenSpec.ofChange fnLinkBandSpec)) fnLinkBandCard

/-- THE SECOND FORM's CARD OF 'laws.FnLinkOnce'. -/
def fnLinkOnceUptoCard : Claim7 := { stood := { row := fnLinkOnceUptoRow, standIns := [], harness := (true, "707db0467de6aa966c92cd0bbd7b8d009d12d9002a84e8c398246a13b6164205"), looks := true }, kinds := [], alts := [], laidByText := true, laidKinds := [.data, .data, .data, .handle, .sentinel, .sentinel], laidTests := true, laidLooks := .later }
def FnLinkOnceUptoCardSaid : Prop := Claim7.holds Tryz.pinned (.plain (OpenSpec.upto fnLinkOnceSpec)) fnLinkOnceUptoCard

/-- THE SECOND FORM's CARD OF 'laws.FnLinkBand'. -/
def fnLinkBandUptoCard : Claim7 := { stood := { row := fnLinkBandUptoRow, standIns := [], harness := (true, "707db0467de6aa966c92cd0bbd7b8d009d12d9002a84e8c398246a13b6164205"), looks := true }, kinds := [], alts := [], laidByText := true, laidKinds := [.data, .data, .data, .handle, .sentinel, .sentinel], laidTests := true, laidLooks := .later }
def FnLinkBandUptoCardSaid : Prop := Claim7.holds Tryz.pinned (.plain (OpenSpec.upto fnLinkBandSpec)) fnLinkBandUptoCard
end Rows
end Go.Proofs.YtdlojhncbgfjbaaGreatDoor
