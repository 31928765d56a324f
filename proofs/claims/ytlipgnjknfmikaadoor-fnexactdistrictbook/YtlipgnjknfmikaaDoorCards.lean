/-
  DERIVED. GIVEN WITH THE SEED: THE CARDS: each row of YtlipgnjknfmikaaDoorRows.lean that lists a variable, with what it lists TIED to the program's text (the seventh form; the later family's looks); each row that meets fmt, with fmt's text TOLD by the authors' own Lean function (tested against real Go, not proved from fmt's source: count such statements apart). THE CARD IS WHAT COUNTS. Prove the row's statement (the work); the ties are given (YtlipgnjknfmikaaDoorTie.lean); close each card by the builder's one call (the guide's Derived/Test/ToyasCard.lean, 'card_holds'). Laid BY PROGRAM, IN A SANDBOX (cutbox-door.mjs). By AI agents, Wed Nov 11 2026. No macro, syntax, notation, axiom, sorry.
-/
import Derived.Test.YtlipgnjknfmikaaDoorRows
import GoSem.ClaimSeven
namespace Go.Proofs.YtlipgnjknfmikaaDoor
namespace Rows

/-- THE TIED CARD OF 'laws.FnExactDistrictBook'. -/
def fnExactDistrictBookCard : Claim7 := { stood := { row := fnExactDistrictBookRow, standIns := [], harness := (true, "9aa413b8a3425b8090bebc24b6077452a197f96a1c8131b7e361d76cc2f5ad1d"), looks := true }, kinds := [], alts := [], laidByText := true, laidKinds := [.handle], laidTests := true, laidLooks := .later }
def FnExactDistrictBookCardSaid : Prop := Claim7.holds Tryd.pinned (.plain (OpenSpec.ofChange fnExactDistrictBookSpec)) fnExactDistrictBookCard

/-- THE SECOND FORM's CARD OF 'laws.FnExactDistrictBook'. -/
def fnExactDistrictBookUptoCard : Claim7 := { stood := { row := fnExactDistrictBookUptoRow, standIns := [], harness := (true, "9aa413b8a3425b8090bebc24b6077452a197f96a1c8131b7e361d76cc2f5ad1d"), looks := true }, kinds := [], alts := [], laidByText := true, laidKinds := [.handle], laidTests := true, laidLooks := .later }
def FnExactDistrictBookUptoCardSaid : Prop := Claim7.holds Tryd.pinned (.plain (OpenSpec.upto fnExactDistrictBookSpec)) fnExactDistrictBookUptoCard
end Rows
end Go.Proofs.YtlipgnjknfmikaaDoor
