/-
  DERIVED. GIVEN WITH THE SEED: THE CARDS: each row of YtbkpedcabbppbaaDoorRows.lean that lists a variable, with what it lists TIED to the program's text (the seventh form; the later family's looks); each row that meets fmt, with fmt's text TOLD by the authors' own Lean function (tested against real Go, not proved from fmt's source: count such statements apart). THE CARD IS WHAT COUNTS. Prove the row's statement (the work); the ties are given (YtbkpedcabbppbaaDoorTie.lean); close each card by the builder's one call (the guide's Derived/Test/ToyasCard.lean, 'card_holds'). Laid BY PROGRAM, IN A SANDBOX (cutbox-door.mjs). By AI agents, Wed Nov 11 2026. No macro, syntax, notation, axiom, sorry.
-/
import Derived.Test.YtbkpedcabbppbaaDoorRows
import GoSem.ClaimSeven
namespace Go.Proofs.YtbkpedcabbppbaaDoor
namespace Rows

/-- THE TIED CARD OF 'laws.FnExactRenewBest'. -/
def fnExactRenewBestCard : Claim7 := { stood := { row := fnExactRenewBestRow, standIns := [], harness := (true, "550545d0b85899bc4d57b3dea456127d6262d1af179836496c891e8a1a81df40"), looks := true }, kinds := [], alts := [], laidByText := true, laidKinds := [.handle], laidTests := true, laidLooks := .later }
def FnExactRenewBestCardSaid : Prop := Claim7.holds Tryd.pinned (.plain (OpenSpec.ofChange fnExactRenewBestSpec)) fnExactRenewBestCard

/-- THE TIED CARD OF 'laws.FnExactRenewOf'. -/
def fnExactRenewOfCard : Claim7 := { stood := { row := fnExactRenewOfRow, standIns := [], harness := (true, "550545d0b85899bc4d57b3dea456127d6262d1af179836496c891e8a1a81df40"), looks := true }, kinds := [], alts := [], laidByText := true, laidKinds := [.handle], laidTests := true, laidLooks := .later }
def FnExactRenewOfCardSaid : Prop := Claim7.holds Tryd.pinned (.plain (OpenSpec.ofChange fnExactRenewOfSpec)) fnExactRenewOfCard

/-- THE TIED CARD OF 'laws.FnRenewBest'. -/
def fnRenewBestCard : Claim7 := { stood := { row := fnRenewBestRow, standIns := [], harness := (true, "550545d0b85899bc4d57b3dea456127d6262d1af179836496c891e8a1a81df40"), looks := true }, kinds := [], alts := [], laidByText := true, laidKinds := [.handle], laidTests := true, laidLooks := .later }
def FnRenewBestCardSaid : Prop := Claim7.holds Tryd.pinned (.plain (OpenSpec.ofChange fnRenewBestSpec)) fnRenewBestCard

/-- THE TIED CARD OF 'laws.FnRenewYears'. -/
def fnRenewYearsCard : Claim7 := { stood := { row := fnRenewYearsRow, standIns := [], harness := (true, "550545d0b85899bc4d57b3dea456127d6262d1af179836496c891e8a1a81df40"), looks := true }, kinds := [], alts := [], laidByText := true, laidKinds := [.handle], laidTests := true, laidLooks := .later }
def FnRenewYearsCardSaid : Prop := Claim7.holds Tryd.pinned (.plain (OpenSpec.ofChange fnRenewYearsSpec)) fnRenewYearsCard

/-- THE SECOND FORM's CARD OF 'laws.FnExactRenewBest'. -/
def fnExactRenewBestUptoCard : Claim7 := { stood := { row := fnExactRenewBestUptoRow, standIns := [], harness := (true, "550545d0b85899bc4d57b3dea456127d6262d1af179836496c891e8a1a81df40"), looks := true }, kinds := [], alts := [], laidByText := true, laidKinds := [.handle], laidTests := true, laidLooks := .later }
def FnExactRenewBestUptoCardSaid : Prop := Claim7.holds Tryd.pinned (.plain (OpenSpec.upto fnExactRenewBestSpec)) fnExactRenewBestUptoCard

/-- THE SECOND FORM's CARD OF 'laws.FnExactRenewOf'. -/
def fnExactRenewOfUptoCard : Claim7 := { stood := { row := fnExactRenewOfUptoRow, standIns := [], harness := (true, "550545d0b85899bc4d57b3dea456127d6262d1af179836496c891e8a1a81df40"), looks := true }, kinds := [], alts := [], laidByText := true, laidKinds := [.handle], laidTests := true, laidLooks := .later }
def FnExactRenewOfUptoCardSaid : Prop := Claim7.holds Tryd.pinned (.plain (OpenSpec.upto fnExactRenewOfSpec)) fnExactRenewOfUptoCard

/-- THE SECOND FORM's CARD OF 'laws.FnRenewBest'. -/
def fnRenewBestUptoCard : Claim7 := { stood := { row := fnRenewBestUptoRow, standIns := [], harness := (true, "550545d0b85899bc4d57b3dea456127d6262d1af179836496c891e8a1a81df40"), looks := true }, kinds := [], alts := [], laidByText := true, laidKinds := [.handle], laidTests := true, laidLooks := .later }
def FnRenewBestUptoCardSaid : Prop := Claim7.holds Tryd.pinned (.plain (OpenSpec.upto fnRenewBestSpec)) fnRenewBestUptoCard

/-- THE SECOND FORM's CARD OF 'laws.FnRenewYears'. -/
def fnRenewYearsUptoCard : Claim7 := { stood := { row := fnRenewYearsUptoRow, standIns := [], harness := (true, "550545d0b85899bc4d57b3dea456127d6262d1af179836496c891e8a1a81df40"), looks := true }, kinds := [], alts := [], laidByText := true, laidKinds := [.handle], laidTests := true, laidLooks := .later }
def FnRenewYearsUptoCardSaid : Prop := Claim7.holds Tryd.pinned (.plain (OpenSpec.upto fnRenewYearsSpec)) fnRenewYearsUptoCard
end Rows
end Go.Proofs.YtbkpedcabbppbaaDoor
