/-
  No cell of these rows narrows 'for every input' (looked for: loops, veiled, ifaces, maps, wideKeys, modest, calm, conditions, laid).
  DERIVED. THE GIVEN ROWS OF THIS SEAT. 4 by the template 'for every input the law returns true; each argument reads behind the call as it read before'; 0 by the template 'total and deterministic' (their statements: YtjmnehlgefpheaaTotals.lean).
  GIVEN WITH THE SEED: the statements are not yours to turn. If you find one false, say at which input.
  Laid BY PROGRAM, IN A SANDBOX (cutbox-rows.mjs): the forced cells as the released guide's own fill.sh prints them over the translation a5e358186d40f57f… (all of the seat's roots in one cut). By AI agents, Wed Nov 11 2026. No macro, syntax, notation, axiom, sorry.
-/
import Derived.Test.YtjmnehlgefpheaaChecked
import GoSem.Claim
import GoSem.ClaimJoined
import GoSem.ClaimMapViews
import Derived.JoinedTies
import Derived.KernelRfl
namespace Go.Proofs.Ytjmnehlgefpheaa
/- THE CELL 'sum', in the pinned program and in every row, IS THE sha256 OF THE DUMP (.gsa) THAT YtjmnehlgefpheaaProg.lean LOADS. Nothing in Lean hashes anything: it is a label: what it is worth is what the hold of that sum in a sandbox is worth. -/
noncomputable def Try.pinned : Pinned := { name := "ytjmnehlgefpheaa", sum := "a5e358186d40f57f010025bc11025e4190a8a15e4a61e550c087a2627ff48328", checked := Try.checked }
namespace Rows
def none {H : Type} : Left H := { results := [], args := [] }

/-- 'laws.FnExactTubeRight': WHATEVER THE INPUT: true; the input reads as it did. -/
def fnExactTubeRightSpec : ChangeSpec := { name := "fnExactTubeRight", fn := fun _ => fun
  | [d] => { results := [.lit (.bool true)], args := [d] }
  | _ => none }
def fnExactTubeRightRow : OpenClaim := { program := "ytjmnehlgefpheaa", sum := "a5e358186d40f57f010025bc11025e4190a8a15e4a61e550c087a2627ff48328", func := "loop.example/g00068/laws.FnExactTubeRight", spec := "fnExactTubeRight", apart := false }
def FnExactTubeRightSaid : Prop := fnExactTubeRightRow.holds Try.pinned (OpenSpec.ofChange fnExactTubeRightSpec)

/-- ITS FALSE NEIGHBOUR: 'it returns false'. Refute it at one input. -/
def fnExactTubeRightWrong : ChangeSpec := { name := "fnExactTubeRight", fn := fun _ => fun
  | [d] => { results := [.lit (.bool false)], args := [d] }
  | _ => none }
def FnExactTubeRightWrongFalsely : Prop := fnExactTubeRightRow.holds Try.pinned (OpenSpec.ofChange fnExactTubeRightWrong)

/-- 'laws.FnExactTubeDecay': WHATEVER THE INPUT: true; the input reads as it did. -/
def fnExactTubeDecaySpec : ChangeSpec := { name := "fnExactTubeDecay", fn := fun _ => fun
  | [d1, d2] => { results := [.lit (.bool true)], args := [d1, d2] }
  | _ => none }
def fnExactTubeDecayRow : OpenClaim := { program := "ytjmnehlgefpheaa", sum := "a5e358186d40f57f010025bc11025e4190a8a15e4a61e550c087a2627ff48328", func := "loop.example/g00068/laws.FnExactTubeDecay", spec := "fnExactTubeDecay", unfollowed := true, recurses := true, apart := false }
def FnExactTubeDecaySaid : Prop := fnExactTubeDecayRow.holds Try.pinned (OpenSpec.ofChange fnExactTubeDecaySpec)

/-- ITS FALSE NEIGHBOUR: 'it returns false'. Refute it at one input. -/
def fnExactTubeDecayWrong : ChangeSpec := { name := "fnExactTubeDecay", fn := fun _ => fun
  | [d1, d2] => { results := [.lit (.bool false)], args := [d1, d2] }
  | _ => none }
def FnExactTubeDecayWrongFalsely : Prop := fnExactTubeDecayRow.holds Try.pinned (OpenSpec.ofChange fnExactTubeDecayWrong)

/-- 'laws.FnExactTubeAge': WHATEVER THE INPUT: true; the input reads as it did. -/
def fnExactTubeAgeSpec : ChangeSpec := { name := "fnExactTubeAge", fn := fun _ => fun
  | [d1, d2] => { results := [.lit (.bool true)], args := [d1, d2] }
  | _ => none }
def fnExactTubeAgeRow : OpenClaim := { program := "ytjmnehlgefpheaa", sum := "a5e358186d40f57f010025bc11025e4190a8a15e4a61e550c087a2627ff48328", func := "loop.example/g00068/laws.FnExactTubeAge", spec := "fnExactTubeAge", apart := false }
def FnExactTubeAgeSaid : Prop := fnExactTubeAgeRow.holds Try.pinned (OpenSpec.ofChange fnExactTubeAgeSpec)

/-- ITS FALSE NEIGHBOUR: 'it returns false'. Refute it at one input. -/
def fnExactTubeAgeWrong : ChangeSpec := { name := "fnExactTubeAge", fn := fun _ => fun
  | [d1, d2] => { results := [.lit (.bool false)], args := [d1, d2] }
  | _ => none }
def FnExactTubeAgeWrongFalsely : Prop := fnExactTubeAgeRow.holds Try.pinned (OpenSpec.ofChange fnExactTubeAgeWrong)

/-- 'laws.FnExactMixParcels': WHATEVER THE INPUT: true; the input reads as it did. -/
def fnExactMixParcelsSpec : ChangeSpec := { name := "fnExactMixParcels", fn := fun _ => fun
  | [d] => { results := [.lit (.bool true)], args := [d] }
  | _ => none }
def fnExactMixParcelsRow : OpenClaim := { program := "ytjmnehlgefpheaa", sum := "a5e358186d40f57f010025bc11025e4190a8a15e4a61e550c087a2627ff48328", func := "loop.example/g00068/laws.FnExactMixParcels", spec := "fnExactMixParcels", apart := false }
def FnExactMixParcelsSaid : Prop := fnExactMixParcelsRow.holds Try.pinned (OpenSpec.ofChange fnExactMixParcelsSpec)

/-- ITS FALSE NEIGHBOUR: 'it returns false'. Refute it at one input. -/
def fnExactMixParcelsWrong : ChangeSpec := { name := "fnExactMixParcels", fn := fun _ => fun
  | [d] => { results := [.lit (.bool false)], args := [d] }
  | _ => none }
def FnExactMixParcelsWrongFalsely : Prop := fnExactMixParcelsRow.holds Try.pinned (OpenSpec.ofChange fnExactMixParcelsWrong)

/- THE SECOND FORM. 'bulk': how many values and letters a reading holds, each counted each time it is reached (what is shared counts as often as it is met; a slice's spare places count too). A statement '..UptoSaid' is the law's where the arguments, and the package variables that the reading takes, are together of bulk at most 1048576: NARROWER than '..Said'. Prove '..Said' where nothing that the law and all that it calls make is longer than what came in: it says more and counts as full. Else prove '..UptoSaid'. A law counts once. -/
mutual
def uptoBulk {H : Type} : DataW H → Nat
  | .lit (.string bytes) => bytes.length + 1
  | .lit _ => 1
  | .nil => 1
  | .ptr d => uptoBulk d + 1
  | .slice elems spare => uptoBulkAll elems + uptoBulkAll spare + 1
  | .agg parts => uptoBulkAll parts + 1
  | .iface _ d => uptoBulk d + 1
  | .map entries => uptoBulkEntries entries + 1
  | .held _ => 1
def uptoBulkAll {H : Type} : List (DataW H) → Nat
  | [] => 0
  | d :: r => uptoBulk d + uptoBulkAll r
def uptoBulkEntries {H : Type} : List (Lit × DataW H) → Nat
  | [] => 0
  | x :: r => uptoBulkEntry x + uptoBulkEntries r
def uptoBulkEntry {H : Type} : Lit × DataW H → Nat
  | (.string bytes, d) => bytes.length + uptoBulk d + 1
  | (_, d) => uptoBulk d + 1
 end
def uptoSmall : (H : Type) → List (DataW H) → Bool := fun _ ds => decide (uptoBulkAll ds ≤ 1048576)
def OpenSpec.upto (s : _root_.Go.ChangeSpec) : _root_.Go.OpenSpec := { _root_.Go.OpenSpec.ofChange s with cond := some uptoSmall }

/-- 'laws.FnExactTubeRight', WHERE WHAT IT READS IS OF BULK AT MOST 1048576: true; the input reads as it did. -/
def fnExactTubeRightUptoRow : OpenClaim := { program := "ytjmnehlgefpheaa", sum := "a5e358186d40f57f010025bc11025e4190a8a15e4a61e550c087a2627ff48328", func := "loop.example/g00068/laws.FnExactTubeRight", spec := "fnExactTubeRight", apart := false, narrowed := true }
def FnExactTubeRightUptoSaid : Prop := fnExactTubeRightUptoRow.holds Try.pinned (OpenSpec.upto fnExactTubeRightSpec)

/-- 'laws.FnExactTubeDecay', WHERE WHAT IT READS IS OF BULK AT MOST 1048576: true; the input reads as it did. -/
def fnExactTubeDecayUptoRow : OpenClaim := { program := "ytjmnehlgefpheaa", sum := "a5e358186d40f57f010025bc11025e4190a8a15e4a61e550c087a2627ff48328", func := "loop.example/g00068/laws.FnExactTubeDecay", spec := "fnExactTubeDecay", unfollowed := true, recurses := true, apart := false, narrowed := true }
def FnExactTubeDecayUptoSaid : Prop := fnExactTubeDecayUptoRow.holds Try.pinned (OpenSpec.upto fnExactTubeDecaySpec)

/-- 'laws.FnExactTubeAge', WHERE WHAT IT READS IS OF BULK AT MOST 1048576: true; the input reads as it did. -/
def fnExactTubeAgeUptoRow : OpenClaim := { program := "ytjmnehlgefpheaa", sum := "a5e358186d40f57f010025bc11025e4190a8a15e4a61e550c087a2627ff48328", func := "loop.example/g00068/laws.FnExactTubeAge", spec := "fnExactTubeAge", apart := false, narrowed := true }
def FnExactTubeAgeUptoSaid : Prop := fnExactTubeAgeUptoRow.holds Try.pinned (OpenSpec.upto fnExactTubeAgeSpec)

/-- 'laws.FnExactMixParcels', WHERE WHAT IT READS IS OF BULK AT MOST 1048576: true; the input reads as it did. -/
def fnExactMixParcelsUptoRow : OpenClaim := { program := "ytjmnehlgefpheaa", sum := "a5e358186d40f57f010025bc11025e4190a8a15e4a61e550c087a2627ff48328", func := "loop.example/g00068/laws.FnExactMixParcels", spec := "fnExactMixParcels", apart := false, narrowed := true }
def FnExactMixParcelsUptoSaid : Prop := fnExactMixParcelsUptoRow.holds Try.pinned (OpenSpec.upto fnExactMixParcelsSpec)

end Rows
end Go.Proofs.Ytjmnehlgefpheaa
