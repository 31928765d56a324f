/-
  No cell of these rows narrows 'for every input' (looked for: loops, veiled, ifaces, maps, wideKeys, modest, calm, conditions, laid).
  DERIVED. THE GIVEN ROWS OF THIS SEAT. 4 by the template 'for every input the law returns true; each argument reads behind the call as it read before'; 0 by the template 'total and deterministic' (their statements: YtcelnplkoidmhamTotals.lean).
  GIVEN WITH THE SEED: the statements are not yours to turn. If you find one false, say at which input.
  Laid BY PROGRAM, IN A SANDBOX (cutbox-rows.mjs): the forced cells as the released guide's own fill.sh prints them over the translation 731b44daef97b8a9… (all of the seat's roots in one cut). By AI agents, Wed Nov 11 2026. No macro, syntax, notation, axiom, sorry.
-/
import Derived.Test.YtcelnplkoidmhamChecked
import GoSem.Claim
import GoSem.ClaimJoined
import GoSem.ClaimMapViews
import Derived.JoinedTies
import Derived.KernelRfl
namespace Go.Proofs.Ytcelnplkoidmham
/- THE CELL 'sum', in the pinned program and in every row, IS THE sha256 OF THE DUMP (.gsa) THAT YtcelnplkoidmhamProg.lean LOADS. Nothing in Lean hashes anything: it is a label: what it is worth is what the hold of that sum in a sandbox is worth. -/
noncomputable def Try.pinned : Pinned := { name := "ytcelnplkoidmham", sum := "731b44daef97b8a99d15f161eef21947c89283dc6a92d87b75832f7846e48f67", checked := Try.checked }
namespace Rows
def none {H : Type} : Left H := { results := [], args := [] }

/-- 'laws.FnExactRiverAbove': WHATEVER THE INPUT: true; the input reads as it did. -/
def fnExactRiverAboveSpec : ChangeSpec := { name := "fnExactRiverAbove", fn := fun _ => fun
  | [d1, d2] => { results := [.lit (.bool true)], args := [d1, d2] }
  | _ => none }
def fnExactRiverAboveRow : OpenClaim := { program := "ytcelnplkoidmham", sum := "731b44daef97b8a99d15f161eef21947c89283dc6a92d87b75832f7846e48f67", func := "loop.example/g00068/laws.FnExactRiverAbove", spec := "fnExactRiverAbove", apart := false }
def FnExactRiverAboveSaid : Prop := fnExactRiverAboveRow.holds Try.pinned (OpenSpec.ofChange fnExactRiverAboveSpec)

/-- ITS FALSE NEIGHBOUR: 'it returns false'. Refute it at one input. -/
def fnExactRiverAboveWrong : ChangeSpec := { name := "fnExactRiverAbove", fn := fun _ => fun
  | [d1, d2] => { results := [.lit (.bool false)], args := [d1, d2] }
  | _ => none }
def FnExactRiverAboveWrongFalsely : Prop := fnExactRiverAboveRow.holds Try.pinned (OpenSpec.ofChange fnExactRiverAboveWrong)

/-- 'laws.FnExactStoreRight': WHATEVER THE INPUT: true; the input reads as it did. -/
def fnExactStoreRightSpec : ChangeSpec := { name := "fnExactStoreRight", fn := fun _ => fun
  | [d] => { results := [.lit (.bool true)], args := [d] }
  | _ => none }
def fnExactStoreRightRow : OpenClaim := { program := "ytcelnplkoidmham", sum := "731b44daef97b8a99d15f161eef21947c89283dc6a92d87b75832f7846e48f67", func := "loop.example/g00068/laws.FnExactStoreRight", spec := "fnExactStoreRight", apart := false }
def FnExactStoreRightSaid : Prop := fnExactStoreRightRow.holds Try.pinned (OpenSpec.ofChange fnExactStoreRightSpec)

/-- ITS FALSE NEIGHBOUR: 'it returns false'. Refute it at one input. -/
def fnExactStoreRightWrong : ChangeSpec := { name := "fnExactStoreRight", fn := fun _ => fun
  | [d] => { results := [.lit (.bool false)], args := [d] }
  | _ => none }
def FnExactStoreRightWrongFalsely : Prop := fnExactStoreRightRow.holds Try.pinned (OpenSpec.ofChange fnExactStoreRightWrong)

/-- 'laws.FnExactLevelAt': WHATEVER THE INPUT: true; the input reads as it did. -/
def fnExactLevelAtSpec : ChangeSpec := { name := "fnExactLevelAt", fn := fun _ => fun
  | [d1, d2] => { results := [.lit (.bool true)], args := [d1, d2] }
  | _ => none }
def fnExactLevelAtRow : OpenClaim := { program := "ytcelnplkoidmham", sum := "731b44daef97b8a99d15f161eef21947c89283dc6a92d87b75832f7846e48f67", func := "loop.example/g00068/laws.FnExactLevelAt", spec := "fnExactLevelAt", unfollowed := true, recurses := true, apart := false }
def FnExactLevelAtSaid : Prop := fnExactLevelAtRow.holds Try.pinned (OpenSpec.ofChange fnExactLevelAtSpec)

/-- ITS FALSE NEIGHBOUR: 'it returns false'. Refute it at one input. -/
def fnExactLevelAtWrong : ChangeSpec := { name := "fnExactLevelAt", fn := fun _ => fun
  | [d1, d2] => { results := [.lit (.bool false)], args := [d1, d2] }
  | _ => none }
def FnExactLevelAtWrongFalsely : Prop := fnExactLevelAtRow.holds Try.pinned (OpenSpec.ofChange fnExactLevelAtWrong)

/-- 'laws.FnExactVolumeAt': WHATEVER THE INPUT: true; the input reads as it did. -/
def fnExactVolumeAtSpec : ChangeSpec := { name := "fnExactVolumeAt", fn := fun _ => fun
  | [d1, d2] => { results := [.lit (.bool true)], args := [d1, d2] }
  | _ => none }
def fnExactVolumeAtRow : OpenClaim := { program := "ytcelnplkoidmham", sum := "731b44daef97b8a99d15f161eef21947c89283dc6a92d87b75832f7846e48f67", func := "loop.example/g00068/laws.FnExactVolumeAt", spec := "fnExactVolumeAt", unfollowed := true, recurses := true, apart := false }
def FnExactVolumeAtSaid : Prop := fnExactVolumeAtRow.holds Try.pinned (OpenSpec.ofChange fnExactVolumeAtSpec)

/-- ITS FALSE NEIGHBOUR: 'it returns false'. Refute it at one input. -/
def fnExactVolumeAtWrong : ChangeSpec := { name := "fnExactVolumeAt", fn := fun _ => fun
  | [d1, d2] => { results := [.lit (.bool false)], args := [d1, d2] }
  | _ => none }
def FnExactVolumeAtWrongFalsely : Prop := fnExactVolumeAtRow.holds Try.pinned (OpenSpec.ofChange fnExactVolumeAtWrong)

/- THE SECOND FORM. 'bulk': how many values and letters a reading holds, each counted each time it is reached (what is shared counts as often as it is met; a slice's spare places count too). A statement '..UptoSaid' is the law's where the arguments, and the package variables that the reading takes, are together of bulk at most 1048576: NARROWER than '..Said'. Prove '..Said' where nothing that the law and all that it calls make is longer than what came in: it says more and counts as full. Else prove '..UptoSaid'. A law counts once. -/
mutual
def uptoBulk {H : Type} : DataW H → Nat
  | .lit (.string bytes) => bytes.length + 1
  | .lit _ => 1
  | .nil => 1
  | .ptr d => uptoBulk d + 1
  | .slice elems spare => uptoBulkAll elems + uptoBulkAll spare + 1
  | .agg parts => uptoBulkAll parts + 1
  | .iface _ d => uptoBulk d + 1
  | .map entries => uptoBulkEntries entries + 1
  | .held _ => 1
def uptoBulkAll {H : Type} : List (DataW H) → Nat
  | [] => 0
  | d :: r => uptoBulk d + uptoBulkAll r
def uptoBulkEntries {H : Type} : List (Lit × DataW H) → Nat
  | [] => 0
  | x :: r => uptoBulkEntry x + uptoBulkEntries r
def uptoBulkEntry {H : Type} : Lit × DataW H → Nat
  | (.string bytes, d) => bytes.length + uptoBulk d + 1
  | (_, d) => uptoBulk d + 1
 end
def uptoSmall : (H : Type) → List (DataW H) → Bool := fun _ ds => decide (uptoBulkAll ds ≤ 1048576)
def OpenSpec.upto (s : _root_.Go.ChangeSpec) : _root_.Go.OpenSpec := { _root_.Go.OpenSpec.ofChange s with cond := some uptoSmall }

/-- 'laws.FnExactRiverAbove', WHERE WHAT IT READS IS OF BULK AT MOST 1048576: true; the input reads as it did. -/
def fnExactRiverAboveUptoRow : OpenClaim := { program := "ytcelnplkoidmham", sum := "731b44daef97b8a99d15f161eef21947c89283dc6a92d87b75832f7846e48f67", func := "loop.example/g00068/laws.FnExactRiverAbove", spec := "fnExactRiverAbove", apart := false, narrowed := true }
def FnExactRiverAboveUptoSaid : Prop := fnExactRiverAboveUptoRow.holds Try.pinned (OpenSpec.upto fnExactRiverAboveSpec)

/-- 'laws.FnExactStoreRight', WHERE WHAT IT READS IS OF BULK AT MOST 1048576: true; the input reads as it did. -/
def fnExactStoreRightUptoRow : OpenClaim := { program := "ytcelnplkoidmham", sum := "731b44daef97b8a99d15f161eef21947c89283dc6a92d87b75832f7846e48f67", func := "loop.example/g00068/laws.FnExactStoreRight", spec := "fnExactStoreRight", apart := false, narrowed := true }
def FnExactStoreRightUptoSaid : Prop := fnExactStoreRightUptoRow.holds Try.pinned (OpenSpec.upto fnExactStoreRightSpec)

/-- 'laws.FnExactLevelAt', WHERE WHAT IT READS IS OF BULK AT MOST 1048576: true; the input reads as it did. -/
def fnExactLevelAtUptoRow : OpenClaim := { program := "ytcelnplkoidmham", sum := "731b44daef97b8a99d15f161eef21947c89283dc6a92d87b75832f7846e48f67", func := "loop.example/g00068/laws.FnExactLevelAt", spec := "fnExactLevelAt", unfollowed := true, recurses := true, apart := false, narrowed := true }
def FnExactLevelAtUptoSaid : Prop := fnExactLevelAtUptoRow.holds Try.pinned (OpenSpec.upto fnExactLevelAtSpec)

/-- 'laws.FnExactVolumeAt', WHERE WHAT IT READS IS OF BULK AT MOST 1048576: true; the input reads as it did. -/
def fnExactVolumeAtUptoRow : OpenClaim := { program := "ytcelnplkoidmham", sum := "731b44daef97b8a99d15f161eef21947c89283dc6a92d87b75832f7846e48f67", func := "loop.example/g00068/laws.FnExactVolumeAt", spec := "fnExactVolumeAt", unfollowed := true, recurses := true, apart := false, narrowed := true }
def FnExactVolumeAtUptoSaid : Prop := fnExactVolumeAtUptoRow.holds Try.pinned (OpenSpec.upto fnExactVolumeAtSpec)

end Rows
end Go.Proofs.Ytcelnplkoidmham
