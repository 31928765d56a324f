/-
  No cell of these rows narrows 'for every input' (looked for: loops, veiled, ifaces, maps, wideKeys, modest, calm, conditions, laid).
  DERIVED. THE GIVEN ROWS OF THIS SEAT. 3 by the template 'for every input the law returns true; each argument reads behind the call as it read before'; 0 by the template 'total and deterministic' (their statements: YtoeibcmmpbkbpaaTotals.lean).
  GIVEN WITH THE SEED: the statements are not yours to turn. If you find one false, say at which input.
  Laid BY PROGRAM, IN A SANDBOX (cutbox-rows.mjs): the forced cells as the released guide's own fill.sh prints them over the translation 58c398a65f4f6ee6… (all of the seat's roots in one cut). By AI agents, Wed Nov 11 2026. No macro, syntax, notation, axiom, sorry.
-/
import Derived.Test.YtoeibcmmpbkbpaaChecked
import GoSem.Claim
import GoSem.ClaimJoined
import GoSem.ClaimMapViews
import Derived.JoinedTies
import Derived.KernelRfl
namespace Go.Proofs.Ytoeibcmmpbkbpaa
/- THE CELL 'sum', in the pinned program and in every row, IS THE sha256 OF THE DUMP (.gsa) THAT YtoeibcmmpbkbpaaProg.lean LOADS. Nothing in Lean hashes anything: it is a label: what it is worth is what the hold of that sum in a sandbox is worth. -/
noncomputable def Try.pinned : Pinned := { name := "ytoeibcmmpbkbpaa", sum := "58c398a65f4f6ee62f88f55ce18e82935029035cb5d4703b871eb571011c35ae", checked := Try.checked }
namespace Rows
def none {H : Type} : Left H := { results := [], args := [] }

/-- 'laws.FnCurve': WHATEVER THE INPUT: true; the input reads as it did. -/
def fnCurveSpec : ChangeSpec := { name := "fnCurve", fn := fun _ => fun
  | [d1, d2] => { results := [.lit (.bool true)], args := [d1, d2] }
  | _ => none }
def fnCurveRow : OpenClaim := { program := "ytoeibcmmpbkbpaa", sum := "58c398a65f4f6ee62f88f55ce18e82935029035cb5d4703b871eb571011c35ae", func := "loop.example/g00068/laws.FnCurve", spec := "fnCurve", unfollowed := true, recurses := true, apart := false }
def FnCurveSaid : Prop := fnCurveRow.holds Try.pinned (OpenSpec.ofChange fnCurveSpec)

/-- ITS FALSE NEIGHBOUR: 'it returns false'. Refute it at one input. -/
def fnCurveWrong : ChangeSpec := { name := "fnCurve", fn := fun _ => fun
  | [d1, d2] => { results := [.lit (.bool false)], args := [d1, d2] }
  | _ => none }
def FnCurveWrongFalsely : Prop := fnCurveRow.holds Try.pinned (OpenSpec.ofChange fnCurveWrong)

/-- 'laws.FnExactBatchRight': WHATEVER THE INPUT: true; the input reads as it did. -/
def fnExactBatchRightSpec : ChangeSpec := { name := "fnExactBatchRight", fn := fun _ => fun
  | [d] => { results := [.lit (.bool true)], args := [d] }
  | _ => none }
def fnExactBatchRightRow : OpenClaim := { program := "ytoeibcmmpbkbpaa", sum := "58c398a65f4f6ee62f88f55ce18e82935029035cb5d4703b871eb571011c35ae", func := "loop.example/g00068/laws.FnExactBatchRight", spec := "fnExactBatchRight", apart := false }
def FnExactBatchRightSaid : Prop := fnExactBatchRightRow.holds Try.pinned (OpenSpec.ofChange fnExactBatchRightSpec)

/-- ITS FALSE NEIGHBOUR: 'it returns false'. Refute it at one input. -/
def fnExactBatchRightWrong : ChangeSpec := { name := "fnExactBatchRight", fn := fun _ => fun
  | [d] => { results := [.lit (.bool false)], args := [d] }
  | _ => none }
def FnExactBatchRightWrongFalsely : Prop := fnExactBatchRightRow.holds Try.pinned (OpenSpec.ofChange fnExactBatchRightWrong)

/-- 'laws.FnExactContactOf': WHATEVER THE INPUT: true; the input reads as it did. -/
def fnExactContactOfSpec : ChangeSpec := { name := "fnExactContactOf", fn := fun _ => fun
  | [d1, d2] => { results := [.lit (.bool true)], args := [d1, d2] }
  | _ => none }
def fnExactContactOfRow : OpenClaim := { program := "ytoeibcmmpbkbpaa", sum := "58c398a65f4f6ee62f88f55ce18e82935029035cb5d4703b871eb571011c35ae", func := "loop.example/g00068/laws.FnExactContactOf", spec := "fnExactContactOf", apart := false }
def FnExactContactOfSaid : Prop := fnExactContactOfRow.holds Try.pinned (OpenSpec.ofChange fnExactContactOfSpec)

/-- ITS FALSE NEIGHBOUR: 'it returns false'. Refute it at one input. -/
def fnExactContactOfWrong : ChangeSpec := { name := "fnExactContactOf", fn := fun _ => fun
  | [d1, d2] => { results := [.lit (.bool false)], args := [d1, d2] }
  | _ => none }
def FnExactContactOfWrongFalsely : Prop := fnExactContactOfRow.holds Try.pinned (OpenSpec.ofChange fnExactContactOfWrong)

/- THE SECOND FORM. 'bulk': how many values and letters a reading holds, each counted each time it is reached (what is shared counts as often as it is met; a slice's spare places count too). A statement '..UptoSaid' is the law's where the arguments, and the package variables that the reading takes, are together of bulk at most 1048576: NARROWER than '..Said'. Prove '..Said' where nothing that the law and all that it calls make is longer than what came in: it says more and counts as full. Else prove '..UptoSaid'. A law counts once. -/
mutual
def uptoBulk {H : Type} : DataW H → Nat
  | .lit (.string bytes) => bytes.length + 1
  | .lit _ => 1
  | .nil => 1
  | .ptr d => uptoBulk d + 1
  | .slice elems spare => uptoBulkAll elems + uptoBulkAll spare + 1
  | .agg parts => uptoBulkAll parts + 1
  | .iface _ d => uptoBulk d + 1
  | .map entries => uptoBulkEntries entries + 1
  | .held _ => 1
def uptoBulkAll {H : Type} : List (DataW H) → Nat
  | [] => 0
  | d :: r => uptoBulk d + uptoBulkAll r
def uptoBulkEntries {H : Type} : List (Lit × DataW H) → Nat
  | [] => 0
  | x :: r => uptoBulkEntry x + uptoBulkEntries r
def uptoBulkEntry {H : Type} : Lit × DataW H → Nat
  | (.string bytes, d) => bytes.length + uptoBulk d + 1
  | (_, d) => uptoBulk d + 1
 end
def uptoSmall : (H : Type) → List (DataW H) → Bool := fun _ ds => decide (uptoBulkAll ds ≤ 1048576)
def OpenSpec.upto (s : _root_.Go.ChangeSpec) : _root_.Go.OpenSpec := { _root_.Go.OpenSpec.ofChange s with cond := some uptoSmall }

/-- 'laws.FnCurve', WHERE WHAT IT READS IS OF BULK AT MOST 1048576: true; the input reads as it did. -/
def fnCurveUptoRow : OpenClaim := { program := "ytoeibcmmpbkbpaa", sum := "58c398a65f4f6ee62f88f55ce18e82935029035cb5d4703b871eb571011c35ae", func := "loop.example/g00068/laws.FnCurve", spec := "fnCurve", unfollowed := true, recurses := true, apart := false, narrowed := true }
def FnCurveUptoSaid : Prop := fnCurveUptoRow.holds Try.pinned (OpenSpec.upto fnCurveSpec)

/-- 'laws.FnExactBatchRight', WHERE WHAT IT READS IS OF BULK AT MOST 1048576: true; the input reads as it did. -/
def fnExactBatchRightUptoRow : OpenClaim := { program := "ytoeibcmmpbkbpaa", sum := "58c398a65f4f6ee62f88f55ce18e82935029035cb5d4703b871eb571011c35ae", func := "loop.example/g00068/laws.FnExactBatchRight", spec := "fnExactBatchRight", apart := false, narrowed := true }
def FnExactBatchRightUptoSaid : Prop := fnExactBatchRightUptoRow.holds Try.pinned (OpenSpec.upto fnExactBatchRightSpec)

/-- 'laws.FnExactContactOf', WHERE WHAT IT READS IS OF BULK AT MOST 1048576: true; the input reads as it did. -/
def fnExactContactOfUptoRow : OpenClaim := { program := "ytoeibcmmpbkbpaa", sum := "58c398a65f4f6ee62f88f55ce18e82935029035cb5d4703b871eb571011c35ae", func := "loop.example/g00068/laws.FnExactContactOf", spec := "fnExactContactOf", apart := false, narrowed := true }
def FnExactContactOfUptoSaid : Prop := fnExactContactOfUptoRow.holds Try.pinned (OpenSpec.upto fnExactContactOfSpec)

end Rows
end Go.Proofs.Ytoeibcmmpbkbpaa
