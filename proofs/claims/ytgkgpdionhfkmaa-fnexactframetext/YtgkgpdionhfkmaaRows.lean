/-
  No cell of these rows narrows 'for every input' (looked for: loops, veiled, ifaces, maps, wideKeys, modest, calm, conditions, laid).
  DERIVED. THE GIVEN ROWS OF THIS SEAT. 3 by the template 'for every input the law returns true; each argument reads behind the call as it read before'; 0 by the template 'total and deterministic' (their statements: YtgkgpdionhfkmaaTotals.lean).
  GIVEN WITH THE SEED: the statements are not yours to turn. If you find one false, say at which input.
  Laid BY PROGRAM, IN A SANDBOX (cutbox-rows.mjs): the forced cells as the released guide's own fill.sh prints them over the translation e3f2ec5f76b583ea… (all of the seat's roots in one cut). By AI agents, Wed Nov 11 2026. No macro, syntax, notation, axiom, sorry.
-/
import Derived.Test.YtgkgpdionhfkmaaChecked
import GoSem.Claim
import GoSem.ClaimJoined
import GoSem.ClaimMapViews
import Derived.JoinedTies
import Derived.KernelRfl
namespace Go.Proofs.Ytgkgpdionhfkmaa
/- THE CELL 'sum', in the pinned program and in every row, IS THE sha256 OF THE DUMP (.gsa) THAT YtgkgpdionhfkmaaProg.lean LOADS. Nothing in Lean hashes anything: it is a label: what it is worth is what the hold of that sum in a sandbox is worth. -/
noncomputable def Try.pinned : Pinned := { name := "ytgkgpdionhfkmaa", sum := "e3f2ec5f76b583ea72cd4d6db52f314c8ec2d33d05e14d0347157bed1ec1190d", checked := Try.checked }
namespace Rows
def none {H : Type} : Left H := { results := [], args := [] }

/-- 'laws.FnExactFrameRight': WHATEVER THE INPUT: true; the input reads as it did. -/
def fnExactFrameRightSpec : ChangeSpec := { name := "fnExactFrameRight", fn := fun _ => fun
  | [d] => { results := [.lit (.bool true)], args := [d] }
  | _ => none }
def fnExactFrameRightRow : OpenClaim := { program := "ytgkgpdionhfkmaa", sum := "e3f2ec5f76b583ea72cd4d6db52f314c8ec2d33d05e14d0347157bed1ec1190d", func := "loop.example/g00068/laws.FnExactFrameRight", spec := "fnExactFrameRight", apart := false }
def FnExactFrameRightSaid : Prop := fnExactFrameRightRow.holds Try.pinned (OpenSpec.ofChange fnExactFrameRightSpec)

/-- ITS FALSE NEIGHBOUR: 'it returns false'. Refute it at one input. -/
def fnExactFrameRightWrong : ChangeSpec := { name := "fnExactFrameRight", fn := fun _ => fun
  | [d] => { results := [.lit (.bool false)], args := [d] }
  | _ => none }
def FnExactFrameRightWrongFalsely : Prop := fnExactFrameRightRow.holds Try.pinned (OpenSpec.ofChange fnExactFrameRightWrong)

/-- 'laws.FnExactFrameSum': WHATEVER THE INPUT: true; the input reads as it did. -/
def fnExactFrameSumSpec : ChangeSpec := { name := "fnExactFrameSum", fn := fun _ => fun
  | [d] => { results := [.lit (.bool true)], args := [d] }
  | _ => none }
def fnExactFrameSumRow : OpenClaim := { program := "ytgkgpdionhfkmaa", sum := "e3f2ec5f76b583ea72cd4d6db52f314c8ec2d33d05e14d0347157bed1ec1190d", func := "loop.example/g00068/laws.FnExactFrameSum", spec := "fnExactFrameSum", apart := false }
def FnExactFrameSumSaid : Prop := fnExactFrameSumRow.holds Try.pinned (OpenSpec.ofChange fnExactFrameSumSpec)

/-- ITS FALSE NEIGHBOUR: 'it returns false'. Refute it at one input. -/
def fnExactFrameSumWrong : ChangeSpec := { name := "fnExactFrameSum", fn := fun _ => fun
  | [d] => { results := [.lit (.bool false)], args := [d] }
  | _ => none }
def FnExactFrameSumWrongFalsely : Prop := fnExactFrameSumRow.holds Try.pinned (OpenSpec.ofChange fnExactFrameSumWrong)

/-- 'laws.FnExactFrameText': WHATEVER THE INPUT: true; the input reads as it did. -/
def fnExactFrameTextSpec : ChangeSpec := { name := "fnExactFrameText", fn := fun _ => fun
  | [d] => { results := [.lit (.bool true)], args := [d] }
  | _ => none }
def fnExactFrameTextRow : OpenClaim := { program := "ytgkgpdionhfkmaa", sum := "e3f2ec5f76b583ea72cd4d6db52f314c8ec2d33d05e14d0347157bed1ec1190d", func := "loop.example/g00068/laws.FnExactFrameText", spec := "fnExactFrameText", apart := false }
def FnExactFrameTextSaid : Prop := fnExactFrameTextRow.holds Try.pinned (OpenSpec.ofChange fnExactFrameTextSpec)

/-- ITS FALSE NEIGHBOUR: 'it returns false'. Refute it at one input. -/
def fnExactFrameTextWrong : ChangeSpec := { name := "fnExactFrameText", fn := fun _ => fun
  | [d] => { results := [.lit (.bool false)], args := [d] }
  | _ => none }
def FnExactFrameTextWrongFalsely : Prop := fnExactFrameTextRow.holds Try.pinned (OpenSpec.ofChange fnExactFrameTextWrong)

/- THE SECOND FORM. 'bulk': how many values and letters a reading holds, each counted each time it is reached (what is shared counts as often as it is met; a slice's spare places count too). A statement '..UptoSaid' is the law's where the arguments, and the package variables that the reading takes, are together of bulk at most 1048576: NARROWER than '..Said'. Prove '..Said' where nothing that the law and all that it calls make is longer than what came in: it says more and counts as full. Else prove '..UptoSaid'. A law counts once. -/
mutual
def uptoBulk {H : Type} : DataW H → Nat
  | .lit (.string bytes) => bytes.length + 1
  | .lit _ => 1
  | .nil => 1
  | .ptr d => uptoBulk d + 1
  | .slice elems spare => uptoBulkAll elems + uptoBulkAll spare + 1
  | .agg parts => uptoBulkAll parts + 1
  | .iface _ d => uptoBulk d + 1
  | .map entries => uptoBulkEntries entries + 1
  | .held _ => 1
def uptoBulkAll {H : Type} : List (DataW H) → Nat
  | [] => 0
  | d :: r => uptoBulk d + uptoBulkAll r
def uptoBulkEntries {H : Type} : List (Lit × DataW H) → Nat
  | [] => 0
  | x :: r => uptoBulkEntry x + uptoBulkEntries r
def uptoBulkEntry {H : Type} : Lit × DataW H → Nat
  | (.string bytes, d) => bytes.length + uptoBulk d + 1
  | (_, d) => uptoBulk d + 1
 end
def uptoSmall : (H : Type) → List (DataW H) → Bool := fun _ ds => decide (uptoBulkAll ds ≤ 1048576)
def OpenSpec.upto (s : _root_.Go.ChangeSpec) : _root_.Go.OpenSpec := { _root_.Go.OpenSpec.ofChange s with cond := some uptoSmall }

/-- 'laws.FnExactFrameRight', WHERE WHAT IT READS IS OF BULK AT MOST 1048576: true; the input reads as it did. -/
def fnExactFrameRightUptoRow : OpenClaim := { program := "ytgkgpdionhfkmaa", sum := "e3f2ec5f76b583ea72cd4d6db52f314c8ec2d33d05e14d0347157bed1ec1190d", func := "loop.example/g00068/laws.FnExactFrameRight", spec := "fnExactFrameRight", apart := false, narrowed := true }
def FnExactFrameRightUptoSaid : Prop := fnExactFrameRightUptoRow.holds Try.pinned (OpenSpec.upto fnExactFrameRightSpec)

/-- 'laws.FnExactFrameSum', WHERE WHAT IT READS IS OF BULK AT MOST 1048576: true; the input reads as it did. -/
def fnExactFrameSumUptoRow : OpenClaim := { program := "ytgkgpdionhfkmaa", sum := "e3f2ec5f76b583ea72cd4d6db52f314c8ec2d33d05e14d0347157bed1ec1190d", func := "loop.example/g00068/laws.FnExactFrameSum", spec := "fnExactFrameSum", apart := false, narrowed := true }
def FnExactFrameSumUptoSaid : Prop := fnExactFrameSumUptoRow.holds Try.pinned (OpenSpec.upto fnExactFrameSumSpec)

/-- 'laws.FnExactFrameText', WHERE WHAT IT READS IS OF BULK AT MOST 1048576: true; the input reads as it did. -/
def fnExactFrameTextUptoRow : OpenClaim := { program := "ytgkgpdionhfkmaa", sum := "e3f2ec5f76b583ea72cd4d6db52f314c8ec2d33d05e14d0347157bed1ec1190d", func := "loop.example/g00068/laws.FnExactFrameText", spec := "fnExactFrameText", apart := false, narrowed := true }
def FnExactFrameTextUptoSaid : Prop := fnExactFrameTextUptoRow.holds Try.pinned (OpenSpec.upto fnExactFrameTextSpec)

end Rows
end Go.Proofs.Ytgkgpdionhfkmaa
