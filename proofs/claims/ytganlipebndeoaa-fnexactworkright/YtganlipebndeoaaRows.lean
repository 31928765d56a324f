/-
  No cell of these rows narrows 'for every input' (looked for: loops, veiled, ifaces, maps, wideKeys, modest, calm, conditions, laid).
  DERIVED. THE GIVEN ROWS OF THIS SEAT. 3 by the template 'for every input the law returns true; each argument reads behind the call as it read before'; 0 by the template 'total and deterministic' (their statements: YtganlipebndeoaaTotals.lean).
  GIVEN WITH THE SEED: the statements are not yours to turn. If you find one false, say at which input.
  Laid BY PROGRAM, IN A SANDBOX (cutbox-rows.mjs): the forced cells as the released guide's own fill.sh prints them over the translation d7c26b2decdf7d23… (all of the seat's roots in one cut). By AI agents, Wed Nov 11 2026. No macro, syntax, notation, axiom, sorry.
-/
import Derived.Test.YtganlipebndeoaaChecked
import GoSem.Claim
import GoSem.ClaimJoined
import GoSem.ClaimMapViews
import Derived.JoinedTies
import Derived.KernelRfl
namespace Go.Proofs.Ytganlipebndeoaa
/- THE CELL 'sum', in the pinned program and in every row, IS THE sha256 OF THE DUMP (.gsa) THAT YtganlipebndeoaaProg.lean LOADS. Nothing in Lean hashes anything: it is a label: what it is worth is what the hold of that sum in a sandbox is worth. -/
noncomputable def Try.pinned : Pinned := { name := "ytganlipebndeoaa", sum := "d7c26b2decdf7d234f628585e68cb0a53a0f8f17841dee3c8a45e07d2adc1797", checked := Try.checked }
namespace Rows
def none {H : Type} : Left H := { results := [], args := [] }

/-- 'laws.FnExactJobsRight': WHATEVER THE INPUT: true; the input reads as it did. -/
def fnExactJobsRightSpec : ChangeSpec := { name := "fnExactJobsRight", fn := fun _ => fun
  | [d] => { results := [.lit (.bool true)], args := [d] }
  | _ => none }
def fnExactJobsRightRow : OpenClaim := { program := "ytganlipebndeoaa", sum := "d7c26b2decdf7d234f628585e68cb0a53a0f8f17841dee3c8a45e07d2adc1797", func := "loop.example/g00068/laws.FnExactJobsRight", spec := "fnExactJobsRight", apart := false }
def FnExactJobsRightSaid : Prop := fnExactJobsRightRow.holds Try.pinned (OpenSpec.ofChange fnExactJobsRightSpec)

/-- ITS FALSE NEIGHBOUR: 'it returns false'. Refute it at one input. -/
def fnExactJobsRightWrong : ChangeSpec := { name := "fnExactJobsRight", fn := fun _ => fun
  | [d] => { results := [.lit (.bool false)], args := [d] }
  | _ => none }
def FnExactJobsRightWrongFalsely : Prop := fnExactJobsRightRow.holds Try.pinned (OpenSpec.ofChange fnExactJobsRightWrong)

/-- 'laws.FnExactWorkRight': WHATEVER THE INPUT: true; the input reads as it did. -/
def fnExactWorkRightSpec : ChangeSpec := { name := "fnExactWorkRight", fn := fun _ => fun
  | [d1, d2, d3] => { results := [.lit (.bool true)], args := [d1, d2, d3] }
  | _ => none }
def fnExactWorkRightRow : OpenClaim := { program := "ytganlipebndeoaa", sum := "d7c26b2decdf7d234f628585e68cb0a53a0f8f17841dee3c8a45e07d2adc1797", func := "loop.example/g00068/laws.FnExactWorkRight", spec := "fnExactWorkRight", unfollowed := true, recurses := true, apart := false }
def FnExactWorkRightSaid : Prop := fnExactWorkRightRow.holds Try.pinned (OpenSpec.ofChange fnExactWorkRightSpec)

/-- ITS FALSE NEIGHBOUR: 'it returns false'. Refute it at one input. -/
def fnExactWorkRightWrong : ChangeSpec := { name := "fnExactWorkRight", fn := fun _ => fun
  | [d1, d2, d3] => { results := [.lit (.bool false)], args := [d1, d2, d3] }
  | _ => none }
def FnExactWorkRightWrongFalsely : Prop := fnExactWorkRightRow.holds Try.pinned (OpenSpec.ofChange fnExactWorkRightWrong)

/-- 'laws.FnExactWorkClash': WHATEVER THE INPUT: true; the input reads as it did. -/
def fnExactWorkClashSpec : ChangeSpec := { name := "fnExactWorkClash", fn := fun _ => fun
  | [d1, d2] => { results := [.lit (.bool true)], args := [d1, d2] }
  | _ => none }
def fnExactWorkClashRow : OpenClaim := { program := "ytganlipebndeoaa", sum := "d7c26b2decdf7d234f628585e68cb0a53a0f8f17841dee3c8a45e07d2adc1797", func := "loop.example/g00068/laws.FnExactWorkClash", spec := "fnExactWorkClash", unfollowed := true, recurses := true, apart := false }
def FnExactWorkClashSaid : Prop := fnExactWorkClashRow.holds Try.pinned (OpenSpec.ofChange fnExactWorkClashSpec)

/-- ITS FALSE NEIGHBOUR: 'it returns false'. Refute it at one input. -/
def fnExactWorkClashWrong : ChangeSpec := { name := "fnExactWorkClash", fn := fun _ => fun
  | [d1, d2] => { results := [.lit (.bool false)], args := [d1, d2] }
  | _ => none }
def FnExactWorkClashWrongFalsely : Prop := fnExactWorkClashRow.holds Try.pinned (OpenSpec.ofChange fnExactWorkClashWrong)

/- THE SECOND FORM. 'bulk': how many values and letters a reading holds, each counted each time it is reached (what is shared counts as often as it is met; a slice's spare places count too). A statement '..UptoSaid' is the law's where the arguments, and the package variables that the reading takes, are together of bulk at most 1048576: NARROWER than '..Said'. Prove '..Said' where nothing that the law and all that it calls make is longer than what came in: it says more and counts as full. Else prove '..UptoSaid'. A law counts once. -/
mutual
def uptoBulk {H : Type} : DataW H → Nat
  | .lit (.string bytes) => bytes.length + 1
  | .lit _ => 1
  | .nil => 1
  | .ptr d => uptoBulk d + 1
  | .slice elems spare => uptoBulkAll elems + uptoBulkAll spare + 1
  | .agg parts => uptoBulkAll parts + 1
  | .iface _ d => uptoBulk d + 1
  | .map entries => uptoBulkEntries entries + 1
  | .held _ => 1
def uptoBulkAll {H : Type} : List (DataW H) → Nat
  | [] => 0
  | d :: r => uptoBulk d + uptoBulkAll r
def uptoBulkEntries {H : Type} : List (Lit × DataW H) → Nat
  | [] => 0
  | x :: r => uptoBulkEntry x + uptoBulkEntries r
def uptoBulkEntry {H : Type} : Lit × DataW H → Nat
  | (.string bytes, d) => bytes.length + uptoBulk d + 1
  | (_, d) => uptoBulk d + 1
 end
def uptoSmall : (H : Type) → List (DataW H) → Bool := fun _ ds => decide (uptoBulkAll ds ≤ 1048576)
def OpenSpec.upto (s : _root_.Go.ChangeSpec) : _root_.Go.OpenSpec := { _root_.Go.OpenSpec.ofChange s with cond := some uptoSmall }

/-- 'laws.FnExactJobsRight', WHERE WHAT IT READS IS OF BULK AT MOST 1048576: true; the input reads as it did. -/
def fnExactJobsRightUptoRow : OpenClaim := { program := "ytganlipebndeoaa", sum := "d7c26b2decdf7d234f628585e68cb0a53a0f8f17841dee3c8a45e07d2adc1797", func := "loop.example/g00068/laws.FnExactJobsRight", spec := "fnExactJobsRight", apart := false, narrowed := true }
def FnExactJobsRightUptoSaid : Prop := fnExactJobsRightUptoRow.holds Try.pinned (OpenSpec.upto fnExactJobsRightSpec)

/-- 'laws.FnExactWorkRight', WHERE WHAT IT READS IS OF BULK AT MOST 1048576: true; the input reads as it did. -/
def fnExactWorkRightUptoRow : OpenClaim := { program := "ytganlipebndeoaa", sum := "d7c26b2decdf7d234f628585e68cb0a53a0f8f17841dee3c8a45e07d2adc1797", func := "loop.example/g00068/laws.FnExactWorkRight", spec := "fnExactWorkRight", unfollowed := true, recurses := true, apart := false, narrowed := true }
def FnExactWorkRightUptoSaid : Prop := fnExactWorkRightUptoRow.holds Try.pinned (OpenSpec.upto fnExactWorkRightSpec)

/-- 'laws.FnExactWorkClash', WHERE WHAT IT READS IS OF BULK AT MOST 1048576: true; the input reads as it did. -/
def fnExactWorkClashUptoRow : OpenClaim := { program := "ytganlipebndeoaa", sum := "d7c26b2decdf7d234f628585e68cb0a53a0f8f17841dee3c8a45e07d2adc1797", func := "loop.example/g00068/laws.FnExactWorkClash", spec := "fnExactWorkClash", unfollowed := true, recurses := true, apart := false, narrowed := true }
def FnExactWorkClashUptoSaid : Prop := fnExactWorkClashUptoRow.holds Try.pinned (OpenSpec.upto fnExactWorkClashSpec)

end Rows
end Go.Proofs.Ytganlipebndeoaa
