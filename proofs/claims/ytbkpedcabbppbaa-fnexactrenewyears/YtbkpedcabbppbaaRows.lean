/-
  No cell of these rows narrows 'for every input' (looked for: loops, veiled, ifaces, maps, wideKeys, modest, calm, conditions, laid).
  DERIVED. THE GIVEN ROWS OF THIS SEAT. 4 by the template 'for every input the law returns true; each argument reads behind the call as it read before'; 0 by the template 'total and deterministic' (their statements: YtbkpedcabbppbaaTotals.lean).
  GIVEN WITH THE SEED: the statements are not yours to turn. If you find one false, say at which input.
  Laid BY PROGRAM, IN A SANDBOX (cutbox-rows.mjs): the forced cells as the released guide's own fill.sh prints them over the translation 295103ef085e842b… (all of the seat's roots in one cut). By AI agents, Wed Nov 11 2026. No macro, syntax, notation, axiom, sorry.
-/
import Derived.Test.YtbkpedcabbppbaaChecked
import GoSem.Claim
import GoSem.ClaimJoined
import GoSem.ClaimMapViews
import Derived.JoinedTies
import Derived.KernelRfl
namespace Go.Proofs.Ytbkpedcabbppbaa
/- THE CELL 'sum', in the pinned program and in every row, IS THE sha256 OF THE DUMP (.gsa) THAT YtbkpedcabbppbaaProg.lean LOADS. Nothing in Lean hashes anything: it is a label: what it is worth is what the hold of that sum in a sandbox is worth. -/
noncomputable def Try.pinned : Pinned := { name := "ytbkpedcabbppbaa", sum := "295103ef085e842ba706298f2a9567382dfbfcf8acc8664346294254ecf9a4ae", checked := Try.checked }
namespace Rows
def none {H : Type} : Left H := { results := [], args := [] }

/-- 'laws.FnExactAssetsRight': WHATEVER THE INPUT: true; the input reads as it did. -/
def fnExactAssetsRightSpec : ChangeSpec := { name := "fnExactAssetsRight", fn := fun _ => fun
  | [d] => { results := [.lit (.bool true)], args := [d] }
  | _ => none }
def fnExactAssetsRightRow : OpenClaim := { program := "ytbkpedcabbppbaa", sum := "295103ef085e842ba706298f2a9567382dfbfcf8acc8664346294254ecf9a4ae", func := "loop.example/g00068/laws.FnExactAssetsRight", spec := "fnExactAssetsRight", unfollowed := true, recurses := true, apart := false }
def FnExactAssetsRightSaid : Prop := fnExactAssetsRightRow.holds Try.pinned (OpenSpec.ofChange fnExactAssetsRightSpec)

/-- ITS FALSE NEIGHBOUR: 'it returns false'. Refute it at one input. -/
def fnExactAssetsRightWrong : ChangeSpec := { name := "fnExactAssetsRight", fn := fun _ => fun
  | [d] => { results := [.lit (.bool false)], args := [d] }
  | _ => none }
def FnExactAssetsRightWrongFalsely : Prop := fnExactAssetsRightRow.holds Try.pinned (OpenSpec.ofChange fnExactAssetsRightWrong)

/-- 'laws.FnExactRenewTable': WHATEVER THE INPUT: true; the input reads as it did. -/
def fnExactRenewTableSpec : ChangeSpec := { name := "fnExactRenewTable", fn := fun _ => fun
  | [d1, d2] => { results := [.lit (.bool true)], args := [d1, d2] }
  | _ => none }
def fnExactRenewTableRow : OpenClaim := { program := "ytbkpedcabbppbaa", sum := "295103ef085e842ba706298f2a9567382dfbfcf8acc8664346294254ecf9a4ae", func := "loop.example/g00068/laws.FnExactRenewTable", spec := "fnExactRenewTable", unfollowed := true, recurses := true, apart := false }
def FnExactRenewTableSaid : Prop := fnExactRenewTableRow.holds Try.pinned (OpenSpec.ofChange fnExactRenewTableSpec)

/-- ITS FALSE NEIGHBOUR: 'it returns false'. Refute it at one input. -/
def fnExactRenewTableWrong : ChangeSpec := { name := "fnExactRenewTable", fn := fun _ => fun
  | [d1, d2] => { results := [.lit (.bool false)], args := [d1, d2] }
  | _ => none }
def FnExactRenewTableWrongFalsely : Prop := fnExactRenewTableRow.holds Try.pinned (OpenSpec.ofChange fnExactRenewTableWrong)

/-- 'laws.FnExactRenewTableRight': WHATEVER THE INPUT: true; the input reads as it did. -/
def fnExactRenewTableRightSpec : ChangeSpec := { name := "fnExactRenewTableRight", fn := fun _ => fun
  | [d1, d2, d3] => { results := [.lit (.bool true)], args := [d1, d2, d3] }
  | _ => none }
def fnExactRenewTableRightRow : OpenClaim := { program := "ytbkpedcabbppbaa", sum := "295103ef085e842ba706298f2a9567382dfbfcf8acc8664346294254ecf9a4ae", func := "loop.example/g00068/laws.FnExactRenewTableRight", spec := "fnExactRenewTableRight", unfollowed := true, recurses := true, apart := false }
def FnExactRenewTableRightSaid : Prop := fnExactRenewTableRightRow.holds Try.pinned (OpenSpec.ofChange fnExactRenewTableRightSpec)

/-- ITS FALSE NEIGHBOUR: 'it returns false'. Refute it at one input. -/
def fnExactRenewTableRightWrong : ChangeSpec := { name := "fnExactRenewTableRight", fn := fun _ => fun
  | [d1, d2, d3] => { results := [.lit (.bool false)], args := [d1, d2, d3] }
  | _ => none }
def FnExactRenewTableRightWrongFalsely : Prop := fnExactRenewTableRightRow.holds Try.pinned (OpenSpec.ofChange fnExactRenewTableRightWrong)

/-- 'laws.FnExactRenewYears': WHATEVER THE INPUT: true; the input reads as it did. -/
def fnExactRenewYearsSpec : ChangeSpec := { name := "fnExactRenewYears", fn := fun _ => fun
  | [d1, d2] => { results := [.lit (.bool true)], args := [d1, d2] }
  | _ => none }
def fnExactRenewYearsRow : OpenClaim := { program := "ytbkpedcabbppbaa", sum := "295103ef085e842ba706298f2a9567382dfbfcf8acc8664346294254ecf9a4ae", func := "loop.example/g00068/laws.FnExactRenewYears", spec := "fnExactRenewYears", unfollowed := true, recurses := true, apart := false }
def FnExactRenewYearsSaid : Prop := fnExactRenewYearsRow.holds Try.pinned (OpenSpec.ofChange fnExactRenewYearsSpec)

/-- ITS FALSE NEIGHBOUR: 'it returns false'. Refute it at one input. -/
def fnExactRenewYearsWrong : ChangeSpec := { name := "fnExactRenewYears", fn := fun _ => fun
  | [d1, d2] => { results := [.lit (.bool false)], args := [d1, d2] }
  | _ => none }
def FnExactRenewYearsWrongFalsely : Prop := fnExactRenewYearsRow.holds Try.pinned (OpenSpec.ofChange fnExactRenewYearsWrong)

/- THE SECOND FORM. 'bulk': how many values and letters a reading holds, each counted each time it is reached (what is shared counts as often as it is met; a slice's spare places count too). A statement '..UptoSaid' is the law's where the arguments, and the package variables that the reading takes, are together of bulk at most 1048576: NARROWER than '..Said'. Prove '..Said' where nothing that the law and all that it calls make is longer than what came in: it says more and counts as full. Else prove '..UptoSaid'. A law counts once. -/
mutual
def uptoBulk {H : Type} : DataW H → Nat
  | .lit (.string bytes) => bytes.length + 1
  | .lit _ => 1
  | .nil => 1
  | .ptr d => uptoBulk d + 1
  | .slice elems spare => uptoBulkAll elems + uptoBulkAll spare + 1
  | .agg parts => uptoBulkAll parts + 1
  | .iface _ d => uptoBulk d + 1
  | .map entries => uptoBulkEntries entries + 1
  | .held _ => 1
def uptoBulkAll {H : Type} : List (DataW H) → Nat
  | [] => 0
  | d :: r => uptoBulk d + uptoBulkAll r
def uptoBulkEntries {H : Type} : List (Lit × DataW H) → Nat
  | [] => 0
  | x :: r => uptoBulkEntry x + uptoBulkEntries r
def uptoBulkEntry {H : Type} : Lit × DataW H → Nat
  | (.string bytes, d) => bytes.length + uptoBulk d + 1
  | (_, d) => uptoBulk d + 1
 end
def uptoSmall : (H : Type) → List (DataW H) → Bool := fun _ ds => decide (uptoBulkAll ds ≤ 1048576)
def OpenSpec.upto (s : _root_.Go.ChangeSpec) : _root_.Go.OpenSpec := { _root_.Go.OpenSpec.ofChange s with cond := some uptoSmall }

/-- 'laws.FnExactAssetsRight', WHERE WHAT IT READS IS OF BULK AT MOST 1048576: true; the input reads as it did. -/
def fnExactAssetsRightUptoRow : OpenClaim := { program := "ytbkpedcabbppbaa", sum := "295103ef085e842ba706298f2a9567382dfbfcf8acc8664346294254ecf9a4ae", func := "loop.example/g00068/laws.FnExactAssetsRight", spec := "fnExactAssetsRight", unfollowed := true, recurses := true, apart := false, narrowed := true }
def FnExactAssetsRightUptoSaid : Prop := fnExactAssetsRightUptoRow.holds Try.pinned (OpenSpec.upto fnExactAssetsRightSpec)

/-- 'laws.FnExactRenewTable', WHERE WHAT IT READS IS OF BULK AT MOST 1048576: true; the input reads as it did. -/
def fnExactRenewTableUptoRow : OpenClaim := { program := "ytbkpedcabbppbaa", sum := "295103ef085e842ba706298f2a9567382dfbfcf8acc8664346294254ecf9a4ae", func := "loop.example/g00068/laws.FnExactRenewTable", spec := "fnExactRenewTable", unfollowed := true, recurses := true, apart := false, narrowed := true }
def FnExactRenewTableUptoSaid : Prop := fnExactRenewTableUptoRow.holds Try.pinned (OpenSpec.upto fnExactRenewTableSpec)

/-- 'laws.FnExactRenewTableRight', WHERE WHAT IT READS IS OF BULK AT MOST 1048576: true; the input reads as it did. -/
def fnExactRenewTableRightUptoRow : OpenClaim := { program := "ytbkpedcabbppbaa", sum := "295103ef085e842ba706298f2a9567382dfbfcf8acc8664346294254ecf9a4ae", func := "loop.example/g00068/laws.FnExactRenewTableRight", spec := "fnExactRenewTableRight", unfollowed := true, recurses := true, apart := false, narrowed := true }
def FnExactRenewTableRightUptoSaid : Prop := fnExactRenewTableRightUptoRow.holds Try.pinned (OpenSpec.upto fnExactRenewTableRightSpec)

/-- 'laws.FnExactRenewYears', WHERE WHAT IT READS IS OF BULK AT MOST 1048576: true; the input reads as it did. -/
def fnExactRenewYearsUptoRow : OpenClaim := { program := "ytbkpedcabbppbaa", sum := "295103ef085e842ba706298f2a9567382dfbfcf8acc8664346294254ecf9a4ae", func := "loop.example/g00068/laws.FnExactRenewYears", spec := "fnExactRenewYears", unfollowed := true, recurses := true, apart := false, narrowed := true }
def FnExactRenewYearsUptoSaid : Prop := fnExactRenewYearsUptoRow.holds Try.pinned (OpenSpec.upto fnExactRenewYearsSpec)

end Rows
end Go.Proofs.Ytbkpedcabbppbaa
