/-
  No cell of these rows narrows 'for every input' (looked for: loops, veiled, ifaces, maps, wideKeys, modest, calm, conditions, laid).
  DERIVED. THE GIVEN ROWS OF THIS SEAT. 3 by the template 'for every input the law returns true; each argument reads behind the call as it read before'; 0 by the template 'total and deterministic' (their statements: YtiaeobocenanlaaTotals.lean).
  GIVEN WITH THE SEED: the statements are not yours to turn. If you find one false, say at which input.
  Laid BY PROGRAM, IN A SANDBOX (cutbox-rows.mjs): the forced cells as the released guide's own fill.sh prints them over the translation d75806e8dc8e80de… (all of the seat's roots in one cut). By AI agents, Wed Nov 11 2026. No macro, syntax, notation, axiom, sorry.
-/
import Derived.Test.YtiaeobocenanlaaChecked
import GoSem.Claim
import GoSem.ClaimJoined
import GoSem.ClaimMapViews
import Derived.JoinedTies
import Derived.KernelRfl
namespace Go.Proofs.Ytiaeobocenanlaa
/- THE CELL 'sum', in the pinned program and in every row, IS THE sha256 OF THE DUMP (.gsa) THAT YtiaeobocenanlaaProg.lean LOADS. Nothing in Lean hashes anything: it is a label: what it is worth is what the hold of that sum in a sandbox is worth. -/
noncomputable def Try.pinned : Pinned := { name := "ytiaeobocenanlaa", sum := "d75806e8dc8e80deb7061864c47b6971816a69e90b1195e88d89fad0c29be1c2", checked := Try.checked }
namespace Rows
def none {H : Type} : Left H := { results := [], args := [] }

/-- 'laws.FnExactProgRight': WHATEVER THE INPUT: true; the input reads as it did. -/
def fnExactProgRightSpec : ChangeSpec := { name := "fnExactProgRight", fn := fun _ => fun
  | [d] => { results := [.lit (.bool true)], args := [d] }
  | _ => none }
def fnExactProgRightRow : OpenClaim := { program := "ytiaeobocenanlaa", sum := "d75806e8dc8e80deb7061864c47b6971816a69e90b1195e88d89fad0c29be1c2", func := "loop.example/g00068/laws.FnExactProgRight", spec := "fnExactProgRight", apart := false }
def FnExactProgRightSaid : Prop := fnExactProgRightRow.holds Try.pinned (OpenSpec.ofChange fnExactProgRightSpec)

/-- ITS FALSE NEIGHBOUR: 'it returns false'. Refute it at one input. -/
def fnExactProgRightWrong : ChangeSpec := { name := "fnExactProgRight", fn := fun _ => fun
  | [d] => { results := [.lit (.bool false)], args := [d] }
  | _ => none }
def FnExactProgRightWrongFalsely : Prop := fnExactProgRightRow.holds Try.pinned (OpenSpec.ofChange fnExactProgRightWrong)

/-- 'laws.FnExactProgIns': WHATEVER THE INPUT: true; the input reads as it did. -/
def fnExactProgInsSpec : ChangeSpec := { name := "fnExactProgIns", fn := fun _ => fun
  | [d] => { results := [.lit (.bool true)], args := [d] }
  | _ => none }
def fnExactProgInsRow : OpenClaim := { program := "ytiaeobocenanlaa", sum := "d75806e8dc8e80deb7061864c47b6971816a69e90b1195e88d89fad0c29be1c2", func := "loop.example/g00068/laws.FnExactProgIns", spec := "fnExactProgIns", apart := false }
def FnExactProgInsSaid : Prop := fnExactProgInsRow.holds Try.pinned (OpenSpec.ofChange fnExactProgInsSpec)

/-- ITS FALSE NEIGHBOUR: 'it returns false'. Refute it at one input. -/
def fnExactProgInsWrong : ChangeSpec := { name := "fnExactProgIns", fn := fun _ => fun
  | [d] => { results := [.lit (.bool false)], args := [d] }
  | _ => none }
def FnExactProgInsWrongFalsely : Prop := fnExactProgInsRow.holds Try.pinned (OpenSpec.ofChange fnExactProgInsWrong)

/-- 'laws.FnExactProgUses': WHATEVER THE INPUT: true; the input reads as it did. -/
def fnExactProgUsesSpec : ChangeSpec := { name := "fnExactProgUses", fn := fun _ => fun
  | [d1, d2] => { results := [.lit (.bool true)], args := [d1, d2] }
  | _ => none }
def fnExactProgUsesRow : OpenClaim := { program := "ytiaeobocenanlaa", sum := "d75806e8dc8e80deb7061864c47b6971816a69e90b1195e88d89fad0c29be1c2", func := "loop.example/g00068/laws.FnExactProgUses", spec := "fnExactProgUses", apart := false }
def FnExactProgUsesSaid : Prop := fnExactProgUsesRow.holds Try.pinned (OpenSpec.ofChange fnExactProgUsesSpec)

/-- ITS FALSE NEIGHBOUR: 'it returns false'. Refute it at one input. -/
def fnExactProgUsesWrong : ChangeSpec := { name := "fnExactProgUses", fn := fun _ => fun
  | [d1, d2] => { results := [.lit (.bool false)], args := [d1, d2] }
  | _ => none }
def FnExactProgUsesWrongFalsely : Prop := fnExactProgUsesRow.holds Try.pinned (OpenSpec.ofChange fnExactProgUsesWrong)

/- THE SECOND FORM. 'bulk': how many values and letters a reading holds, each counted each time it is reached (what is shared counts as often as it is met; a slice's spare places count too). A statement '..UptoSaid' is the law's where the arguments, and the package variables that the reading takes, are together of bulk at most 1048576: NARROWER than '..Said'. Prove '..Said' where nothing that the law and all that it calls make is longer than what came in: it says more and counts as full. Else prove '..UptoSaid'. A law counts once. -/
mutual
def uptoBulk {H : Type} : DataW H → Nat
  | .lit (.string bytes) => bytes.length + 1
  | .lit _ => 1
  | .nil => 1
  | .ptr d => uptoBulk d + 1
  | .slice elems spare => uptoBulkAll elems + uptoBulkAll spare + 1
  | .agg parts => uptoBulkAll parts + 1
  | .iface _ d => uptoBulk d + 1
  | .map entries => uptoBulkEntries entries + 1
  | .held _ => 1
def uptoBulkAll {H : Type} : List (DataW H) → Nat
  | [] => 0
  | d :: r => uptoBulk d + uptoBulkAll r
def uptoBulkEntries {H : Type} : List (Lit × DataW H) → Nat
  | [] => 0
  | x :: r => uptoBulkEntry x + uptoBulkEntries r
def uptoBulkEntry {H : Type} : Lit × DataW H → Nat
  | (.string bytes, d) => bytes.length + uptoBulk d + 1
  | (_, d) => uptoBulk d + 1
 end
def uptoSmall : (H : Type) → List (DataW H) → Bool := fun _ ds => decide (uptoBulkAll ds ≤ 1048576)
def OpenSpec.upto (s : _root_.Go.ChangeSpec) : _root_.Go.OpenSpec := { _root_.Go.OpenSpec.ofChange s with cond := some uptoSmall }

/-- 'laws.FnExactProgRight', WHERE WHAT IT READS IS OF BULK AT MOST 1048576: true; the input reads as it did. -/
def fnExactProgRightUptoRow : OpenClaim := { program := "ytiaeobocenanlaa", sum := "d75806e8dc8e80deb7061864c47b6971816a69e90b1195e88d89fad0c29be1c2", func := "loop.example/g00068/laws.FnExactProgRight", spec := "fnExactProgRight", apart := false, narrowed := true }
def FnExactProgRightUptoSaid : Prop := fnExactProgRightUptoRow.holds Try.pinned (OpenSpec.upto fnExactProgRightSpec)

/-- 'laws.FnExactProgIns', WHERE WHAT IT READS IS OF BULK AT MOST 1048576: true; the input reads as it did. -/
def fnExactProgInsUptoRow : OpenClaim := { program := "ytiaeobocenanlaa", sum := "d75806e8dc8e80deb7061864c47b6971816a69e90b1195e88d89fad0c29be1c2", func := "loop.example/g00068/laws.FnExactProgIns", spec := "fnExactProgIns", apart := false, narrowed := true }
def FnExactProgInsUptoSaid : Prop := fnExactProgInsUptoRow.holds Try.pinned (OpenSpec.upto fnExactProgInsSpec)

/-- 'laws.FnExactProgUses', WHERE WHAT IT READS IS OF BULK AT MOST 1048576: true; the input reads as it did. -/
def fnExactProgUsesUptoRow : OpenClaim := { program := "ytiaeobocenanlaa", sum := "d75806e8dc8e80deb7061864c47b6971816a69e90b1195e88d89fad0c29be1c2", func := "loop.example/g00068/laws.FnExactProgUses", spec := "fnExactProgUses", apart := false, narrowed := true }
def FnExactProgUsesUptoSaid : Prop := fnExactProgUsesUptoRow.holds Try.pinned (OpenSpec.upto fnExactProgUsesSpec)

end Rows
end Go.Proofs.Ytiaeobocenanlaa
