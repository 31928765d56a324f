/-
  No cell of these rows narrows 'for every input' (looked for: loops, veiled, ifaces, maps, wideKeys, modest, calm, conditions, laid).
  DERIVED. THE GIVEN ROWS OF THIS SEAT. 3 by the template 'for every input the law returns true; each argument reads behind the call as it read before'; 0 by the template 'total and deterministic' (their statements: YtnbnfifgajfomaaTotals.lean).
  GIVEN WITH THE SEED: the statements are not yours to turn. If you find one false, say at which input.
  Laid BY PROGRAM, IN A SANDBOX (cutbox-rows.mjs): the forced cells as the released guide's own fill.sh prints them over the translation aea7e40df65717c3… (all of the seat's roots in one cut). By AI agents, Wed Nov 11 2026. No macro, syntax, notation, axiom, sorry.
-/
import Derived.Test.YtnbnfifgajfomaaChecked
import GoSem.Claim
import GoSem.ClaimJoined
import GoSem.ClaimMapViews
import Derived.JoinedTies
import Derived.KernelRfl
namespace Go.Proofs.Ytnbnfifgajfomaa
/- THE CELL 'sum', in the pinned program and in every row, IS THE sha256 OF THE DUMP (.gsa) THAT YtnbnfifgajfomaaProg.lean LOADS. Nothing in Lean hashes anything: it is a label: what it is worth is what the hold of that sum in a sandbox is worth. -/
noncomputable def Try.pinned : Pinned := { name := "ytnbnfifgajfomaa", sum := "aea7e40df65717c378118406bd0a63be89d8bae3a8430d581329ef3984488542", checked := Try.checked }
namespace Rows
def none {H : Type} : Left H := { results := [], args := [] }

/-- 'laws.FnDebt': WHATEVER THE INPUT: true; the input reads as it did. -/
def fnDebtSpec : ChangeSpec := { name := "fnDebt", fn := fun _ => fun
  | [d] => { results := [.lit (.bool true)], args := [d] }
  | _ => none }
def fnDebtRow : OpenClaim := { program := "ytnbnfifgajfomaa", sum := "aea7e40df65717c378118406bd0a63be89d8bae3a8430d581329ef3984488542", func := "loop.example/g00068/laws.FnDebt", spec := "fnDebt", apart := false }
def FnDebtSaid : Prop := fnDebtRow.holds Try.pinned (OpenSpec.ofChange fnDebtSpec)

/-- ITS FALSE NEIGHBOUR: 'it returns false'. Refute it at one input. -/
def fnDebtWrong : ChangeSpec := { name := "fnDebt", fn := fun _ => fun
  | [d] => { results := [.lit (.bool false)], args := [d] }
  | _ => none }
def FnDebtWrongFalsely : Prop := fnDebtRow.holds Try.pinned (OpenSpec.ofChange fnDebtWrong)

/-- 'laws.FnExactTariffRight': WHATEVER THE INPUT: true; the input reads as it did. -/
def fnExactTariffRightSpec : ChangeSpec := { name := "fnExactTariffRight", fn := fun _ => fun
  | [d] => { results := [.lit (.bool true)], args := [d] }
  | _ => none }
def fnExactTariffRightRow : OpenClaim := { program := "ytnbnfifgajfomaa", sum := "aea7e40df65717c378118406bd0a63be89d8bae3a8430d581329ef3984488542", func := "loop.example/g00068/laws.FnExactTariffRight", spec := "fnExactTariffRight", apart := false }
def FnExactTariffRightSaid : Prop := fnExactTariffRightRow.holds Try.pinned (OpenSpec.ofChange fnExactTariffRightSpec)

/-- ITS FALSE NEIGHBOUR: 'it returns false'. Refute it at one input. -/
def fnExactTariffRightWrong : ChangeSpec := { name := "fnExactTariffRight", fn := fun _ => fun
  | [d] => { results := [.lit (.bool false)], args := [d] }
  | _ => none }
def FnExactTariffRightWrongFalsely : Prop := fnExactTariffRightRow.holds Try.pinned (OpenSpec.ofChange fnExactTariffRightWrong)

/-- 'laws.FnExactPlanDebt': WHATEVER THE INPUT: true; the input reads as it did. -/
def fnExactPlanDebtSpec : ChangeSpec := { name := "fnExactPlanDebt", fn := fun _ => fun
  | [d1, d2] => { results := [.lit (.bool true)], args := [d1, d2] }
  | _ => none }
def fnExactPlanDebtRow : OpenClaim := { program := "ytnbnfifgajfomaa", sum := "aea7e40df65717c378118406bd0a63be89d8bae3a8430d581329ef3984488542", func := "loop.example/g00068/laws.FnExactPlanDebt", spec := "fnExactPlanDebt", apart := false }
def FnExactPlanDebtSaid : Prop := fnExactPlanDebtRow.holds Try.pinned (OpenSpec.ofChange fnExactPlanDebtSpec)

/-- ITS FALSE NEIGHBOUR: 'it returns false'. Refute it at one input. -/
def fnExactPlanDebtWrong : ChangeSpec := { name := "fnExactPlanDebt", fn := fun _ => fun
  | [d1, d2] => { results := [.lit (.bool false)], args := [d1, d2] }
  | _ => none }
def FnExactPlanDebtWrongFalsely : Prop := fnExactPlanDebtRow.holds Try.pinned (OpenSpec.ofChange fnExactPlanDebtWrong)

/- THE SECOND FORM. 'bulk': how many values and letters a reading holds, each counted each time it is reached (what is shared counts as often as it is met; a slice's spare places count too). A statement '..UptoSaid' is the law's where the arguments, and the package variables that the reading takes, are together of bulk at most 1048576: NARROWER than '..Said'. Prove '..Said' where nothing that the law and all that it calls make is longer than what came in: it says more and counts as full. Else prove '..UptoSaid'. A law counts once. -/
mutual
def uptoBulk {H : Type} : DataW H → Nat
  | .lit (.string bytes) => bytes.length + 1
  | .lit _ => 1
  | .nil => 1
  | .ptr d => uptoBulk d + 1
  | .slice elems spare => uptoBulkAll elems + uptoBulkAll spare + 1
  | .agg parts => uptoBulkAll parts + 1
  | .iface _ d => uptoBulk d + 1
  | .map entries => uptoBulkEntries entries + 1
  | .held _ => 1
def uptoBulkAll {H : Type} : List (DataW H) → Nat
  | [] => 0
  | d :: r => uptoBulk d + uptoBulkAll r
def uptoBulkEntries {H : Type} : List (Lit × DataW H) → Nat
  | [] => 0
  | x :: r => uptoBulkEntry x + uptoBulkEntries r
def uptoBulkEntry {H : Type} : Lit × DataW H → Nat
  | (.string bytes, d) => bytes.length + uptoBulk d + 1
  | (_, d) => uptoBulk d + 1
 end
def uptoSmall : (H : Type) → List (DataW H) → Bool := fun _ ds => decide (uptoBulkAll ds ≤ 1048576)
def OpenSpec.upto (s : _root_.Go.ChangeSpec) : _root_.Go.OpenSpec := { _root_.Go.OpenSpec.ofChange s with cond := some uptoSmall }

/-- 'laws.FnDebt', WHERE WHAT IT READS IS OF BULK AT MOST 1048576: true; the input reads as it did. -/
def fnDebtUptoRow : OpenClaim := { program := "ytnbnfifgajfomaa", sum := "aea7e40df65717c378118406bd0a63be89d8bae3a8430d581329ef3984488542", func := "loop.example/g00068/laws.FnDebt", spec := "fnDebt", apart := false, narrowed := true }
def FnDebtUptoSaid : Prop := fnDebtUptoRow.holds Try.pinned (OpenSpec.upto fnDebtSpec)

/-- 'laws.FnExactTariffRight', WHERE WHAT IT READS IS OF BULK AT MOST 1048576: true; the input reads as it did. -/
def fnExactTariffRightUptoRow : OpenClaim := { program := "ytnbnfifgajfomaa", sum := "aea7e40df65717c378118406bd0a63be89d8bae3a8430d581329ef3984488542", func := "loop.example/g00068/laws.FnExactTariffRight", spec := "fnExactTariffRight", apart := false, narrowed := true }
def FnExactTariffRightUptoSaid : Prop := fnExactTariffRightUptoRow.holds Try.pinned (OpenSpec.upto fnExactTariffRightSpec)

/-- 'laws.FnExactPlanDebt', WHERE WHAT IT READS IS OF BULK AT MOST 1048576: true; the input reads as it did. -/
def fnExactPlanDebtUptoRow : OpenClaim := { program := "ytnbnfifgajfomaa", sum := "aea7e40df65717c378118406bd0a63be89d8bae3a8430d581329ef3984488542", func := "loop.example/g00068/laws.FnExactPlanDebt", spec := "fnExactPlanDebt", apart := false, narrowed := true }
def FnExactPlanDebtUptoSaid : Prop := fnExactPlanDebtUptoRow.holds Try.pinned (OpenSpec.upto fnExactPlanDebtSpec)

end Rows
end Go.Proofs.Ytnbnfifgajfomaa
