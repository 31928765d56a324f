/-
  NARROWER THAN 'FOR EVERY INPUT', by the rows' own cells (each row's printed sentence says how): FnExactRenewBest: laid · FnExactRenewOf: laid · FnRenewBest: laid · FnRenewYears: laid.
  DERIVED. THE GIVEN ROWS OF THIS SEAT. 4 by the template 'for every input the law returns true; each argument reads behind the call as it read before'; 0 by the template 'total and deterministic' (their statements: YtbkpedcabbppbaaDoorTotals.lean).
  GIVEN WITH THE SEED: the statements are not yours to turn. If you find one false, say at which input.
  Laid BY PROGRAM, IN A SANDBOX (cutbox-rows.mjs): the forced cells as the released guide's own fill.sh prints them over the translation d0878a4ca213c80b… (all of the seat's roots in one cut). By AI agents, Wed Nov 11 2026. No macro, syntax, notation, axiom, sorry.
-/
import Derived.Test.YtbkpedcabbppbaaDoorChecked
import GoSem.Claim
import GoSem.ClaimJoined
import GoSem.ClaimMapViews
import Derived.JoinedTies
import Derived.KernelRfl
namespace Go.Proofs.YtbkpedcabbppbaaDoor
/- THE CELL 'sum', in the pinned program and in every row, IS THE sha256 OF THE DUMP (.gsa) THAT YtbkpedcabbppbaaDoorProg.lean LOADS. Nothing in Lean hashes anything: it is a label: what it is worth is what the hold of that sum in a sandbox is worth. -/
noncomputable def Tryd.pinned : Pinned := { name := "ytbkpedcabbppbaadoor", sum := "d0878a4ca213c80bdfa61b05e2099eee0a008ae8cc419118fdf5639a848be93d", checked := Tryd.checked }
namespace Rows
def none {H : Type} : Left H := { results := [], args := [] }

/- WHAT THE LISTED PACKAGE-LEVEL VARIABLES READ AS WHEN THE CALL BEGINS. Each datum BY PROGRAM (the guide's laid-datum.mjs) off the statement by which the dump's own 'gosem.cut.vars' lays the variable. In a bare row this is a premise. The card (YtbkpedcabbppbaaDoorCards.lean) ties it to the program's text. -/
def laid_errors_errorType {H : Type} : DataW H := .iface "internal/reflectlite.rtype" (.agg [.ptr (.lit (.string [101, 114, 114, 111, 114]))])

/-- 'laws.FnExactRenewBest': WHATEVER THE INPUT: true; the input reads as it did. -/
def fnExactRenewBestSpec : ChangeSpec := { name := "fnExactRenewBest", fn := fun _ => fun
  | [d1, d2] => { results := [.lit (.bool true)], args := [d1, d2] }
  | _ => none }
def fnExactRenewBestRow : OpenClaim := { program := "ytbkpedcabbppbaadoor", sum := "d0878a4ca213c80bdfa61b05e2099eee0a008ae8cc419118fdf5639a848be93d", func := "loop.example/g00068/laws.FnExactRenewBest", spec := "fnExactRenewBest", inPlace := ["internal/reflectlite.ValueOf", "(internal/reflectlite.Value).Type", "(internal/reflectlite.Value).IsNil", "internal/reflectlite.TypeOf", "(internal/reflectlite.Value).Elem", "(internal/reflectlite.Value).Set"], unfollowed := true, recurses := true, named := ["errors.errorType"], apart := false, laid := [("errors.errorType", laid_errors_errorType)] }
def FnExactRenewBestSaid : Prop := fnExactRenewBestRow.holds Tryd.pinned (OpenSpec.ofChange fnExactRenewBestSpec)

/-- ITS FALSE NEIGHBOUR: 'it returns false'. Refute it at one input. -/
def fnExactRenewBestWrong : ChangeSpec := { name := "fnExactRenewBest", fn := fun _ => fun
  | [d1, d2] => { results := [.lit (.bool false)], args := [d1, d2] }
  | _ => none }
def FnExactRenewBestWrongFalsely : Prop := fnExactRenewBestRow.holds Tryd.pinned (OpenSpec.ofChange fnExactRenewBestWrong)

/-- 'laws.FnExactRenewOf': WHATEVER THE INPUT: true; the input reads as it did. -/
def fnExactRenewOfSpec : ChangeSpec := { name := "fnExactRenewOf", fn := fun _ => fun
  | [d1, d2, d3] => { results := [.lit (.bool true)], args := [d1, d2, d3] }
  | _ => none }
def fnExactRenewOfRow : OpenClaim := { program := "ytbkpedcabbppbaadoor", sum := "d0878a4ca213c80bdfa61b05e2099eee0a008ae8cc419118fdf5639a848be93d", func := "loop.example/g00068/laws.FnExactRenewOf", spec := "fnExactRenewOf", inPlace := ["internal/reflectlite.ValueOf", "(internal/reflectlite.Value).Type", "(internal/reflectlite.Value).IsNil", "internal/reflectlite.TypeOf", "(internal/reflectlite.Value).Elem", "(internal/reflectlite.Value).Set"], unfollowed := true, recurses := true, named := ["errors.errorType"], apart := false, laid := [("errors.errorType", laid_errors_errorType)] }
def FnExactRenewOfSaid : Prop := fnExactRenewOfRow.holds Tryd.pinned (OpenSpec.ofChange fnExactRenewOfSpec)

/-- ITS FALSE NEIGHBOUR: 'it returns false'. Refute it at one input. -/
def fnExactRenewOfWrong : ChangeSpec := { name := "fnExactRenewOf", fn := fun _ => fun
  | [d1, d2, d3] => { results := [.lit (.bool false)], args := [d1, d2, d3] }
  | _ => none }
def FnExactRenewOfWrongFalsely : Prop := fnExactRenewOfRow.holds Tryd.pinned (OpenSpec.ofChange fnExactRenewOfWrong)

/-- 'laws.FnRenewBest': WHATEVER THE INPUT: true; the input reads as it did. -/
def fnRenewBestSpec : ChangeSpec := { name := "fnRenewBest", fn := fun _ => fun
  | [d] => { results := [.lit (.bool true)], args := [d] }
  | _ => none }
def fnRenewBestRow : OpenClaim := { program := "ytbkpedcabbppbaadoor", sum := "d0878a4ca213c80bdfa61b05e2099eee0a008ae8cc419118fdf5639a848be93d", func := "loop.example/g00068/laws.FnRenewBest", spec := "fnRenewBest", inPlace := ["internal/reflectlite.ValueOf", "(internal/reflectlite.Value).Type", "(internal/reflectlite.Value).IsNil", "internal/reflectlite.TypeOf", "(internal/reflectlite.Value).Elem", "(internal/reflectlite.Value).Set"], unfollowed := true, recurses := true, named := ["errors.errorType"], apart := false, laid := [("errors.errorType", laid_errors_errorType)] }
def FnRenewBestSaid : Prop := fnRenewBestRow.holds Tryd.pinned (OpenSpec.ofChange fnRenewBestSpec)

/-- ITS FALSE NEIGHBOUR: 'it returns false'. Refute it at one input. -/
def fnRenewBestWrong : ChangeSpec := { name := "fnRenewBest", fn := fun _ => fun
  | [d] => { results := [.lit (.bool false)], args := [d] }
  | _ => none }
def FnRenewBestWrongFalsely : Prop := fnRenewBestRow.holds Tryd.pinned (OpenSpec.ofChange fnRenewBestWrong)

/-- 'laws.FnRenewYears': WHATEVER THE INPUT: true; the input reads as it did. -/
def fnRenewYearsSpec : ChangeSpec := { name := "fnRenewYears", fn := fun _ => fun
  | [d] => { results := [.lit (.bool true)], args := [d] }
  | _ => none }
def fnRenewYearsRow : OpenClaim := { program := "ytbkpedcabbppbaadoor", sum := "d0878a4ca213c80bdfa61b05e2099eee0a008ae8cc419118fdf5639a848be93d", func := "loop.example/g00068/laws.FnRenewYears", spec := "fnRenewYears", inPlace := ["internal/reflectlite.ValueOf", "(internal/reflectlite.Value).Type", "(internal/reflectlite.Value).IsNil", "internal/reflectlite.TypeOf", "(internal/reflectlite.Value).Elem", "(internal/reflectlite.Value).Set"], unfollowed := true, recurses := true, named := ["errors.errorType"], apart := false, laid := [("errors.errorType", laid_errors_errorType)] }
def FnRenewYearsSaid : Prop := fnRenewYearsRow.holds Tryd.pinned (OpenSpec.ofChange fnRenewYearsSpec)

/-- ITS FALSE NEIGHBOUR: 'it returns false'. Refute it at one input. -/
def fnRenewYearsWrong : ChangeSpec := { name := "fnRenewYears", fn := fun _ => fun
  | [d] => { results := [.lit (.bool false)], args := [d] }
  | _ => none }
def FnRenewYearsWrongFalsely : Prop := fnRenewYearsRow.holds Tryd.pinned (OpenSpec.ofChange fnRenewYearsWrong)

/- THE SECOND FORM. 'bulk': how many values and letters a reading holds, each counted each time it is reached (what is shared counts as often as it is met; a slice's spare places count too). A statement '..UptoSaid' is the law's where the arguments, and the package variables that the reading takes, are together of bulk at most 1048576: NARROWER than '..Said'. Prove '..Said' where nothing that the law and all that it calls make is longer than what came in: it says more and counts as full. Else prove '..UptoSaid'. A law counts once. -/
mutual
def uptoBulk {H : Type} : DataW H → Nat
  | .lit (.string bytes) => bytes.length + 1
  | .lit _ => 1
  | .nil => 1
  | .ptr d => uptoBulk d + 1
  | .slice elems spare => uptoBulkAll elems + uptoBulkAll spare + 1
  | .agg parts => uptoBulkAll parts + 1
  | .iface _ d => uptoBulk d + 1
  | .map entries => uptoBulkEntries entries + 1
  | .held _ => 1
def uptoBulkAll {H : Type} : List (DataW H) → Nat
  | [] => 0
  | d :: r => uptoBulk d + uptoBulkAll r
def uptoBulkEntries {H : Type} : List (Lit × DataW H) → Nat
  | [] => 0
  | x :: r => uptoBulkEntry x + uptoBulkEntries r
def uptoBulkEntry {H : Type} : Lit × DataW H → Nat
  | (.string bytes, d) => bytes.length + uptoBulk d + 1
  | (_, d) => uptoBulk d + 1
 end
def uptoSmall : (H : Type) → List (DataW H) → Bool := fun _ ds => decide (uptoBulkAll ds ≤ 1048576)
def OpenSpec.upto (s : _root_.Go.ChangeSpec) : _root_.Go.OpenSpec := { _root_.Go.OpenSpec.ofChange s with cond := some uptoSmall }

/-- 'laws.FnExactRenewBest', WHERE WHAT IT READS IS OF BULK AT MOST 1048576: true; the input reads as it did. -/
def fnExactRenewBestUptoRow : OpenClaim := { program := "ytbkpedcabbppbaadoor", sum := "d0878a4ca213c80bdfa61b05e2099eee0a008ae8cc419118fdf5639a848be93d", func := "loop.example/g00068/laws.FnExactRenewBest", spec := "fnExactRenewBest", inPlace := ["internal/reflectlite.ValueOf", "(internal/reflectlite.Value).Type", "(internal/reflectlite.Value).IsNil", "internal/reflectlite.TypeOf", "(internal/reflectlite.Value).Elem", "(internal/reflectlite.Value).Set"], unfollowed := true, recurses := true, named := ["errors.errorType"], apart := false, laid := [("errors.errorType", laid_errors_errorType)], narrowed := true }
def FnExactRenewBestUptoSaid : Prop := fnExactRenewBestUptoRow.holds Tryd.pinned (OpenSpec.upto fnExactRenewBestSpec)

/-- 'laws.FnExactRenewOf', WHERE WHAT IT READS IS OF BULK AT MOST 1048576: true; the input reads as it did. -/
def fnExactRenewOfUptoRow : OpenClaim := { program := "ytbkpedcabbppbaadoor", sum := "d0878a4ca213c80bdfa61b05e2099eee0a008ae8cc419118fdf5639a848be93d", func := "loop.example/g00068/laws.FnExactRenewOf", spec := "fnExactRenewOf", inPlace := ["internal/reflectlite.ValueOf", "(internal/reflectlite.Value).Type", "(internal/reflectlite.Value).IsNil", "internal/reflectlite.TypeOf", "(internal/reflectlite.Value).Elem", "(internal/reflectlite.Value).Set"], unfollowed := true, recurses := true, named := ["errors.errorType"], apart := false, laid := [("errors.errorType", laid_errors_errorType)], narrowed := true }
def FnExactRenewOfUptoSaid : Prop := fnExactRenewOfUptoRow.holds Tryd.pinned (OpenSpec.upto fnExactRenewOfSpec)

/-- 'laws.FnRenewBest', WHERE WHAT IT READS IS OF BULK AT MOST 1048576: true; the input reads as it did. -/
def fnRenewBestUptoRow : OpenClaim := { program := "ytbkpedcabbppbaadoor", sum := "d0878a4ca213c80bdfa61b05e2099eee0a008ae8cc419118fdf5639a848be93d", func := "loop.example/g00068/laws.FnRenewBest", spec := "fnRenewBest", inPlace := ["internal/reflectlite.ValueOf", "(internal/reflectlite.Value).Type", "(internal/reflectlite.Value).IsNil", "internal/reflectlite.TypeOf", "(internal/reflectlite.Value).Elem", "(internal/reflectlite.Value).Set"], unfollowed := true, recurses := true, named := ["errors.errorType"], apart := false, laid := [("errors.errorType", laid_errors_errorType)], narrowed := true }
def FnRenewBestUptoSaid : Prop := fnRenewBestUptoRow.holds Tryd.pinned (OpenSpec.upto fnRenewBestSpec)

/-- 'laws.FnRenewYears', WHERE WHAT IT READS IS OF BULK AT MOST 1048576: true; the input reads as it did. -/
def fnRenewYearsUptoRow : OpenClaim := { program := "ytbkpedcabbppbaadoor", sum := "d0878a4ca213c80bdfa61b05e2099eee0a008ae8cc419118fdf5639a848be93d", func := "loop.example/g00068/laws.FnRenewYears", spec := "fnRenewYears", inPlace := ["internal/reflectlite.ValueOf", "(internal/reflectlite.Value).Type", "(internal/reflectlite.Value).IsNil", "internal/reflectlite.TypeOf", "(internal/reflectlite.Value).Elem", "(internal/reflectlite.Value).Set"], unfollowed := true, recurses := true, named := ["errors.errorType"], apart := false, laid := [("errors.errorType", laid_errors_errorType)], narrowed := true }
def FnRenewYearsUptoSaid : Prop := fnRenewYearsUptoRow.holds Tryd.pinned (OpenSpec.upto fnRenewYearsSpec)

end Rows
end Go.Proofs.YtbkpedcabbppbaaDoor
