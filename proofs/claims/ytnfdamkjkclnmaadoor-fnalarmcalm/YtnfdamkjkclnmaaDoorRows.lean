/-
  NARROWER THAN 'FOR EVERY INPUT', by the rows' own cells (each row's printed sentence says how): FnAlarmCalm: laid · FnExactAlarmRun: laid.
  DERIVED. THE GIVEN ROWS OF THIS SEAT. 2 by the template 'for every input the law returns true; each argument reads behind the call as it read before'; 0 by the template 'total and deterministic' (their statements: YtnfdamkjkclnmaaDoorTotals.lean).
  GIVEN WITH THE SEED: the statements are not yours to turn. If you find one false, say at which input.
  Laid BY PROGRAM, IN A SANDBOX (cutbox-rows.mjs): the forced cells as the released guide's own fill.sh prints them over the translation 55c1c051b7807dfc… (all of the seat's roots in one cut). By AI agents, Wed Nov 11 2026. No macro, syntax, notation, axiom, sorry.
-/
import Derived.Test.YtnfdamkjkclnmaaDoorChecked
import GoSem.Claim
import GoSem.ClaimJoined
import GoSem.ClaimMapViews
import Derived.JoinedTies
import Derived.KernelRfl
namespace Go.Proofs.YtnfdamkjkclnmaaDoor
/- THE CELL 'sum', in the pinned program and in every row, IS THE sha256 OF THE DUMP (.gsa) THAT YtnfdamkjkclnmaaDoorProg.lean LOADS. Nothing in Lean hashes anything: it is a label: what it is worth is what the hold of that sum in a sandbox is worth. -/
noncomputable def Tryd.pinned : Pinned := { name := "ytnfdamkjkclnmaadoor", sum := "55c1c051b7807dfcc0027ba799bd72f44a35d25c2c160093e68a5eef8c54fcee", checked := Tryd.checked }
namespace Rows
def none {H : Type} : Left H := { results := [], args := [] }

/- WHAT THE LISTED PACKAGE-LEVEL VARIABLES READ AS WHEN THE CALL BEGINS. Each datum BY PROGRAM (the guide's laid-datum.mjs) off the statement by which the dump's own 'gosem.cut.vars' lays the variable. In a bare row this is a premise. The card (YtnfdamkjkclnmaaDoorCards.lean) ties it to the program's text. -/
def laid_errors_errorType {H : Type} : DataW H := .iface "internal/reflectlite.rtype" (.agg [.ptr (.lit (.string [101, 114, 114, 111, 114]))])

/-- 'laws.FnAlarmCalm': WHATEVER THE INPUT: true; the input reads as it did. -/
def fnAlarmCalmSpec : ChangeSpec := { name := "fnAlarmCalm", fn := fun _ => fun
  | [d1, d2] => { results := [.lit (.bool true)], args := [d1, d2] }
  | _ => none }
def fnAlarmCalmRow : OpenClaim := { program := "ytnfdamkjkclnmaadoor", sum := "55c1c051b7807dfcc0027ba799bd72f44a35d25c2c160093e68a5eef8c54fcee", func := "loop.example/g00068/laws.FnAlarmCalm", spec := "fnAlarmCalm", inPlace := ["internal/reflectlite.ValueOf", "(internal/reflectlite.Value).Type", "(internal/reflectlite.Value).IsNil", "internal/reflectlite.TypeOf", "(internal/reflectlite.Value).Elem", "(internal/reflectlite.Value).Set"], unfollowed := true, recurses := true, named := ["errors.errorType"], apart := false, laid := [("errors.errorType", laid_errors_errorType)] }
def FnAlarmCalmSaid : Prop := fnAlarmCalmRow.holds Tryd.pinned (OpenSpec.ofChange fnAlarmCalmSpec)

/-- ITS FALSE NEIGHBOUR: 'it returns false'. Refute it at one input. -/
def fnAlarmCalmWrong : ChangeSpec := { name := "fnAlarmCalm", fn := fun _ => fun
  | [d1, d2] => { results := [.lit (.bool false)], args := [d1, d2] }
  | _ => none }
def FnAlarmCalmWrongFalsely : Prop := fnAlarmCalmRow.holds Tryd.pinned (OpenSpec.ofChange fnAlarmCalmWrong)

/-- 'laws.FnExactAlarmRun': WHATEVER THE INPUT: true; the input reads as it did. -/
def fnExactAlarmRunSpec : ChangeSpec := { name := "fnExactAlarmRun", fn := fun _ => fun
  | [d1, d2] => { results := [.lit (.bool true)], args := [d1, d2] }
  | _ => none }
def fnExactAlarmRunRow : OpenClaim := { program := "ytnfdamkjkclnmaadoor", sum := "55c1c051b7807dfcc0027ba799bd72f44a35d25c2c160093e68a5eef8c54fcee", func := "loop.example/g00068/laws.FnExactAlarmRun", spec := "fnExactAlarmRun", inPlace := ["internal/reflectlite.ValueOf", "(internal/reflectlite.Value).Type", "(internal/reflectlite.Value).IsNil", "internal/reflectlite.TypeOf", "(internal/reflectlite.Value).Elem", "(internal/reflectlite.Value).Set"], unfollowed := true, recurses := true, named := ["errors.errorType"], apart := false, laid := [("errors.errorType", laid_errors_errorType)] }
def FnExactAlarmRunSaid : Prop := fnExactAlarmRunRow.holds Tryd.pinned (OpenSpec.ofChange fnExactAlarmRunSpec)

/-- ITS FALSE NEIGHBOUR: 'it returns false'. Refute it at one input. -/
def fnExactAlarmRunWrong : ChangeSpec := { name := "fnExactAlarmRun", fn := fun _ => fun
  | [d1, d2] => { results := [.lit (.bool false)], args := [d1, d2] }
  | _ => none }
def FnExactAlarmRunWrongFalsely : Prop := fnExactAlarmRunRow.holds Tryd.pinned (OpenSpec.ofChange fnExactAlarmRunWrong)

/- THE SECOND FORM. 'bulk': how many values and letters a reading holds, each counted each time it is reached (what is shared counts as often as it is met; a slice's spare places count too). A statement '..UptoSaid' is the law's where the arguments, and the package variables that the reading takes, are together of bulk at most 1048576: NARROWER than '..Said'. Prove '..Said' where nothing that the law and all that it calls make is longer than what came in: it says more and counts as full. Else prove '..UptoSaid'. A law counts once. -/
mutual
def uptoBulk {H : Type} : DataW H → Nat
  | .lit (.string bytes) => bytes.length + 1
  | .lit _ => 1
  | .nil => 1
  | .ptr d => uptoBulk d + 1
  | .slice elems spare => uptoBulkAll elems + uptoBulkAll spare + 1
  | .agg parts => uptoBulkAll parts + 1
  | .iface _ d => uptoBulk d + 1
  | .map entries => uptoBulkEntries entries + 1
  | .held _ => 1
def uptoBulkAll {H : Type} : List (DataW H) → Nat
  | [] => 0
  | d :: r => uptoBulk d + uptoBulkAll r
def uptoBulkEntries {H : Type} : List (Lit × DataW H) → Nat
  | [] => 0
  | x :: r => uptoBulkEntry x + uptoBulkEntries r
def uptoBulkEntry {H : Type} : Lit × DataW H → Nat
  | (.string bytes, d) => bytes.length + uptoBulk d + 1
  | (_, d) => uptoBulk d + 1
 end
def uptoSmall : (H : Type) → List (DataW H) → Bool := fun _ ds => decide (uptoBulkAll ds ≤ 1048576)
def OpenSpec.upto (s : _root_.Go.ChangeSpec) : _root_.Go.OpenSpec := { _root_.Go.OpenSpec.ofChange s with cond := some uptoSmall }

/-- 'laws.FnAlarmCalm', WHERE WHAT IT READS IS OF BULK AT MOST 1048576: true; the input reads as it did. -/
def fnAlarmCalmUptoRow : OpenClaim := { program := "ytnfdamkjkclnmaadoor", sum := "55c1c051b7807dfcc0027ba799bd72f44a35d25c2c160093e68a5eef8c54fcee", func := "loop.example/g00068/laws.FnAlarmCalm", spec := "fnAlarmCalm", inPlace := ["internal/reflectlite.ValueOf", "(internal/reflectlite.Value).Type", "(internal/reflectlite.Value).IsNil", "internal/reflectlite.TypeOf", "(internal/reflectlite.Value).Elem", "(internal/reflectlite.Value).Set"], unfollowed := true, recurses := true, named := ["errors.errorType"], apart := false, laid := [("errors.errorType", laid_errors_errorType)], narrowed := true }
def FnAlarmCalmUptoSaid : Prop := fnAlarmCalmUptoRow.holds Tryd.pinned (OpenSpec.upto fnAlarmCalmSpec)

/-- 'laws.FnExactAlarmRun', WHERE WHAT IT READS IS OF BULK AT MOST 1048576: true; the input reads as it did. -/
def fnExactAlarmRunUptoRow : OpenClaim := { program := "ytnfdamkjkclnmaadoor", sum := "55c1c051b7807dfcc0027ba799bd72f44a35d25c2c160093e68a5eef8c54fcee", func := "loop.example/g00068/laws.FnExactAlarmRun", spec := "fnExactAlarmRun", inPlace := ["internal/reflectlite.ValueOf", "(internal/reflectlite.Value).Type", "(internal/reflectlite.Value).IsNil", "internal/reflectlite.TypeOf", "(internal/reflectlite.Value).Elem", "(internal/reflectlite.Value).Set"], unfollowed := true, recurses := true, named := ["errors.errorType"], apart := false, laid := [("errors.errorType", laid_errors_errorType)], narrowed := true }
def FnExactAlarmRunUptoSaid : Prop := fnExactAlarmRunUptoRow.holds Tryd.pinned (OpenSpec.upto fnExactAlarmRunSpec)

end Rows
end Go.Proofs.YtnfdamkjkclnmaaDoor
