/-
  NARROWER THAN 'FOR EVERY INPUT', by the rows' own cells (each row's printed sentence says how): FnMainsBalance: laid · FnMainsRounds: laid.
  DERIVED. THE GIVEN ROWS OF THIS SEAT. 2 by the template 'for every input the law returns true; each argument reads behind the call as it read before'; 0 by the template 'total and deterministic' (their statements: YtjcncfkidnggaaaGreatDoorTotals.lean).
  GIVEN WITH THE SEED: the statements are not yours to turn. If you find one false, say at which input.
  Laid BY PROGRAM, IN A SANDBOX (cutbox-rows.mjs): the forced cells as the released guide's own fill.sh prints them over the translation 8e8990ebafbbd372… (all of the seat's roots in one cut). By AI agents, Wed Nov 11 2026. No macro, syntax, notation, axiom, sorry.
-/
import Derived.Test.YtjcncfkidnggaaaGreatDoorChecked
import GoSem.Claim
import GoSem.ClaimJoined
import GoSem.ClaimMapViews
import Derived.JoinedTies
import Derived.KernelRfl
namespace Go.Proofs.YtjcncfkidnggaaaGreatDoor
/- THE CELL 'sum', in the pinned program and in every row, IS THE sha256 OF THE DUMP (.gsa) THAT YtjcncfkidnggaaaGreatDoorProg.lean LOADS. Nothing in Lean hashes anything: it is a label: what it is worth is what the hold of that sum in a sandbox is worth. -/
noncomputable def Tryz.pinned : Pinned := { name := "ytjcncfkidnggaaagreatdoor", sum := "8e8990ebafbbd37263687489fbfb3ad0cb4f3efb5b9781ff73770b092a6edbae", checked := Tryz.checked }
namespace Rows
def none {H : Type} : Left H := { results := [], args := [] }

/- WHAT THE LISTED PACKAGE-LEVEL VARIABLES READ AS WHEN THE CALL BEGINS. Each datum BY PROGRAM (the guide's laid-datum.mjs) off the statement by which the dump's own 'gosem.cut.vars' lays the variable. In a bare row this is a premise. The card (YtjcncfkidnggaaaGreatDoorCards.lean) ties it to the program's text. -/
def laid_errors_errorType {H : Type} : DataW H := .iface "internal/reflectlite.rtype" (.agg [.ptr (.lit (.string [101, 114, 114, 111, 114]))])

/-- 'laws.FnMainsBalance': WHATEVER THE INPUT: true; the input reads as it did. -/
def fnMainsBalanceSpec : ChangeSpec := { name := "fnMainsBalance", fn := fun _ => fun
  | [d] => { results := [.lit (.bool true)], args := [d] }
  | _ => none }
def fnMainsBalanceRow : OpenClaim := { program := "ytjcncfkidnggaaagreatdoor", sum := "8e8990ebafbbd37263687489fbfb3ad0cb4f3efb5b9781ff73770b092a6edbae", func := "loop.example/g00068/laws.FnMainsBalance", spec := "fnMainsBalance", inPlace := ["internal/reflectlite.ValueOf", "(internal/reflectlite.Value).Type", "(internal/reflectlite.Value).IsNil", "internal/reflectlite.TypeOf", "(internal/reflectlite.Value).Elem", "(internal/reflectlite.Value).Set"], unfollowed := true, recurses := true, named := ["errors.errorType"], apart := false, laid := [("errors.errorType", laid_errors_errorType)] }
def FnMainsBalanceSaid : Prop := fnMainsBalanceRow.holds Tryz.pinned (OpenSpec.ofChange fnMainsBalanceSpec)

/-- ITS FALSE NEIGHBOUR: 'it returns false'. Refute it at one input. -/
def fnMainsBalanceWrong : ChangeSpec := { name := "fnMainsBalance", fn := fun _ => fun
  | [d] => { results := [.lit (.bool false)], args := [d] }
  | _ => none }
def FnMainsBalanceWrongFalsely : Prop := fnMainsBalanceRow.holds Tryz.pinned (OpenSpec.ofChange fnMainsBalanceWrong)

/-- 'laws.FnMainsRounds': WHATEVER THE INPUT: true; the input reads as it did. -/
def fnMainsRoundsSpec : ChangeSpec := { name := "fnMainsRounds", fn := fun _ => fun
  | [d] => { results := [.lit (.bool true)], args := [d] }
  | _ => none }
def fnMainsRoundsRow : OpenClaim := { program := "ytjcncfkidnggaaagreatdoor", sum := "8e8990ebafbbd37263687489fbfb3ad0cb4f3efb5b9781ff73770b092a6edbae", func := "loop.example/g00068/laws.FnMainsRounds", spec := "fnMainsRounds", inPlace := ["internal/reflectlite.ValueOf", "(internal/reflectlite.Value).Type", "(internal/reflectlite.Value).IsNil", "internal/reflectlite.TypeOf", "(internal/reflectlite.Value).Elem", "(internal/reflectlite.Value).Set"], unfollowed := true, recurses := true, named := ["errors.errorType"], apart := false, laid := [("errors.errorType", laid_errors_errorType)] }
def FnMainsRoundsSaid : Prop := fnMainsRoundsRow.holds Tryz.pinned (OpenSpec.ofChange fnMainsRoundsSpec)

/-- ITS FALSE NEIGHBOUR: 'it returns false'. Refute it at one input. -/
def fnMainsRoundsWrong : ChangeSpec := { name := "fnMainsRounds", fn := fun _ => fun
  | [d] => { results := [.lit (.bool false)], args := [d] }
  | _ => none }
def FnMainsRoundsWrongFalsely : Prop := fnMainsRoundsRow.holds Tryz.pinned (OpenSpec.ofChange fnMainsRoundsWrong)

/- THE SECOND FORM. 'bulk': how many values and letters a reading holds, each counted each time it is reached (what is shared counts as often as it is met; a slice's spare places count too). A statement '..UptoSaid' is the law's where the arguments, and the package variables that the reading takes, are together of bulk at most 1048576: NARROWER than '..Said'. Prove '..Said' where nothing that the law and all that it calls make is longer than what came in: it says more and counts as full. Else prove '..UptoSaid'. A law counts once. -/
mutual
def uptoBulk {H : Type} : DataW H → Nat
  | .lit (.string bytes) => bytes.length + 1
  | .lit _ => 1
  | .nil => 1
  | .ptr d => uptoBulk d + 1
  | .slice elems spare => uptoBulkAll elems + uptoBulkAll spare + 1
  | .agg parts => uptoBulkAll parts + 1
  | .iface _ d => uptoBulk d + 1
  | .map entries => uptoBulkEntries entries + 1
  | .held _ => 1
def uptoBulkAll {H : Type} : List (DataW H) → Nat
  | [] => 0
  | d :: r => uptoBulk d + uptoBulkAll r
def uptoBulkEntries {H : Type} : List (Lit × DataW H) → Nat
  | [] => 0
  | x :: r => uptoBulkEntry x + uptoBulkEntries r
def uptoBulkEntry {H : Type} : Lit × DataW H → Nat
  | (.string bytes, d) => bytes.length + uptoBulk d + 1
  | (_, d) => uptoBulk d + 1
 end
def uptoSmall : (H : Type) → List (DataW H) → Bool := fun _ ds => decide (uptoBulkAll ds ≤ 1048576)
def OpenSpec.upto (s : _root_.Go.ChangeSpec) : _root_.Go.OpenSpec := { _root_.Go.OpenSpec.ofChange s with cond := some uptoSmall }

/-- 'laws.FnMainsBalance', WHERE WHAT IT READS IS OF BULK AT MOST 1048576: true; the input reads as it did. -/
def fnMainsBalanceUptoRow : OpenClaim := { program := "ytjcncfkidnggaaagreatdoor", sum := "8e8990ebafbbd37263687489fbfb3ad0cb4f3efb5b9781ff73770b092a6edbae", func := "loop.example/g00068/laws.FnMainsBalance", spec := "fnMainsBalance", inPlace := ["internal/reflectlite.ValueOf", "(internal/reflectlite.Value).Type", "(internal/reflectlite.Value).IsNil", "internal/reflectlite.TypeOf", "(internal/reflectlite.Value).Elem", "(internal/reflectlite.Value).Set"], unfollowed := true, recurses := true, named := ["errors.errorType"], apart := false, laid := [("errors.errorType", laid_errors_errorType)], narrowed := true }
def FnMainsBalanceUptoSaid : Prop := fnMainsBalanceUptoRow.holds Tryz.pinned (OpenSpec.upto fnMainsBalanceSpec)

/-- 'laws.FnMainsRounds', WHERE WHAT IT READS IS OF BULK AT MOST 1048576: true; the input reads as it did. -/
def fnMainsRoundsUptoRow : OpenClaim := { program := "ytjcncfkidnggaaagreatdoor", sum := "8e8990ebafbbd37263687489fbfb3ad0cb4f3efb5b9781ff73770b092a6edbae", func := "loop.example/g00068/laws.FnMainsRounds", spec := "fnMainsRounds", inPlace := ["internal/reflectlite.ValueOf", "(internal/reflectlite.Value).Type", "(internal/reflectlite.Value).IsNil", "internal/reflectlite.TypeOf", "(internal/reflectlite.Value).Elem", "(internal/reflectlite.Value).Set"], unfollowed := true, recurses := true, named := ["errors.errorType"], apart := false, laid := [("errors.errorType", laid_errors_errorType)], narrowed := true }
def FnMainsRoundsUptoSaid : Prop := fnMainsRoundsUptoRow.holds Tryz.pinned (OpenSpec.upto fnMainsRoundsSpec)

end Rows
end Go.Proofs.YtjcncfkidnggaaaGreatDoor
