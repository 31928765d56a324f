/-
  NARROWER THAN 'FOR EVERY INPUT', by the rows' own cells (each row's printed sentence says how): FnMainsBalance: laid · FnMainsRounds: laid · FnExactMainsRound: laid · FnExactMainsSolve: laid.
  DERIVED. THE GIVEN ROWS OF THIS SEAT. 4 by the template 'for every input the law returns true; each argument reads behind the call as it read before'; 0 by the template 'total and deterministic' (their statements: YtfgmalnkpgloiaaGreatDoorTotals.lean).
  GIVEN WITH THE SEED: the statements are not yours to turn. If you find one false, say at which input.
  Laid BY PROGRAM, IN A SANDBOX (cutbox-rows.mjs): the forced cells as the released guide's own fill.sh prints them over the translation 9779a091bce6d136… (all of the seat's roots in one cut). By AI agents, Wed Nov 11 2026. No macro, syntax, notation, axiom, sorry.
-/
import Derived.Test.YtfgmalnkpgloiaaGreatDoorChecked
import GoSem.Claim
import GoSem.ClaimJoined
import GoSem.ClaimMapViews
import Derived.JoinedTies
import Derived.KernelRfl
namespace Go.Proofs.YtfgmalnkpgloiaaGreatDoor
/- THE CELL 'sum', in the pinned program and in every row, IS THE sha256 OF THE DUMP (.gsa) THAT YtfgmalnkpgloiaaGreatDoorProg.lean LOADS. Nothing in Lean hashes anything: it is a label: what it is worth is what the hold of that sum in a sandbox is worth. -/
noncomputable def Tryz.pinned : Pinned := { name := "ytfgmalnkpgloiaagreatdoor", sum := "9779a091bce6d136963d72d20773b06bb450744e45f6bd6e5bf4a5e319db38be", checked := Tryz.checked }
namespace Rows
def none {H : Type} : Left H := { results := [], args := [] }

/- WHAT THE LISTED PACKAGE-LEVEL VARIABLES READ AS WHEN THE CALL BEGINS. Each datum BY PROGRAM (the guide's laid-datum.mjs) off the statement by which the dump's own 'gosem.cut.vars' lays the variable. In a bare row this is a premise. The card (YtfgmalnkpgloiaaGreatDoorCards.lean) ties it to the program's text. -/
def laid_errors_errorType {H : Type} : DataW H := .iface "internal/reflectlite.rtype" (.agg [.ptr (.lit (.string [101, 114, 114, 111, 114]))])

/-- 'laws.FnMainsBalance': WHATEVER THE INPUT: true; the input reads as it did. -/
def fnMainsBalanceSpec : ChangeSpec := { name := "fnMainsBalance", fn := fun _ => fun
  | [d] => { results := [.lit (.bool true)], args := [d] }
  | _ => none }
def fnMainsBalanceRow : OpenClaim := { program := "ytfgmalnkpgloiaagreatdoor", sum := "9779a091bce6d136963d72d20773b06bb450744e45f6bd6e5bf4a5e319db38be", func := "loop.example/g00068/laws.FnMainsBalance", spec := "fnMainsBalance", inPlace := ["internal/reflectlite.ValueOf", "(internal/reflectlite.Value).Type", "(internal/reflectlite.Value).IsNil", "internal/reflectlite.TypeOf", "(internal/reflectlite.Value).Elem", "(internal/reflectlite.Value).Set"], unfollowed := true, recurses := true, named := ["errors.errorType"], apart := false, laid := [("errors.errorType", laid_errors_errorType)] }
def FnMainsBalanceSaid : Prop := fnMainsBalanceRow.holds Tryz.pinned (OpenSpec.ofChange fnMainsBalanceSpec)

/-- ITS FALSE NEIGHBOUR: 'it returns false'. Refute it at one input. -/
def fnMainsBalanceWrong : ChangeSpec := { name := "fnMainsBalance", fn := fun _ => fun
  | [d] => { results := [.lit (.bool false)], args := [d] }
  | _ => none }
def FnMainsBalanceWrongFalsely : Prop := fnMainsBalanceRow.holds Tryz.pinned (OpenSpec.ofChange fnMainsBalanceWrong)

/-- 'laws.FnMainsRounds': WHATEVER THE INPUT: true; the input reads as it did. -/
def fnMainsRoundsSpec : ChangeSpec := { name := "fnMainsRounds", fn := fun _ => fun
  | [d] => { results := [.lit (.bool true)], args := [d] }
  | _ => none }
def fnMainsRoundsRow : OpenClaim := { program := "ytfgmalnkpgloiaagreatdoor", sum := "9779a091bce6d136963d72d20773b06bb450744e45f6bd6e5bf4a5e319db38be", func := "loop.example/g00068/laws.FnMainsRounds", spec := "fnMainsRounds", inPlace := ["internal/reflectlite.ValueOf", "(internal/reflectlite.Value).Type", "(internal/reflectlite.Value).IsNil", "internal/reflectlite.TypeOf", "(internal/reflectlite.Value).Elem", "(internal/reflectlite.Value).Set"], unfollowed := true, recurses := true, named := ["errors.errorType"], apart := false, laid := [("errors.errorType", laid_errors_errorType)] }
def FnMainsRoundsSaid : Prop := fnMainsRoundsRow.holds Tryz.pinned (OpenSpec.ofChange fnMainsRoundsSpec)

/-- ITS FALSE NEIGHBOUR: 'it returns false'. Refute it at one input. -/
def fnMainsRoundsWrong : ChangeSpec := { name := "fnMainsRounds", fn := fun _ => fun
  | [d] => { results := [.lit (.bool false)], args := [d] }
  | _ => none }
def FnMainsRoundsWrongFalsely : Prop := fnMainsRoundsRow.holds Tryz.pinned (OpenSpec.ofChange fnMainsRoundsWrong)

/-- 'laws.FnExactMainsRound': WHATEVER THE INPUT: true; the input reads as it did. -/
def fnExactMainsRoundSpec : ChangeSpec := { name := "fnExactMainsRound", fn := fun _ => fun
  | [d1, d2] => { results := [.lit (.bool true)], args := [d1, d2] }
  | _ => none }
def fnExactMainsRoundRow : OpenClaim := { program := "ytfgmalnkpgloiaagreatdoor", sum := "9779a091bce6d136963d72d20773b06bb450744e45f6bd6e5bf4a5e319db38be", func := "loop.example/g00068/laws.FnExactMainsRound", spec := "fnExactMainsRound", inPlace := ["internal/reflectlite.ValueOf", "(internal/reflectlite.Value).Type", "(internal/reflectlite.Value).IsNil", "internal/reflectlite.TypeOf", "(internal/reflectlite.Value).Elem", "(internal/reflectlite.Value).Set"], unfollowed := true, recurses := true, named := ["errors.errorType"], apart := false, laid := [("errors.errorType", laid_errors_errorType)] }
def FnExactMainsRoundSaid : Prop := fnExactMainsRoundRow.holds Tryz.pinned (OpenSpec.ofChange fnExactMainsRoundSpec)

/-- ITS FALSE NEIGHBOUR: 'it returns false'. Refute it at one input. -/
def fnExactMainsRoundWrong : ChangeSpec := { name := "fnExactMainsRound", fn := fun _ => fun
  | [d1, d2] => { results := [.lit (.bool false)], args := [d1, d2] }
  | _ => none }
def FnExactMainsRoundWrongFalsely : Prop := fnExactMainsRoundRow.holds Tryz.pinned (OpenSpec.ofChange fnExactMainsRoundWrong)

/-- 'laws.FnExactMainsSolve': WHATEVER THE INPUT: true; the input reads as it did. -/
def fnExactMainsSolveSpec : ChangeSpec := { name := "fnExactMainsSolve", fn := fun _ => fun
  | [d1, d2] => { results := [.lit (.bool true)], args := [d1, d2] }
  | _ => none }
def fnExactMainsSolveRow : OpenClaim := { program := "ytfgmalnkpgloiaagreatdoor", sum := "9779a091bce6d136963d72d20773b06bb450744e45f6bd6e5bf4a5e319db38be", func := "loop.example/g00068/laws.FnExactMainsSolve", spec := "fnExactMainsSolve", inPlace := ["internal/reflectlite.ValueOf", "(internal/reflectlite.Value).Type", "(internal/reflectlite.Value).IsNil", "internal/reflectlite.TypeOf", "(internal/reflectlite.Value).Elem", "(internal/reflectlite.Value).Set"], unfollowed := true, recurses := true, named := ["errors.errorType"], apart := false, laid := [("errors.errorType", laid_errors_errorType)] }
def FnExactMainsSolveSaid : Prop := fnExactMainsSolveRow.holds Tryz.pinned (OpenSpec.ofChange fnExactMainsSolveSpec)

/-- ITS FALSE NEIGHBOUR: 'it returns false'. Refute it at one input. -/
def fnExactMainsSolveWrong : ChangeSpec := { name := "fnExactMainsSolve", fn := fun _ => fun
  | [d1, d2] => { results := [.lit (.bool false)], args := [d1, d2] }
  | _ => none }
def FnExactMainsSolveWrongFalsely : Prop := fnExactMainsSolveRow.holds Tryz.pinned (OpenSpec.ofChange fnExactMainsSolveWrong)

/- THE SECOND FORM. 'bulk': how many values and letters a reading holds, each counted each time it is reached (what is shared counts as often as it is met; a slice's spare places count too). A statement '..UptoSaid' is the law's where the arguments, and the package variables that the reading takes, are together of bulk at most 1048576: NARROWER than '..Said'. Prove '..Said' where nothing that the law and all that it calls make is longer than what came in: it says more and counts as full. Else prove '..UptoSaid'. A law counts once. -/
mutual
def uptoBulk {H : Type} : DataW H → Nat
  | .lit (.string bytes) => bytes.length + 1
  | .lit _ => 1
  | .nil => 1
  | .ptr d => uptoBulk d + 1
  | .slice elems spare => uptoBulkAll elems + uptoBulkAll spare + 1
  | .agg parts => uptoBulkAll parts + 1
  | .iface _ d => uptoBulk d + 1
  | .map entries => uptoBulkEntries entries + 1
  | .held _ => 1
def uptoBulkAll {H : Type} : List (DataW H) → Nat
  | [] => 0
  | d :: r => uptoBulk d + uptoBulkAll r
def uptoBulkEntries {H : Type} : List (Lit × DataW H) → Nat
  | [] => 0
  | x :: r => uptoBulkEntry x + uptoBulkEntries r
def uptoBulkEntry {H : Type} : Lit × DataW H → Nat
  | (.string bytes, d) => bytes.length + uptoBulk d + 1
  | (_, d) => uptoBulk d + 1
 end
def uptoSmall : (H : Type) → List (DataW H) → Bool := fun _ ds => decide (uptoBulkAll ds ≤ 1048576)
def OpenSpec.upto (s : _root_.Go.ChangeSpec) : _root_.Go.OpenSpec := { _root_.Go.OpenSpec.ofChange s with cond := some uptoSmall }

/-- 'laws.FnMainsBalance', WHERE WHAT IT READS IS OF BULK AT MOST 1048576: true; the input reads as it did. -/
def fnMainsBalanceUptoRow : OpenClaim := { program := "ytfgmalnkpgloiaagreatdoor", sum := "9779a091bce6d136963d72d20773b06bb450744e45f6bd6e5bf4a5e319db38be", func := "loop.example/g00068/laws.FnMainsBalance", spec := "fnMainsBalance", inPlace := ["internal/reflectlite.ValueOf", "(internal/reflectlite.Value).Type", "(internal/reflectlite.Value).IsNil", "internal/reflectlite.TypeOf", "(internal/reflectlite.Value).Elem", "(internal/reflectlite.Value).Set"], unfollowed := true, recurses := true, named := ["errors.errorType"], apart := false, laid := [("errors.errorType", laid_errors_errorType)], narrowed := true }
def FnMainsBalanceUptoSaid : Prop := fnMainsBalanceUptoRow.holds Tryz.pinned (OpenSpec.upto fnMainsBalanceSpec)

/-- 'laws.FnMainsRounds', WHERE WHAT IT READS IS OF BULK AT MOST 1048576: true; the input reads as it did. -/
def fnMainsRoundsUptoRow : OpenClaim := { program := "ytfgmalnkpgloiaagreatdoor", sum := "9779a091bce6d136963d72d20773b06bb450744e45f6bd6e5bf4a5e319db38be", func := "loop.example/g00068/laws.FnMainsRounds", spec := "fnMainsRounds", inPlace := ["internal/reflectlite.ValueOf", "(internal/reflectlite.Value).Type", "(internal/reflectlite.Value).IsNil", "internal/reflectlite.TypeOf", "(internal/reflectlite.Value).Elem", "(internal/reflectlite.Value).Set"], unfollowed := true, recurses := true, named := ["errors.errorType"], apart := false, laid := [("errors.errorType", laid_errors_errorType)], narrowed := true }
def FnMainsRoundsUptoSaid : Prop := fnMainsRoundsUptoRow.holds Tryz.pinned (OpenSpec.upto fnMainsRoundsSpec)

/-- 'laws.FnExactMainsRound', WHERE WHAT IT READS IS OF BULK AT MOST 1048576: true; the input reads as it did. -/
def fnExactMainsRoundUptoRow : OpenClaim := { program := "ytfgmalnkpgloiaagreatdoor", sum := "9779a091bce6d136963d72d20773b06bb450744e45f6bd6e5bf4a5e319db38be", func := "loop.example/g00068/laws.FnExactMainsRound", spec := "fnExactMainsRound", inPlace := ["internal/reflectlite.ValueOf", "(internal/reflectlite.Value).Type", "(internal/reflectlite.Value).IsNil", "internal/reflectlite.TypeOf", "(internal/reflectlite.Value).Elem", "(internal/reflectlite.Value).Set"], unfollowed := true, recurses := true, named := ["errors.errorType"], apart := false, laid := [("errors.errorType", laid_errors_errorType)], narrowed := true }
def FnExactMainsRoundUptoSaid : Prop := fnExactMainsRoundUptoRow.holds Tryz.pinned (OpenSpec.upto fnExactMainsRoundSpec)

/-- 'laws.FnExactMainsSolve', WHERE WHAT IT READS IS OF BULK AT MOST 1048576: true; the input reads as it did. -/
def fnExactMainsSolveUptoRow : OpenClaim := { program := "ytfgmalnkpgloiaagreatdoor", sum := "9779a091bce6d136963d72d20773b06bb450744e45f6bd6e5bf4a5e319db38be", func := "loop.example/g00068/laws.FnExactMainsSolve", spec := "fnExactMainsSolve", inPlace := ["internal/reflectlite.ValueOf", "(internal/reflectlite.Value).Type", "(internal/reflectlite.Value).IsNil", "internal/reflectlite.TypeOf", "(internal/reflectlite.Value).Elem", "(internal/reflectlite.Value).Set"], unfollowed := true, recurses := true, named := ["errors.errorType"], apart := false, laid := [("errors.errorType", laid_errors_errorType)], narrowed := true }
def FnExactMainsSolveUptoSaid : Prop := fnExactMainsSolveUptoRow.holds Tryz.pinned (OpenSpec.upto fnExactMainsSolveSpec)

end Rows
end Go.Proofs.YtfgmalnkpgloiaaGreatDoor
