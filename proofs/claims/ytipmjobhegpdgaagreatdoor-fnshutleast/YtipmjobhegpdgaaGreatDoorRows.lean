/-
  NARROWER THAN 'FOR EVERY INPUT', by the rows' own cells (each row's printed sentence says how): FnExactLeastShut: laid · FnShutOff: laid · FnShutLeast: laid.
  DERIVED. THE GIVEN ROWS OF THIS SEAT. 3 by the template 'for every input the law returns true; each argument reads behind the call as it read before'; 0 by the template 'total and deterministic' (their statements: YtipmjobhegpdgaaGreatDoorTotals.lean).
  GIVEN WITH THE SEED: the statements are not yours to turn. If you find one false, say at which input.
  Laid BY PROGRAM, IN A SANDBOX (cutbox-rows.mjs): the forced cells as the released guide's own fill.sh prints them over the translation d8d0e1cb078275eb… (all of the seat's roots in one cut). By AI agents, Wed Nov 11 2026. No macro, syntax, notation, axiom, sorry.
-/
import Derived.Test.YtipmjobhegpdgaaGreatDoorChecked
import GoSem.Claim
import GoSem.ClaimJoined
import GoSem.ClaimMapViews
import Derived.JoinedTies
import Derived.KernelRfl
namespace Go.Proofs.YtipmjobhegpdgaaGreatDoor
/- THE CELL 'sum', in the pinned program and in every row, IS THE sha256 OF THE DUMP (.gsa) THAT YtipmjobhegpdgaaGreatDoorProg.lean LOADS. Nothing in Lean hashes anything: it is a label: what it is worth is what the hold of that sum in a sandbox is worth. -/
noncomputable def Tryz.pinned : Pinned := { name := "ytipmjobhegpdgaagreatdoor", sum := "d8d0e1cb078275ebfe7509bc2105c8a4c8c206d6992aa786b5d7409ebad2c532", checked := Tryz.checked }
namespace Rows
def none {H : Type} : Left H := { results := [], args := [] }

/- WHAT THE LISTED PACKAGE-LEVEL VARIABLES READ AS WHEN THE CALL BEGINS. Each datum BY PROGRAM (the guide's laid-datum.mjs) off the statement by which the dump's own 'gosem.cut.vars' lays the variable. In a bare row this is a premise. The card (YtipmjobhegpdgaaGreatDoorCards.lean) ties it to the program's text. -/
def laid_errors_errorType {H : Type} : DataW H := .iface "internal/reflectlite.rtype" (.agg [.ptr (.lit (.string [101, 114, 114, 111, 114]))])

/-- 'laws.FnExactLeastShut': WHATEVER THE INPUT: true; the input reads as it did. -/
def fnExactLeastShutSpec : ChangeSpec := { name := "fnExactLeastShut", fn := fun _ => fun
  | [d1, d2] => { results := [.lit (.bool true)], args := [d1, d2] }
  | _ => none }
def fnExactLeastShutRow : OpenClaim := { program := "ytipmjobhegpdgaagreatdoor", sum := "d8d0e1cb078275ebfe7509bc2105c8a4c8c206d6992aa786b5d7409ebad2c532", func := "loop.example/g00068/laws.FnExactLeastShut", spec := "fnExactLeastShut", inPlace := ["internal/reflectlite.ValueOf", "(internal/reflectlite.Value).Type", "(internal/reflectlite.Value).IsNil", "internal/reflectlite.TypeOf", "(internal/reflectlite.Value).Elem", "(internal/reflectlite.Value).Set"], unfollowed := true, recurses := true, named := ["errors.errorType"], plainKeys := false, apart := false, laid := [("errors.errorType", laid_errors_errorType)] }
def FnExactLeastShutSaid : Prop := fnExactLeastShutRow.holds Tryz.pinned (OpenSpec.ofChange fnExactLeastShutSpec)

/-- ITS FALSE NEIGHBOUR: 'it returns false'. Refute it at one input. -/
def fnExactLeastShutWrong : ChangeSpec := { name := "fnExactLeastShut", fn := fun _ => fun
  | [d1, d2] => { results := [.lit (.bool false)], args := [d1, d2] }
  | _ => none }
def FnExactLeastShutWrongFalsely : Prop := fnExactLeastShutRow.holds Tryz.pinned (OpenSpec.ofChange fnExactLeastShutWrong)

/-- 'laws.FnShutOff': WHATEVER THE INPUT: true; the input reads as it did. -/
def fnShutOffSpec : ChangeSpec := { name := "fnShutOff", fn := fun _ => fun
  | [d] => { results := [.lit (.bool true)], args := [d] }
  | _ => none }
def fnShutOffRow : OpenClaim := { program := "ytipmjobhegpdgaagreatdoor", sum := "d8d0e1cb078275ebfe7509bc2105c8a4c8c206d6992aa786b5d7409ebad2c532", func := "loop.example/g00068/laws.FnShutOff", spec := "fnShutOff", inPlace := ["internal/reflectlite.ValueOf", "(internal/reflectlite.Value).Type", "(internal/reflectlite.Value).IsNil", "internal/reflectlite.TypeOf", "(internal/reflectlite.Value).Elem", "(internal/reflectlite.Value).Set"], unfollowed := true, recurses := true, named := ["errors.errorType"], plainKeys := false, apart := false, laid := [("errors.errorType", laid_errors_errorType)] }
def FnShutOffSaid : Prop := fnShutOffRow.holds Tryz.pinned (OpenSpec.ofChange fnShutOffSpec)

/-- ITS FALSE NEIGHBOUR: 'it returns false'. Refute it at one input. -/
def fnShutOffWrong : ChangeSpec := { name := "fnShutOff", fn := fun _ => fun
  | [d] => { results := [.lit (.bool false)], args := [d] }
  | _ => none }
def FnShutOffWrongFalsely : Prop := fnShutOffRow.holds Tryz.pinned (OpenSpec.ofChange fnShutOffWrong)

/-- 'laws.FnShutLeast': WHATEVER THE INPUT: true; the input reads as it did. -/
def fnShutLeastSpec : ChangeSpec := { name := "fnShutLeast", fn := fun _ => fun
  | [d] => { results := [.lit (.bool true)], args := [d] }
  | _ => none }
def fnShutLeastRow : OpenClaim := { program := "ytipmjobhegpdgaagreatdoor", sum := "d8d0e1cb078275ebfe7509bc2105c8a4c8c206d6992aa786b5d7409ebad2c532", func := "loop.example/g00068/laws.FnShutLeast", spec := "fnShutLeast", inPlace := ["internal/reflectlite.ValueOf", "(internal/reflectlite.Value).Type", "(internal/reflectlite.Value).IsNil", "internal/reflectlite.TypeOf", "(internal/reflectlite.Value).Elem", "(internal/reflectlite.Value).Set"], unfollowed := true, recurses := true, named := ["errors.errorType"], plainKeys := false, apart := false, laid := [("errors.errorType", laid_errors_errorType)] }
def FnShutLeastSaid : Prop := fnShutLeastRow.holds Tryz.pinned (OpenSpec.ofChange fnShutLeastSpec)

/-- ITS FALSE NEIGHBOUR: 'it returns false'. Refute it at one input. -/
def fnShutLeastWrong : ChangeSpec := { name := "fnShutLeast", fn := fun _ => fun
  | [d] => { results := [.lit (.bool false)], args := [d] }
  | _ => none }
def FnShutLeastWrongFalsely : Prop := fnShutLeastRow.holds Tryz.pinned (OpenSpec.ofChange fnShutLeastWrong)

/- THE SECOND FORM. 'bulk': how many values and letters a reading holds, each counted each time it is reached (what is shared counts as often as it is met; a slice's spare places count too). A statement '..UptoSaid' is the law's where the arguments, and the package variables that the reading takes, are together of bulk at most 1048576: NARROWER than '..Said'. Prove '..Said' where nothing that the law and all that it calls make is longer than what came in: it says more and counts as full. Else prove '..UptoSaid'. A law counts once. -/
mutual
def uptoBulk {H : Type} : DataW H → Nat
  | .lit (.string bytes) => bytes.length + 1
  | .lit _ => 1
  | .nil => 1
  | .ptr d => uptoBulk d + 1
  | .slice elems spare => uptoBulkAll elems + uptoBulkAll spare + 1
  | .agg parts => uptoBulkAll parts + 1
  | .iface _ d => uptoBulk d + 1
  | .map entries => uptoBulkEntries entries + 1
  | .held _ => 1
def uptoBulkAll {H : Type} : List (DataW H) → Nat
  | [] => 0
  | d :: r => uptoBulk d + uptoBulkAll r
def uptoBulkEntries {H : Type} : List (Lit × DataW H) → Nat
  | [] => 0
  | x :: r => uptoBulkEntry x + uptoBulkEntries r
def uptoBulkEntry {H : Type} : Lit × DataW H → Nat
  | (.string bytes, d) => bytes.length + uptoBulk d + 1
  | (_, d) => uptoBulk d + 1
 end
def uptoSmall : (H : Type) → List (DataW H) → Bool := fun _ ds => decide (uptoBulkAll ds ≤ 1048576)
def OpenSpec.upto (s : _root_.Go.ChangeSpec) : _root_.Go.OpenSpec := { _root_.Go.OpenSpec.ofChange s with cond := some uptoSmall }

/-- 'laws.FnExactLeastShut', WHERE WHAT IT READS IS OF BULK AT MOST 1048576: true; the input reads as it did. -/
def fnExactLeastShutUptoRow : OpenClaim := { program := "ytipmjobhegpdgaagreatdoor", sum := "d8d0e1cb078275ebfe7509bc2105c8a4c8c206d6992aa786b5d7409ebad2c532", func := "loop.example/g00068/laws.FnExactLeastShut", spec := "fnExactLeastShut", inPlace := ["internal/reflectlite.ValueOf", "(internal/reflectlite.Value).Type", "(internal/reflectlite.Value).IsNil", "internal/reflectlite.TypeOf", "(internal/reflectlite.Value).Elem", "(internal/reflectlite.Value).Set"], unfollowed := true, recurses := true, named := ["errors.errorType"], plainKeys := false, apart := false, laid := [("errors.errorType", laid_errors_errorType)], narrowed := true }
def FnExactLeastShutUptoSaid : Prop := fnExactLeastShutUptoRow.holds Tryz.pinned (OpenSpec.upto fnExactLeastShutSpec)

/-- 'laws.FnShutOff', WHERE WHAT IT READS IS OF BULK AT MOST 1048576: true; the input reads as it did. -/
def fnShutOffUptoRow : OpenClaim := { program := "ytipmjobhegpdgaagreatdoor", sum := "d8d0e1cb078275ebfe7509bc2105c8a4c8c206d6992aa786b5d7409ebad2c532", func := "loop.example/g00068/laws.FnShutOff", spec := "fnShutOff", inPlace := ["internal/reflectlite.ValueOf", "(internal/reflectlite.Value).Type", "(internal/reflectlite.Value).IsNil", "internal/reflectlite.TypeOf", "(internal/reflectlite.Value).Elem", "(internal/reflectlite.Value).Set"], unfollowed := true, recurses := true, named := ["errors.errorType"], plainKeys := false, apart := false, laid := [("errors.errorType", laid_errors_errorType)], narrowed := true }
def FnShutOffUptoSaid : Prop := fnShutOffUptoRow.holds Tryz.pinned (OpenSpec.upto fnShutOffSpec)

/-- 'laws.FnShutLeast', WHERE WHAT IT READS IS OF BULK AT MOST 1048576: true; the input reads as it did. -/
def fnShutLeastUptoRow : OpenClaim := { program := "ytipmjobhegpdgaagreatdoor", sum := "d8d0e1cb078275ebfe7509bc2105c8a4c8c206d6992aa786b5d7409ebad2c532", func := "loop.example/g00068/laws.FnShutLeast", spec := "fnShutLeast", inPlace := ["internal/reflectlite.ValueOf", "(internal/reflectlite.Value).Type", "(internal/reflectlite.Value).IsNil", "internal/reflectlite.TypeOf", "(internal/reflectlite.Value).Elem", "(internal/reflectlite.Value).Set"], unfollowed := true, recurses := true, named := ["errors.errorType"], plainKeys := false, apart := false, laid := [("errors.errorType", laid_errors_errorType)], narrowed := true }
def FnShutLeastUptoSaid : Prop := fnShutLeastUptoRow.holds Tryz.pinned (OpenSpec.upto fnShutLeastSpec)

end Rows
end Go.Proofs.YtipmjobhegpdgaaGreatDoor
