/-
  No cell of these rows narrows 'for every input' (looked for: loops, veiled, ifaces, maps, wideKeys, modest, calm, conditions, laid).
  DERIVED. THE GIVEN ROWS OF THIS SEAT. 3 by the template 'for every input the law returns true; each argument reads behind the call as it read before'; 0 by the template 'total and deterministic' (their statements: YtmphjkpiookioaaTotals.lean).
  GIVEN WITH THE SEED: the statements are not yours to turn. If you find one false, say at which input.
  Laid BY PROGRAM, IN A SANDBOX (cutbox-rows.mjs): the forced cells as the released guide's own fill.sh prints them over the translation fab135ec207bedb7… (all of the seat's roots in one cut). By AI agents, Wed Nov 11 2026. No macro, syntax, notation, axiom, sorry.
-/
import Derived.Test.YtmphjkpiookioaaChecked
import GoSem.Claim
import GoSem.ClaimJoined
import GoSem.ClaimMapViews
import Derived.JoinedTies
import Derived.KernelRfl
namespace Go.Proofs.Ytmphjkpiookioaa
/- THE CELL 'sum', in the pinned program and in every row, IS THE sha256 OF THE DUMP (.gsa) THAT YtmphjkpiookioaaProg.lean LOADS. Nothing in Lean hashes anything: it is a label: what it is worth is what the hold of that sum in a sandbox is worth. -/
noncomputable def Try.pinned : Pinned := { name := "ytmphjkpiookioaa", sum := "fab135ec207bedb74e4c3154764c767514949f84cc6a6268821c60311f1a138f", checked := Try.checked }
namespace Rows
def none {H : Type} : Left H := { results := [], args := [] }

/-- 'laws.FnExactStationRight': WHATEVER THE INPUT: true; the input reads as it did. -/
def fnExactStationRightSpec : ChangeSpec := { name := "fnExactStationRight", fn := fun _ => fun
  | [d] => { results := [.lit (.bool true)], args := [d] }
  | _ => none }
def fnExactStationRightRow : OpenClaim := { program := "ytmphjkpiookioaa", sum := "fab135ec207bedb74e4c3154764c767514949f84cc6a6268821c60311f1a138f", func := "loop.example/g00068/laws.FnExactStationRight", spec := "fnExactStationRight", apart := false }
def FnExactStationRightSaid : Prop := fnExactStationRightRow.holds Try.pinned (OpenSpec.ofChange fnExactStationRightSpec)

/-- ITS FALSE NEIGHBOUR: 'it returns false'. Refute it at one input. -/
def fnExactStationRightWrong : ChangeSpec := { name := "fnExactStationRight", fn := fun _ => fun
  | [d] => { results := [.lit (.bool false)], args := [d] }
  | _ => none }
def FnExactStationRightWrongFalsely : Prop := fnExactStationRightRow.holds Try.pinned (OpenSpec.ofChange fnExactStationRightWrong)

/-- 'laws.FnExactStationNote': WHATEVER THE INPUT: true; the input reads as it did. -/
def fnExactStationNoteSpec : ChangeSpec := { name := "fnExactStationNote", fn := fun _ => fun
  | [d1, d2] => { results := [.lit (.bool true)], args := [d1, d2] }
  | _ => none }
def fnExactStationNoteRow : OpenClaim := { program := "ytmphjkpiookioaa", sum := "fab135ec207bedb74e4c3154764c767514949f84cc6a6268821c60311f1a138f", func := "loop.example/g00068/laws.FnExactStationNote", spec := "fnExactStationNote", apart := false }
def FnExactStationNoteSaid : Prop := fnExactStationNoteRow.holds Try.pinned (OpenSpec.ofChange fnExactStationNoteSpec)

/-- ITS FALSE NEIGHBOUR: 'it returns false'. Refute it at one input. -/
def fnExactStationNoteWrong : ChangeSpec := { name := "fnExactStationNote", fn := fun _ => fun
  | [d1, d2] => { results := [.lit (.bool false)], args := [d1, d2] }
  | _ => none }
def FnExactStationNoteWrongFalsely : Prop := fnExactStationNoteRow.holds Try.pinned (OpenSpec.ofChange fnExactStationNoteWrong)

/-- 'laws.FnExactStationHeard': WHATEVER THE INPUT: true; the input reads as it did. -/
def fnExactStationHeardSpec : ChangeSpec := { name := "fnExactStationHeard", fn := fun _ => fun
  | [d1, d2] => { results := [.lit (.bool true)], args := [d1, d2] }
  | _ => none }
def fnExactStationHeardRow : OpenClaim := { program := "ytmphjkpiookioaa", sum := "fab135ec207bedb74e4c3154764c767514949f84cc6a6268821c60311f1a138f", func := "loop.example/g00068/laws.FnExactStationHeard", spec := "fnExactStationHeard", unfollowed := true, recurses := true, apart := false }
def FnExactStationHeardSaid : Prop := fnExactStationHeardRow.holds Try.pinned (OpenSpec.ofChange fnExactStationHeardSpec)

/-- ITS FALSE NEIGHBOUR: 'it returns false'. Refute it at one input. -/
def fnExactStationHeardWrong : ChangeSpec := { name := "fnExactStationHeard", fn := fun _ => fun
  | [d1, d2] => { results := [.lit (.bool false)], args := [d1, d2] }
  | _ => none }
def FnExactStationHeardWrongFalsely : Prop := fnExactStationHeardRow.holds Try.pinned (OpenSpec.ofChange fnExactStationHeardWrong)

/- THE SECOND FORM. 'bulk': how many values and letters a reading holds, each counted each time it is reached (what is shared counts as often as it is met; a slice's spare places count too). A statement '..UptoSaid' is the law's where the arguments, and the package variables that the reading takes, are together of bulk at most 1048576: NARROWER than '..Said'. Prove '..Said' where nothing that the law and all that it calls make is longer than what came in: it says more and counts as full. Else prove '..UptoSaid'. A law counts once. -/
mutual
def uptoBulk {H : Type} : DataW H → Nat
  | .lit (.string bytes) => bytes.length + 1
  | .lit _ => 1
  | .nil => 1
  | .ptr d => uptoBulk d + 1
  | .slice elems spare => uptoBulkAll elems + uptoBulkAll spare + 1
  | .agg parts => uptoBulkAll parts + 1
  | .iface _ d => uptoBulk d + 1
  | .map entries => uptoBulkEntries entries + 1
  | .held _ => 1
def uptoBulkAll {H : Type} : List (DataW H) → Nat
  | [] => 0
  | d :: r => uptoBulk d + uptoBulkAll r
def uptoBulkEntries {H : Type} : List (Lit × DataW H) → Nat
  | [] => 0
  | x :: r => uptoBulkEntry x + uptoBulkEntries r
def uptoBulkEntry {H : Type} : Lit × DataW H → Nat
  | (.string bytes, d) => bytes.length + uptoBulk d + 1
  | (_, d) => uptoBulk d + 1
 end
def uptoSmall : (H : Type) → List (DataW H) → Bool := fun _ ds => decide (uptoBulkAll ds ≤ 1048576)
def OpenSpec.upto (s : _root_.Go.ChangeSpec) : _root_.Go.OpenSpec := { _root_.Go.OpenSpec.ofChange s with cond := some uptoSmall }

/-- 'laws.FnExactStationRight', WHERE WHAT IT READS IS OF BULK AT MOST 1048576: true; the input reads as it did. -/
def fnExactStationRightUptoRow : OpenClaim := { program := "ytmphjkpiookioaa", sum := "fab135ec207bedb74e4c3154764c767514949f84cc6a6268821c60311f1a138f", func := "loop.example/g00068/laws.FnExactStationRight", spec := "fnExactStationRight", apart := false, narrowed := true }
def FnExactStationRightUptoSaid : Prop := fnExactStationRightUptoRow.holds Try.pinned (OpenSpec.upto fnExactStationRightSpec)

/-- 'laws.FnExactStationNote', WHERE WHAT IT READS IS OF BULK AT MOST 1048576: true; the input reads as it did. -/
def fnExactStationNoteUptoRow : OpenClaim := { program := "ytmphjkpiookioaa", sum := "fab135ec207bedb74e4c3154764c767514949f84cc6a6268821c60311f1a138f", func := "loop.example/g00068/laws.FnExactStationNote", spec := "fnExactStationNote", apart := false, narrowed := true }
def FnExactStationNoteUptoSaid : Prop := fnExactStationNoteUptoRow.holds Try.pinned (OpenSpec.upto fnExactStationNoteSpec)

/-- 'laws.FnExactStationHeard', WHERE WHAT IT READS IS OF BULK AT MOST 1048576: true; the input reads as it did. -/
def fnExactStationHeardUptoRow : OpenClaim := { program := "ytmphjkpiookioaa", sum := "fab135ec207bedb74e4c3154764c767514949f84cc6a6268821c60311f1a138f", func := "loop.example/g00068/laws.FnExactStationHeard", spec := "fnExactStationHeard", unfollowed := true, recurses := true, apart := false, narrowed := true }
def FnExactStationHeardUptoSaid : Prop := fnExactStationHeardUptoRow.holds Try.pinned (OpenSpec.upto fnExactStationHeardSpec)

end Rows
end Go.Proofs.Ytmphjkpiookioaa
