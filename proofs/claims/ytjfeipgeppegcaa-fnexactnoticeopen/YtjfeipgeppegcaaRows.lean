/-
  No cell of these rows narrows 'for every input' (looked for: loops, veiled, ifaces, maps, wideKeys, modest, calm, conditions, laid).
  DERIVED. THE GIVEN ROWS OF THIS SEAT. 3 by the template 'for every input the law returns true; each argument reads behind the call as it read before'; 0 by the template 'total and deterministic' (their statements: YtjfeipgeppegcaaTotals.lean).
  GIVEN WITH THE SEED: the statements are not yours to turn. If you find one false, say at which input.
  Laid BY PROGRAM, IN A SANDBOX (cutbox-rows.mjs): the forced cells as the released guide's own fill.sh prints them over the translation b9ac88b58fdf45f4… (all of the seat's roots in one cut). By AI agents, Wed Nov 11 2026. No macro, syntax, notation, axiom, sorry.
-/
import Derived.Test.YtjfeipgeppegcaaChecked
import GoSem.Claim
import GoSem.ClaimJoined
import GoSem.ClaimMapViews
import Derived.JoinedTies
import Derived.KernelRfl
namespace Go.Proofs.Ytjfeipgeppegcaa
/- THE CELL 'sum', in the pinned program and in every row, IS THE sha256 OF THE DUMP (.gsa) THAT YtjfeipgeppegcaaProg.lean LOADS. Nothing in Lean hashes anything: it is a label: what it is worth is what the hold of that sum in a sandbox is worth. -/
noncomputable def Try.pinned : Pinned := { name := "ytjfeipgeppegcaa", sum := "b9ac88b58fdf45f47a2e2f1eb84a6371bafc1ed9459cddc7980dce21064e108d", checked := Try.checked }
namespace Rows
def none {H : Type} : Left H := { results := [], args := [] }

/-- 'laws.FnExactHomesRight': WHATEVER THE INPUT: true; the input reads as it did. -/
def fnExactHomesRightSpec : ChangeSpec := { name := "fnExactHomesRight", fn := fun _ => fun
  | [d] => { results := [.lit (.bool true)], args := [d] }
  | _ => none }
def fnExactHomesRightRow : OpenClaim := { program := "ytjfeipgeppegcaa", sum := "b9ac88b58fdf45f47a2e2f1eb84a6371bafc1ed9459cddc7980dce21064e108d", func := "loop.example/g00068/laws.FnExactHomesRight", spec := "fnExactHomesRight", unfollowed := true, recurses := true, apart := false }
def FnExactHomesRightSaid : Prop := fnExactHomesRightRow.holds Try.pinned (OpenSpec.ofChange fnExactHomesRightSpec)

/-- ITS FALSE NEIGHBOUR: 'it returns false'. Refute it at one input. -/
def fnExactHomesRightWrong : ChangeSpec := { name := "fnExactHomesRight", fn := fun _ => fun
  | [d] => { results := [.lit (.bool false)], args := [d] }
  | _ => none }
def FnExactHomesRightWrongFalsely : Prop := fnExactHomesRightRow.holds Try.pinned (OpenSpec.ofChange fnExactHomesRightWrong)

/-- 'laws.FnExactAreasOf': WHATEVER THE INPUT: true; the input reads as it did. -/
def fnExactAreasOfSpec : ChangeSpec := { name := "fnExactAreasOf", fn := fun _ => fun
  | [d] => { results := [.lit (.bool true)], args := [d] }
  | _ => none }
def fnExactAreasOfRow : OpenClaim := { program := "ytjfeipgeppegcaa", sum := "b9ac88b58fdf45f47a2e2f1eb84a6371bafc1ed9459cddc7980dce21064e108d", func := "loop.example/g00068/laws.FnExactAreasOf", spec := "fnExactAreasOf", unfollowed := true, recurses := true, apart := false }
def FnExactAreasOfSaid : Prop := fnExactAreasOfRow.holds Try.pinned (OpenSpec.ofChange fnExactAreasOfSpec)

/-- ITS FALSE NEIGHBOUR: 'it returns false'. Refute it at one input. -/
def fnExactAreasOfWrong : ChangeSpec := { name := "fnExactAreasOf", fn := fun _ => fun
  | [d] => { results := [.lit (.bool false)], args := [d] }
  | _ => none }
def FnExactAreasOfWrongFalsely : Prop := fnExactAreasOfRow.holds Try.pinned (OpenSpec.ofChange fnExactAreasOfWrong)

/-- 'laws.FnExactNoticeOpen': WHATEVER THE INPUT: true; the input reads as it did. -/
def fnExactNoticeOpenSpec : ChangeSpec := { name := "fnExactNoticeOpen", fn := fun _ => fun
  | [d] => { results := [.lit (.bool true)], args := [d] }
  | _ => none }
def fnExactNoticeOpenRow : OpenClaim := { program := "ytjfeipgeppegcaa", sum := "b9ac88b58fdf45f47a2e2f1eb84a6371bafc1ed9459cddc7980dce21064e108d", func := "loop.example/g00068/laws.FnExactNoticeOpen", spec := "fnExactNoticeOpen", unfollowed := true, recurses := true, apart := false }
def FnExactNoticeOpenSaid : Prop := fnExactNoticeOpenRow.holds Try.pinned (OpenSpec.ofChange fnExactNoticeOpenSpec)

/-- ITS FALSE NEIGHBOUR: 'it returns false'. Refute it at one input. -/
def fnExactNoticeOpenWrong : ChangeSpec := { name := "fnExactNoticeOpen", fn := fun _ => fun
  | [d] => { results := [.lit (.bool false)], args := [d] }
  | _ => none }
def FnExactNoticeOpenWrongFalsely : Prop := fnExactNoticeOpenRow.holds Try.pinned (OpenSpec.ofChange fnExactNoticeOpenWrong)

/- THE SECOND FORM. 'bulk': how many values and letters a reading holds, each counted each time it is reached (what is shared counts as often as it is met; a slice's spare places count too). A statement '..UptoSaid' is the law's where the arguments, and the package variables that the reading takes, are together of bulk at most 1048576: NARROWER than '..Said'. Prove '..Said' where nothing that the law and all that it calls make is longer than what came in: it says more and counts as full. Else prove '..UptoSaid'. A law counts once. -/
mutual
def uptoBulk {H : Type} : DataW H → Nat
  | .lit (.string bytes) => bytes.length + 1
  | .lit _ => 1
  | .nil => 1
  | .ptr d => uptoBulk d + 1
  | .slice elems spare => uptoBulkAll elems + uptoBulkAll spare + 1
  | .agg parts => uptoBulkAll parts + 1
  | .iface _ d => uptoBulk d + 1
  | .map entries => uptoBulkEntries entries + 1
  | .held _ => 1
def uptoBulkAll {H : Type} : List (DataW H) → Nat
  | [] => 0
  | d :: r => uptoBulk d + uptoBulkAll r
def uptoBulkEntries {H : Type} : List (Lit × DataW H) → Nat
  | [] => 0
  | x :: r => uptoBulkEntry x + uptoBulkEntries r
def uptoBulkEntry {H : Type} : Lit × DataW H → Nat
  | (.string bytes, d) => bytes.length + uptoBulk d + 1
  | (_, d) => uptoBulk d + 1
 end
def uptoSmall : (H : Type) → List (DataW H) → Bool := fun _ ds => decide (uptoBulkAll ds ≤ 1048576)
def OpenSpec.upto (s : _root_.Go.ChangeSpec) : _root_.Go.OpenSpec := { _root_.Go.OpenSpec.ofChange s with cond := some uptoSmall }

/-- 'laws.FnExactHomesRight', WHERE WHAT IT READS IS OF BULK AT MOST 1048576: true; the input reads as it did. -/
def fnExactHomesRightUptoRow : OpenClaim := { program := "ytjfeipgeppegcaa", sum := "b9ac88b58fdf45f47a2e2f1eb84a6371bafc1ed9459cddc7980dce21064e108d", func := "loop.example/g00068/laws.FnExactHomesRight", spec := "fnExactHomesRight", unfollowed := true, recurses := true, apart := false, narrowed := true }
def FnExactHomesRightUptoSaid : Prop := fnExactHomesRightUptoRow.holds Try.pinned (OpenSpec.upto fnExactHomesRightSpec)

/-- 'laws.FnExactAreasOf', WHERE WHAT IT READS IS OF BULK AT MOST 1048576: true; the input reads as it did. -/
def fnExactAreasOfUptoRow : OpenClaim := { program := "ytjfeipgeppegcaa", sum := "b9ac88b58fdf45f47a2e2f1eb84a6371bafc1ed9459cddc7980dce21064e108d", func := "loop.example/g00068/laws.FnExactAreasOf", spec := "fnExactAreasOf", unfollowed := true, recurses := true, apart := false, narrowed := true }
def FnExactAreasOfUptoSaid : Prop := fnExactAreasOfUptoRow.holds Try.pinned (OpenSpec.upto fnExactAreasOfSpec)

/-- 'laws.FnExactNoticeOpen', WHERE WHAT IT READS IS OF BULK AT MOST 1048576: true; the input reads as it did. -/
def fnExactNoticeOpenUptoRow : OpenClaim := { program := "ytjfeipgeppegcaa", sum := "b9ac88b58fdf45f47a2e2f1eb84a6371bafc1ed9459cddc7980dce21064e108d", func := "loop.example/g00068/laws.FnExactNoticeOpen", spec := "fnExactNoticeOpen", unfollowed := true, recurses := true, apart := false, narrowed := true }
def FnExactNoticeOpenUptoSaid : Prop := fnExactNoticeOpenUptoRow.holds Try.pinned (OpenSpec.upto fnExactNoticeOpenSpec)

end Rows
end Go.Proofs.Ytjfeipgeppegcaa
