/-
  No cell of these rows narrows 'for every input' (looked for: loops, veiled, ifaces, maps, wideKeys, modest, calm, conditions, laid).
  DERIVED. THE GIVEN ROWS OF THIS SEAT. 5 by the template 'for every input the law returns true; each argument reads behind the call as it read before'; 0 by the template 'total and deterministic' (their statements: YthcgffnkpeiddaaTotals.lean).
  GIVEN WITH THE SEED: the statements are not yours to turn. If you find one false, say at which input.
  Laid BY PROGRAM, IN A SANDBOX (cutbox-rows.mjs): the forced cells as the released guide's own fill.sh prints them over the translation 031d2737983e67a7… (all of the seat's roots in one cut). By AI agents, Wed Nov 11 2026. No macro, syntax, notation, axiom, sorry.
-/
import Derived.Test.YthcgffnkpeiddaaChecked
import GoSem.Claim
import GoSem.ClaimJoined
import GoSem.ClaimMapViews
import Derived.JoinedTies
import Derived.KernelRfl
namespace Go.Proofs.Ythcgffnkpeiddaa
/- THE CELL 'sum', in the pinned program and in every row, IS THE sha256 OF THE DUMP (.gsa) THAT YthcgffnkpeiddaaProg.lean LOADS. Nothing in Lean hashes anything: it is a label: what it is worth is what the hold of that sum in a sandbox is worth. -/
noncomputable def Try.pinned : Pinned := { name := "ythcgffnkpeiddaa", sum := "031d2737983e67a74d6bd09fc64b71db69022f7a046f197c5c23f416107c42cb", checked := Try.checked }
namespace Rows
def none {H : Type} : Left H := { results := [], args := [] }

/-- 'laws.FnExactSurgePeak': WHATEVER THE INPUT: true; the input reads as it did. -/
def fnExactSurgePeakSpec : ChangeSpec := { name := "fnExactSurgePeak", fn := fun _ => fun
  | [d1, d2] => { results := [.lit (.bool true)], args := [d1, d2] }
  | _ => none }
def fnExactSurgePeakRow : OpenClaim := { program := "ythcgffnkpeiddaa", sum := "031d2737983e67a74d6bd09fc64b71db69022f7a046f197c5c23f416107c42cb", func := "loop.example/g00068/laws.FnExactSurgePeak", spec := "fnExactSurgePeak", apart := false }
def FnExactSurgePeakSaid : Prop := fnExactSurgePeakRow.holds Try.pinned (OpenSpec.ofChange fnExactSurgePeakSpec)

/-- ITS FALSE NEIGHBOUR: 'it returns false'. Refute it at one input. -/
def fnExactSurgePeakWrong : ChangeSpec := { name := "fnExactSurgePeak", fn := fun _ => fun
  | [d1, d2] => { results := [.lit (.bool false)], args := [d1, d2] }
  | _ => none }
def FnExactSurgePeakWrongFalsely : Prop := fnExactSurgePeakRow.holds Try.pinned (OpenSpec.ofChange fnExactSurgePeakWrong)

/-- 'laws.FnExactLadderAt': WHATEVER THE INPUT: true; the input reads as it did. -/
def fnExactLadderAtSpec : ChangeSpec := { name := "fnExactLadderAt", fn := fun _ => fun
  | [d1, d2] => { results := [.lit (.bool true)], args := [d1, d2] }
  | _ => none }
def fnExactLadderAtRow : OpenClaim := { program := "ythcgffnkpeiddaa", sum := "031d2737983e67a74d6bd09fc64b71db69022f7a046f197c5c23f416107c42cb", func := "loop.example/g00068/laws.FnExactLadderAt", spec := "fnExactLadderAt", unfollowed := true, recurses := true, apart := false }
def FnExactLadderAtSaid : Prop := fnExactLadderAtRow.holds Try.pinned (OpenSpec.ofChange fnExactLadderAtSpec)

/-- ITS FALSE NEIGHBOUR: 'it returns false'. Refute it at one input. -/
def fnExactLadderAtWrong : ChangeSpec := { name := "fnExactLadderAt", fn := fun _ => fun
  | [d1, d2] => { results := [.lit (.bool false)], args := [d1, d2] }
  | _ => none }
def FnExactLadderAtWrongFalsely : Prop := fnExactLadderAtRow.holds Try.pinned (OpenSpec.ofChange fnExactLadderAtWrong)

/-- 'laws.FnExactCnumDiv': WHATEVER THE INPUT: true; the input reads as it did. -/
def fnExactCnumDivSpec : ChangeSpec := { name := "fnExactCnumDiv", fn := fun _ => fun
  | [d1, d2] => { results := [.lit (.bool true)], args := [d1, d2] }
  | _ => none }
def fnExactCnumDivRow : OpenClaim := { program := "ythcgffnkpeiddaa", sum := "031d2737983e67a74d6bd09fc64b71db69022f7a046f197c5c23f416107c42cb", func := "loop.example/g00068/laws.FnExactCnumDiv", spec := "fnExactCnumDiv", apart := false }
def FnExactCnumDivSaid : Prop := fnExactCnumDivRow.holds Try.pinned (OpenSpec.ofChange fnExactCnumDivSpec)

/-- ITS FALSE NEIGHBOUR: 'it returns false'. Refute it at one input. -/
def fnExactCnumDivWrong : ChangeSpec := { name := "fnExactCnumDiv", fn := fun _ => fun
  | [d1, d2] => { results := [.lit (.bool false)], args := [d1, d2] }
  | _ => none }
def FnExactCnumDivWrongFalsely : Prop := fnExactCnumDivRow.holds Try.pinned (OpenSpec.ofChange fnExactCnumDivWrong)

/-- 'laws.FnExactCnumSize': WHATEVER THE INPUT: true; the input reads as it did. -/
def fnExactCnumSizeSpec : ChangeSpec := { name := "fnExactCnumSize", fn := fun _ => fun
  | [d] => { results := [.lit (.bool true)], args := [d] }
  | _ => none }
def fnExactCnumSizeRow : OpenClaim := { program := "ythcgffnkpeiddaa", sum := "031d2737983e67a74d6bd09fc64b71db69022f7a046f197c5c23f416107c42cb", func := "loop.example/g00068/laws.FnExactCnumSize", spec := "fnExactCnumSize", apart := false }
def FnExactCnumSizeSaid : Prop := fnExactCnumSizeRow.holds Try.pinned (OpenSpec.ofChange fnExactCnumSizeSpec)

/-- ITS FALSE NEIGHBOUR: 'it returns false'. Refute it at one input. -/
def fnExactCnumSizeWrong : ChangeSpec := { name := "fnExactCnumSize", fn := fun _ => fun
  | [d] => { results := [.lit (.bool false)], args := [d] }
  | _ => none }
def FnExactCnumSizeWrongFalsely : Prop := fnExactCnumSizeRow.holds Try.pinned (OpenSpec.ofChange fnExactCnumSizeWrong)

/-- 'laws.FnCnums': WHATEVER THE INPUT: true; the input reads as it did. -/
def fnCnumsSpec : ChangeSpec := { name := "fnCnums", fn := fun _ => fun
  | [d] => { results := [.lit (.bool true)], args := [d] }
  | _ => none }
def fnCnumsRow : OpenClaim := { program := "ythcgffnkpeiddaa", sum := "031d2737983e67a74d6bd09fc64b71db69022f7a046f197c5c23f416107c42cb", func := "loop.example/g00068/laws.FnCnums", spec := "fnCnums", apart := false }
def FnCnumsSaid : Prop := fnCnumsRow.holds Try.pinned (OpenSpec.ofChange fnCnumsSpec)

/-- ITS FALSE NEIGHBOUR: 'it returns false'. Refute it at one input. -/
def fnCnumsWrong : ChangeSpec := { name := "fnCnums", fn := fun _ => fun
  | [d] => { results := [.lit (.bool false)], args := [d] }
  | _ => none }
def FnCnumsWrongFalsely : Prop := fnCnumsRow.holds Try.pinned (OpenSpec.ofChange fnCnumsWrong)

/- THE SECOND FORM. 'bulk': how many values and letters a reading holds, each counted each time it is reached (what is shared counts as often as it is met; a slice's spare places count too). A statement '..UptoSaid' is the law's where the arguments, and the package variables that the reading takes, are together of bulk at most 1048576: NARROWER than '..Said'. Prove '..Said' where nothing that the law and all that it calls make is longer than what came in: it says more and counts as full. Else prove '..UptoSaid'. A law counts once. -/
mutual
def uptoBulk {H : Type} : DataW H → Nat
  | .lit (.string bytes) => bytes.length + 1
  | .lit _ => 1
  | .nil => 1
  | .ptr d => uptoBulk d + 1
  | .slice elems spare => uptoBulkAll elems + uptoBulkAll spare + 1
  | .agg parts => uptoBulkAll parts + 1
  | .iface _ d => uptoBulk d + 1
  | .map entries => uptoBulkEntries entries + 1
  | .held _ => 1
def uptoBulkAll {H : Type} : List (DataW H) → Nat
  | [] => 0
  | d :: r => uptoBulk d + uptoBulkAll r
def uptoBulkEntries {H : Type} : List (Lit × DataW H) → Nat
  | [] => 0
  | x :: r => uptoBulkEntry x + uptoBulkEntries r
def uptoBulkEntry {H : Type} : Lit × DataW H → Nat
  | (.string bytes, d) => bytes.length + uptoBulk d + 1
  | (_, d) => uptoBulk d + 1
 end
def uptoSmall : (H : Type) → List (DataW H) → Bool := fun _ ds => decide (uptoBulkAll ds ≤ 1048576)
def OpenSpec.upto (s : _root_.Go.ChangeSpec) : _root_.Go.OpenSpec := { _root_.Go.OpenSpec.ofChange s with cond := some uptoSmall }

/-- 'laws.FnExactSurgePeak', WHERE WHAT IT READS IS OF BULK AT MOST 1048576: true; the input reads as it did. -/
def fnExactSurgePeakUptoRow : OpenClaim := { program := "ythcgffnkpeiddaa", sum := "031d2737983e67a74d6bd09fc64b71db69022f7a046f197c5c23f416107c42cb", func := "loop.example/g00068/laws.FnExactSurgePeak", spec := "fnExactSurgePeak", apart := false, narrowed := true }
def FnExactSurgePeakUptoSaid : Prop := fnExactSurgePeakUptoRow.holds Try.pinned (OpenSpec.upto fnExactSurgePeakSpec)

/-- 'laws.FnExactLadderAt', WHERE WHAT IT READS IS OF BULK AT MOST 1048576: true; the input reads as it did. -/
def fnExactLadderAtUptoRow : OpenClaim := { program := "ythcgffnkpeiddaa", sum := "031d2737983e67a74d6bd09fc64b71db69022f7a046f197c5c23f416107c42cb", func := "loop.example/g00068/laws.FnExactLadderAt", spec := "fnExactLadderAt", unfollowed := true, recurses := true, apart := false, narrowed := true }
def FnExactLadderAtUptoSaid : Prop := fnExactLadderAtUptoRow.holds Try.pinned (OpenSpec.upto fnExactLadderAtSpec)

/-- 'laws.FnExactCnumDiv', WHERE WHAT IT READS IS OF BULK AT MOST 1048576: true; the input reads as it did. -/
def fnExactCnumDivUptoRow : OpenClaim := { program := "ythcgffnkpeiddaa", sum := "031d2737983e67a74d6bd09fc64b71db69022f7a046f197c5c23f416107c42cb", func := "loop.example/g00068/laws.FnExactCnumDiv", spec := "fnExactCnumDiv", apart := false, narrowed := true }
def FnExactCnumDivUptoSaid : Prop := fnExactCnumDivUptoRow.holds Try.pinned (OpenSpec.upto fnExactCnumDivSpec)

/-- 'laws.FnExactCnumSize', WHERE WHAT IT READS IS OF BULK AT MOST 1048576: true; the input reads as it did. -/
def fnExactCnumSizeUptoRow : OpenClaim := { program := "ythcgffnkpeiddaa", sum := "031d2737983e67a74d6bd09fc64b71db69022f7a046f197c5c23f416107c42cb", func := "loop.example/g00068/laws.FnExactCnumSize", spec := "fnExactCnumSize", apart := false, narrowed := true }
def FnExactCnumSizeUptoSaid : Prop := fnExactCnumSizeUptoRow.holds Try.pinned (OpenSpec.upto fnExactCnumSizeSpec)

/-- 'laws.FnCnums', WHERE WHAT IT READS IS OF BULK AT MOST 1048576: true; the input reads as it did. -/
def fnCnumsUptoRow : OpenClaim := { program := "ythcgffnkpeiddaa", sum := "031d2737983e67a74d6bd09fc64b71db69022f7a046f197c5c23f416107c42cb", func := "loop.example/g00068/laws.FnCnums", spec := "fnCnums", apart := false, narrowed := true }
def FnCnumsUptoSaid : Prop := fnCnumsUptoRow.holds Try.pinned (OpenSpec.upto fnCnumsSpec)

end Rows
end Go.Proofs.Ythcgffnkpeiddaa
