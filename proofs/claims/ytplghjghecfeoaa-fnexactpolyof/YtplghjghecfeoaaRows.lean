/-
  No cell of these rows narrows 'for every input' (looked for: loops, veiled, ifaces, maps, wideKeys, modest, calm, conditions, laid).
  DERIVED. THE GIVEN ROWS OF THIS SEAT. 7 by the template 'for every input the law returns true; each argument reads behind the call as it read before'; 0 by the template 'total and deterministic' (their statements: YtplghjghecfeoaaTotals.lean).
  GIVEN WITH THE SEED: the statements are not yours to turn. If you find one false, say at which input.
  Laid BY PROGRAM, IN A SANDBOX (cutbox-rows.mjs): the forced cells as the released guide's own fill.sh prints them over the translation e10be6d6281343f6… (all of the seat's roots in one cut). By AI agents, Wed Nov 11 2026. No macro, syntax, notation, axiom, sorry.
-/
import Derived.Test.YtplghjghecfeoaaChecked
import GoSem.Claim
import GoSem.ClaimJoined
import GoSem.ClaimMapViews
import Derived.JoinedTies
import Derived.KernelRfl
namespace Go.Proofs.Ytplghjghecfeoaa
/- THE CELL 'sum', in the pinned program and in every row, IS THE sha256 OF THE DUMP (.gsa) THAT YtplghjghecfeoaaProg.lean LOADS. Nothing in Lean hashes anything: it is a label: what it is worth is what the hold of that sum in a sandbox is worth. -/
noncomputable def Try.pinned : Pinned := { name := "ytplghjghecfeoaa", sum := "e10be6d6281343f62308421370614f734ed6ca243b8dd63b9c00b3e8d11ba8c9", checked := Try.checked }
namespace Rows
def none {H : Type} : Left H := { results := [], args := [] }

/-- 'laws.FnCnums': WHATEVER THE INPUT: true; the input reads as it did. -/
def fnCnumsSpec : ChangeSpec := { name := "fnCnums", fn := fun _ => fun
  | [d] => { results := [.lit (.bool true)], args := [d] }
  | _ => none }
def fnCnumsRow : OpenClaim := { program := "ytplghjghecfeoaa", sum := "e10be6d6281343f62308421370614f734ed6ca243b8dd63b9c00b3e8d11ba8c9", func := "loop.example/g00068/laws.FnCnums", spec := "fnCnums", apart := false }
def FnCnumsSaid : Prop := fnCnumsRow.holds Try.pinned (OpenSpec.ofChange fnCnumsSpec)

/-- ITS FALSE NEIGHBOUR: 'it returns false'. Refute it at one input. -/
def fnCnumsWrong : ChangeSpec := { name := "fnCnums", fn := fun _ => fun
  | [d] => { results := [.lit (.bool false)], args := [d] }
  | _ => none }
def FnCnumsWrongFalsely : Prop := fnCnumsRow.holds Try.pinned (OpenSpec.ofChange fnCnumsWrong)

/-- 'laws.FnExactCnumMul': WHATEVER THE INPUT: true; the input reads as it did. -/
def fnExactCnumMulSpec : ChangeSpec := { name := "fnExactCnumMul", fn := fun _ => fun
  | [d1, d2] => { results := [.lit (.bool true)], args := [d1, d2] }
  | _ => none }
def fnExactCnumMulRow : OpenClaim := { program := "ytplghjghecfeoaa", sum := "e10be6d6281343f62308421370614f734ed6ca243b8dd63b9c00b3e8d11ba8c9", func := "loop.example/g00068/laws.FnExactCnumMul", spec := "fnExactCnumMul", apart := false }
def FnExactCnumMulSaid : Prop := fnExactCnumMulRow.holds Try.pinned (OpenSpec.ofChange fnExactCnumMulSpec)

/-- ITS FALSE NEIGHBOUR: 'it returns false'. Refute it at one input. -/
def fnExactCnumMulWrong : ChangeSpec := { name := "fnExactCnumMul", fn := fun _ => fun
  | [d1, d2] => { results := [.lit (.bool false)], args := [d1, d2] }
  | _ => none }
def FnExactCnumMulWrongFalsely : Prop := fnExactCnumMulRow.holds Try.pinned (OpenSpec.ofChange fnExactCnumMulWrong)

/-- 'laws.FnExactCnumDiv': WHATEVER THE INPUT: true; the input reads as it did. -/
def fnExactCnumDivSpec : ChangeSpec := { name := "fnExactCnumDiv", fn := fun _ => fun
  | [d1, d2] => { results := [.lit (.bool true)], args := [d1, d2] }
  | _ => none }
def fnExactCnumDivRow : OpenClaim := { program := "ytplghjghecfeoaa", sum := "e10be6d6281343f62308421370614f734ed6ca243b8dd63b9c00b3e8d11ba8c9", func := "loop.example/g00068/laws.FnExactCnumDiv", spec := "fnExactCnumDiv", apart := false }
def FnExactCnumDivSaid : Prop := fnExactCnumDivRow.holds Try.pinned (OpenSpec.ofChange fnExactCnumDivSpec)

/-- ITS FALSE NEIGHBOUR: 'it returns false'. Refute it at one input. -/
def fnExactCnumDivWrong : ChangeSpec := { name := "fnExactCnumDiv", fn := fun _ => fun
  | [d1, d2] => { results := [.lit (.bool false)], args := [d1, d2] }
  | _ => none }
def FnExactCnumDivWrongFalsely : Prop := fnExactCnumDivRow.holds Try.pinned (OpenSpec.ofChange fnExactCnumDivWrong)

/-- 'laws.FnExactCnumSize': WHATEVER THE INPUT: true; the input reads as it did. -/
def fnExactCnumSizeSpec : ChangeSpec := { name := "fnExactCnumSize", fn := fun _ => fun
  | [d] => { results := [.lit (.bool true)], args := [d] }
  | _ => none }
def fnExactCnumSizeRow : OpenClaim := { program := "ytplghjghecfeoaa", sum := "e10be6d6281343f62308421370614f734ed6ca243b8dd63b9c00b3e8d11ba8c9", func := "loop.example/g00068/laws.FnExactCnumSize", spec := "fnExactCnumSize", apart := false }
def FnExactCnumSizeSaid : Prop := fnExactCnumSizeRow.holds Try.pinned (OpenSpec.ofChange fnExactCnumSizeSpec)

/-- ITS FALSE NEIGHBOUR: 'it returns false'. Refute it at one input. -/
def fnExactCnumSizeWrong : ChangeSpec := { name := "fnExactCnumSize", fn := fun _ => fun
  | [d] => { results := [.lit (.bool false)], args := [d] }
  | _ => none }
def FnExactCnumSizeWrongFalsely : Prop := fnExactCnumSizeRow.holds Try.pinned (OpenSpec.ofChange fnExactCnumSizeWrong)

/-- 'laws.FnExactPolyAt': WHATEVER THE INPUT: true; the input reads as it did. -/
def fnExactPolyAtSpec : ChangeSpec := { name := "fnExactPolyAt", fn := fun _ => fun
  | [d1, d2] => { results := [.lit (.bool true)], args := [d1, d2] }
  | _ => none }
def fnExactPolyAtRow : OpenClaim := { program := "ytplghjghecfeoaa", sum := "e10be6d6281343f62308421370614f734ed6ca243b8dd63b9c00b3e8d11ba8c9", func := "loop.example/g00068/laws.FnExactPolyAt", spec := "fnExactPolyAt", apart := false }
def FnExactPolyAtSaid : Prop := fnExactPolyAtRow.holds Try.pinned (OpenSpec.ofChange fnExactPolyAtSpec)

/-- ITS FALSE NEIGHBOUR: 'it returns false'. Refute it at one input. -/
def fnExactPolyAtWrong : ChangeSpec := { name := "fnExactPolyAt", fn := fun _ => fun
  | [d1, d2] => { results := [.lit (.bool false)], args := [d1, d2] }
  | _ => none }
def FnExactPolyAtWrongFalsely : Prop := fnExactPolyAtRow.holds Try.pinned (OpenSpec.ofChange fnExactPolyAtWrong)

/-- 'laws.FnExactPolyOf': WHATEVER THE INPUT: true; the input reads as it did. -/
def fnExactPolyOfSpec : ChangeSpec := { name := "fnExactPolyOf", fn := fun _ => fun
  | [d] => { results := [.lit (.bool true)], args := [d] }
  | _ => none }
def fnExactPolyOfRow : OpenClaim := { program := "ytplghjghecfeoaa", sum := "e10be6d6281343f62308421370614f734ed6ca243b8dd63b9c00b3e8d11ba8c9", func := "loop.example/g00068/laws.FnExactPolyOf", spec := "fnExactPolyOf", apart := false }
def FnExactPolyOfSaid : Prop := fnExactPolyOfRow.holds Try.pinned (OpenSpec.ofChange fnExactPolyOfSpec)

/-- ITS FALSE NEIGHBOUR: 'it returns false'. Refute it at one input. -/
def fnExactPolyOfWrong : ChangeSpec := { name := "fnExactPolyOf", fn := fun _ => fun
  | [d] => { results := [.lit (.bool false)], args := [d] }
  | _ => none }
def FnExactPolyOfWrongFalsely : Prop := fnExactPolyOfRow.holds Try.pinned (OpenSpec.ofChange fnExactPolyOfWrong)

/-- 'laws.FnExactPolesTwo': WHATEVER THE INPUT: true; the input reads as it did. -/
def fnExactPolesTwoSpec : ChangeSpec := { name := "fnExactPolesTwo", fn := fun _ => fun
  | [d1, d2] => { results := [.lit (.bool true)], args := [d1, d2] }
  | _ => none }
def fnExactPolesTwoRow : OpenClaim := { program := "ytplghjghecfeoaa", sum := "e10be6d6281343f62308421370614f734ed6ca243b8dd63b9c00b3e8d11ba8c9", func := "loop.example/g00068/laws.FnExactPolesTwo", spec := "fnExactPolesTwo", inPlace := ["math.Float64bits", "math.Float64frombits"], apart := false }
def FnExactPolesTwoSaid : Prop := fnExactPolesTwoRow.holds Try.pinned (OpenSpec.ofChange fnExactPolesTwoSpec)

/-- ITS FALSE NEIGHBOUR: 'it returns false'. Refute it at one input. -/
def fnExactPolesTwoWrong : ChangeSpec := { name := "fnExactPolesTwo", fn := fun _ => fun
  | [d1, d2] => { results := [.lit (.bool false)], args := [d1, d2] }
  | _ => none }
def FnExactPolesTwoWrongFalsely : Prop := fnExactPolesTwoRow.holds Try.pinned (OpenSpec.ofChange fnExactPolesTwoWrong)

/- THE SECOND FORM. 'bulk': how many values and letters a reading holds, each counted each time it is reached (what is shared counts as often as it is met; a slice's spare places count too). A statement '..UptoSaid' is the law's where the arguments, and the package variables that the reading takes, are together of bulk at most 1048576: NARROWER than '..Said'. Prove '..Said' where nothing that the law and all that it calls make is longer than what came in: it says more and counts as full. Else prove '..UptoSaid'. A law counts once. -/
mutual
def uptoBulk {H : Type} : DataW H → Nat
  | .lit (.string bytes) => bytes.length + 1
  | .lit _ => 1
  | .nil => 1
  | .ptr d => uptoBulk d + 1
  | .slice elems spare => uptoBulkAll elems + uptoBulkAll spare + 1
  | .agg parts => uptoBulkAll parts + 1
  | .iface _ d => uptoBulk d + 1
  | .map entries => uptoBulkEntries entries + 1
  | .held _ => 1
def uptoBulkAll {H : Type} : List (DataW H) → Nat
  | [] => 0
  | d :: r => uptoBulk d + uptoBulkAll r
def uptoBulkEntries {H : Type} : List (Lit × DataW H) → Nat
  | [] => 0
  | x :: r => uptoBulkEntry x + uptoBulkEntries r
def uptoBulkEntry {H : Type} : Lit × DataW H → Nat
  | (.string bytes, d) => bytes.length + uptoBulk d + 1
  | (_, d) => uptoBulk d + 1
 end
def uptoSmall : (H : Type) → List (DataW H) → Bool := fun _ ds => decide (uptoBulkAll ds ≤ 1048576)
def OpenSpec.upto (s : _root_.Go.ChangeSpec) : _root_.Go.OpenSpec := { _root_.Go.OpenSpec.ofChange s with cond := some uptoSmall }

/-- 'laws.FnCnums', WHERE WHAT IT READS IS OF BULK AT MOST 1048576: true; the input reads as it did. -/
def fnCnumsUptoRow : OpenClaim := { program := "ytplghjghecfeoaa", sum := "e10be6d6281343f62308421370614f734ed6ca243b8dd63b9c00b3e8d11ba8c9", func := "loop.example/g00068/laws.FnCnums", spec := "fnCnums", apart := false, narrowed := true }
def FnCnumsUptoSaid : Prop := fnCnumsUptoRow.holds Try.pinned (OpenSpec.upto fnCnumsSpec)

/-- 'laws.FnExactCnumMul', WHERE WHAT IT READS IS OF BULK AT MOST 1048576: true; the input reads as it did. -/
def fnExactCnumMulUptoRow : OpenClaim := { program := "ytplghjghecfeoaa", sum := "e10be6d6281343f62308421370614f734ed6ca243b8dd63b9c00b3e8d11ba8c9", func := "loop.example/g00068/laws.FnExactCnumMul", spec := "fnExactCnumMul", apart := false, narrowed := true }
def FnExactCnumMulUptoSaid : Prop := fnExactCnumMulUptoRow.holds Try.pinned (OpenSpec.upto fnExactCnumMulSpec)

/-- 'laws.FnExactCnumDiv', WHERE WHAT IT READS IS OF BULK AT MOST 1048576: true; the input reads as it did. -/
def fnExactCnumDivUptoRow : OpenClaim := { program := "ytplghjghecfeoaa", sum := "e10be6d6281343f62308421370614f734ed6ca243b8dd63b9c00b3e8d11ba8c9", func := "loop.example/g00068/laws.FnExactCnumDiv", spec := "fnExactCnumDiv", apart := false, narrowed := true }
def FnExactCnumDivUptoSaid : Prop := fnExactCnumDivUptoRow.holds Try.pinned (OpenSpec.upto fnExactCnumDivSpec)

/-- 'laws.FnExactCnumSize', WHERE WHAT IT READS IS OF BULK AT MOST 1048576: true; the input reads as it did. -/
def fnExactCnumSizeUptoRow : OpenClaim := { program := "ytplghjghecfeoaa", sum := "e10be6d6281343f62308421370614f734ed6ca243b8dd63b9c00b3e8d11ba8c9", func := "loop.example/g00068/laws.FnExactCnumSize", spec := "fnExactCnumSize", apart := false, narrowed := true }
def FnExactCnumSizeUptoSaid : Prop := fnExactCnumSizeUptoRow.holds Try.pinned (OpenSpec.upto fnExactCnumSizeSpec)

/-- 'laws.FnExactPolyAt', WHERE WHAT IT READS IS OF BULK AT MOST 1048576: true; the input reads as it did. -/
def fnExactPolyAtUptoRow : OpenClaim := { program := "ytplghjghecfeoaa", sum := "e10be6d6281343f62308421370614f734ed6ca243b8dd63b9c00b3e8d11ba8c9", func := "loop.example/g00068/laws.FnExactPolyAt", spec := "fnExactPolyAt", apart := false, narrowed := true }
def FnExactPolyAtUptoSaid : Prop := fnExactPolyAtUptoRow.holds Try.pinned (OpenSpec.upto fnExactPolyAtSpec)

/-- 'laws.FnExactPolyOf', WHERE WHAT IT READS IS OF BULK AT MOST 1048576: true; the input reads as it did. -/
def fnExactPolyOfUptoRow : OpenClaim := { program := "ytplghjghecfeoaa", sum := "e10be6d6281343f62308421370614f734ed6ca243b8dd63b9c00b3e8d11ba8c9", func := "loop.example/g00068/laws.FnExactPolyOf", spec := "fnExactPolyOf", apart := false, narrowed := true }
def FnExactPolyOfUptoSaid : Prop := fnExactPolyOfUptoRow.holds Try.pinned (OpenSpec.upto fnExactPolyOfSpec)

/-- 'laws.FnExactPolesTwo', WHERE WHAT IT READS IS OF BULK AT MOST 1048576: true; the input reads as it did. -/
def fnExactPolesTwoUptoRow : OpenClaim := { program := "ytplghjghecfeoaa", sum := "e10be6d6281343f62308421370614f734ed6ca243b8dd63b9c00b3e8d11ba8c9", func := "loop.example/g00068/laws.FnExactPolesTwo", spec := "fnExactPolesTwo", inPlace := ["math.Float64bits", "math.Float64frombits"], apart := false, narrowed := true }
def FnExactPolesTwoUptoSaid : Prop := fnExactPolesTwoUptoRow.holds Try.pinned (OpenSpec.upto fnExactPolesTwoSpec)

end Rows
end Go.Proofs.Ytplghjghecfeoaa
