/-
  NARROWER THAN 'FOR EVERY INPUT', by the rows' own cells (each row's printed sentence says how): FnExactRiverStep: laid · FnExactRiverShort: laid · FnRiverLeast: laid · FnRiverAbove: laid · FnRiverBook: laid · FnExactStoreRun: laid · FnStoreBook: laid · FnYield: laid · FnExactDistrictBook: laid.
  DERIVED. THE GIVEN ROWS OF THIS SEAT. 9 by the template 'for every input the law returns true; each argument reads behind the call as it read before'; 0 by the template 'total and deterministic' (their statements: YtdpghhmcibiplaaDoorTotals.lean).
  GIVEN WITH THE SEED: the statements are not yours to turn. If you find one false, say at which input.
  Laid BY PROGRAM, IN A SANDBOX (cutbox-rows.mjs): the forced cells as the released guide's own fill.sh prints them over the translation b8349d8c013194ca… (all of the seat's roots in one cut). By AI agents, Wed Nov 11 2026. No macro, syntax, notation, axiom, sorry.
-/
import Derived.Test.YtdpghhmcibiplaaDoorChecked
import GoSem.Claim
import GoSem.ClaimJoined
import GoSem.ClaimMapViews
import Derived.JoinedTies
import Derived.KernelRfl
namespace Go.Proofs.YtdpghhmcibiplaaDoor
/- THE CELL 'sum', in the pinned program and in every row, IS THE sha256 OF THE DUMP (.gsa) THAT YtdpghhmcibiplaaDoorProg.lean LOADS. Nothing in Lean hashes anything: it is a label: what it is worth is what the hold of that sum in a sandbox is worth. -/
noncomputable def Tryd.pinned : Pinned := { name := "ytdpghhmcibiplaadoor", sum := "b8349d8c013194caa090f4a737c3bcf5f1b96f3b4851bdfa4ac72ef095ad6bc1", checked := Tryd.checked }
namespace Rows
def none {H : Type} : Left H := { results := [], args := [] }

/- WHAT THE LISTED PACKAGE-LEVEL VARIABLES READ AS WHEN THE CALL BEGINS. Each datum BY PROGRAM (the guide's laid-datum.mjs) off the statement by which the dump's own 'gosem.cut.vars' lays the variable. In a bare row this is a premise. The card (YtdpghhmcibiplaaDoorCards.lean) ties it to the program's text. -/
def laid_math_bits_deBruijn32tab {H : Type} : DataW H := .agg [.lit (.int .u8 0), .lit (.int .u8 1), .lit (.int .u8 28), .lit (.int .u8 2), .lit (.int .u8 29), .lit (.int .u8 14), .lit (.int .u8 24), .lit (.int .u8 3), .lit (.int .u8 30), .lit (.int .u8 22), .lit (.int .u8 20), .lit (.int .u8 15), .lit (.int .u8 25), .lit (.int .u8 17), .lit (.int .u8 4), .lit (.int .u8 8), .lit (.int .u8 31), .lit (.int .u8 27), .lit (.int .u8 13), .lit (.int .u8 23), .lit (.int .u8 21), .lit (.int .u8 19), .lit (.int .u8 16), .lit (.int .u8 7), .lit (.int .u8 26), .lit (.int .u8 12), .lit (.int .u8 18), .lit (.int .u8 6), .lit (.int .u8 11), .lit (.int .u8 5), .lit (.int .u8 10), .lit (.int .u8 9)]
def laid_math_bits_deBruijn64tab {H : Type} : DataW H := .agg [.lit (.int .u8 0), .lit (.int .u8 1), .lit (.int .u8 56), .lit (.int .u8 2), .lit (.int .u8 57), .lit (.int .u8 49), .lit (.int .u8 28), .lit (.int .u8 3), .lit (.int .u8 61), .lit (.int .u8 58), .lit (.int .u8 42), .lit (.int .u8 50), .lit (.int .u8 38), .lit (.int .u8 29), .lit (.int .u8 17), .lit (.int .u8 4), .lit (.int .u8 62), .lit (.int .u8 47), .lit (.int .u8 59), .lit (.int .u8 36), .lit (.int .u8 45), .lit (.int .u8 43), .lit (.int .u8 51), .lit (.int .u8 22), .lit (.int .u8 53), .lit (.int .u8 39), .lit (.int .u8 33), .lit (.int .u8 30), .lit (.int .u8 24), .lit (.int .u8 18), .lit (.int .u8 12), .lit (.int .u8 5), .lit (.int .u8 63), .lit (.int .u8 55), .lit (.int .u8 48), .lit (.int .u8 27), .lit (.int .u8 60), .lit (.int .u8 41), .lit (.int .u8 37), .lit (.int .u8 16), .lit (.int .u8 46), .lit (.int .u8 35), .lit (.int .u8 44), .lit (.int .u8 21), .lit (.int .u8 52), .lit (.int .u8 32), .lit (.int .u8 23), .lit (.int .u8 11), .lit (.int .u8 54), .lit (.int .u8 26), .lit (.int .u8 40), .lit (.int .u8 15), .lit (.int .u8 34), .lit (.int .u8 20), .lit (.int .u8 31), .lit (.int .u8 10), .lit (.int .u8 25), .lit (.int .u8 14), .lit (.int .u8 19), .lit (.int .u8 9), .lit (.int .u8 13), .lit (.int .u8 8), .lit (.int .u8 7), .lit (.int .u8 6)]
def laid_internal_strconv_uint64pow10 {H : Type} : DataW H := .agg [.lit (.int .u64 1), .lit (.int .u64 10), .lit (.int .u64 100), .lit (.int .u64 1000), .lit (.int .u64 10000), .lit (.int .u64 100000), .lit (.int .u64 1000000), .lit (.int .u64 10000000), .lit (.int .u64 100000000), .lit (.int .u64 1000000000), .lit (.int .u64 10000000000), .lit (.int .u64 100000000000), .lit (.int .u64 1000000000000), .lit (.int .u64 10000000000000), .lit (.int .u64 100000000000000), .lit (.int .u64 1000000000000000), .lit (.int .u64 10000000000000000), .lit (.int .u64 100000000000000000), .lit (.int .u64 1000000000000000000), .lit (.int .u64 10000000000000000000)]
def laid_errors_errorType {H : Type} : DataW H := .iface "internal/reflectlite.rtype" (.agg [.ptr (.lit (.string [101, 114, 114, 111, 114]))])

/-- 'laws.FnExactRiverStep': WHATEVER THE INPUT: true; the input reads as it did. -/
def fnExactRiverStepSpec : ChangeSpec := { name := "fnExactRiverStep", fn := fun _ => fun
  | [d1, d2] => { results := [.lit (.bool true)], args := [d1, d2] }
  | _ => none }
def fnExactRiverStepRow : OpenClaim := { program := "ytdpghhmcibiplaadoor", sum := "b8349d8c013194caa090f4a737c3bcf5f1b96f3b4851bdfa4ac72ef095ad6bc1", func := "loop.example/g00068/laws.FnExactRiverStep", spec := "fnExactRiverStep", inPlace := ["internal/reflectlite.ValueOf", "(internal/reflectlite.Value).Type", "(internal/reflectlite.Value).IsNil", "internal/reflectlite.TypeOf", "(internal/reflectlite.Value).Elem", "(internal/reflectlite.Value).Set"], unfollowed := true, recurses := true, named := ["errors.errorType", "internal/strconv.uint64pow10", "math/bits.deBruijn32tab", "math/bits.deBruijn64tab"], apart := false, laid := [("math/bits.deBruijn32tab", laid_math_bits_deBruijn32tab), ("math/bits.deBruijn64tab", laid_math_bits_deBruijn64tab), ("internal/strconv.uint64pow10", laid_internal_strconv_uint64pow10), ("errors.errorType", laid_errors_errorType)] }
def FnExactRiverStepSaid : Prop := fnExactRiverStepRow.holds Tryd.pinned (OpenSpec.ofChange fnExactRiverStepSpec)

/-- ITS FALSE NEIGHBOUR: 'it returns false'. Refute it at one input. -/
def fnExactRiverStepWrong : ChangeSpec := { name := "fnExactRiverStep", fn := fun _ => fun
  | [d1, d2] => { results := [.lit (.bool false)], args := [d1, d2] }
  | _ => none }
def FnExactRiverStepWrongFalsely : Prop := fnExactRiverStepRow.holds Tryd.pinned (OpenSpec.ofChange fnExactRiverStepWrong)

/-- 'laws.FnExactRiverShort': WHATEVER THE INPUT: true; the input reads as it did. -/
def fnExactRiverShortSpec : ChangeSpec := { name := "fnExactRiverShort", fn := fun _ => fun
  | [d1, d2] => { results := [.lit (.bool true)], args := [d1, d2] }
  | _ => none }
def fnExactRiverShortRow : OpenClaim := { program := "ytdpghhmcibiplaadoor", sum := "b8349d8c013194caa090f4a737c3bcf5f1b96f3b4851bdfa4ac72ef095ad6bc1", func := "loop.example/g00068/laws.FnExactRiverShort", spec := "fnExactRiverShort", inPlace := ["internal/reflectlite.ValueOf", "(internal/reflectlite.Value).Type", "(internal/reflectlite.Value).IsNil", "internal/reflectlite.TypeOf", "(internal/reflectlite.Value).Elem", "(internal/reflectlite.Value).Set"], unfollowed := true, recurses := true, named := ["errors.errorType", "internal/strconv.uint64pow10", "math/bits.deBruijn32tab", "math/bits.deBruijn64tab"], apart := false, laid := [("math/bits.deBruijn32tab", laid_math_bits_deBruijn32tab), ("math/bits.deBruijn64tab", laid_math_bits_deBruijn64tab), ("internal/strconv.uint64pow10", laid_internal_strconv_uint64pow10), ("errors.errorType", laid_errors_errorType)] }
def FnExactRiverShortSaid : Prop := fnExactRiverShortRow.holds Tryd.pinned (OpenSpec.ofChange fnExactRiverShortSpec)

/-- ITS FALSE NEIGHBOUR: 'it returns false'. Refute it at one input. -/
def fnExactRiverShortWrong : ChangeSpec := { name := "fnExactRiverShort", fn := fun _ => fun
  | [d1, d2] => { results := [.lit (.bool false)], args := [d1, d2] }
  | _ => none }
def FnExactRiverShortWrongFalsely : Prop := fnExactRiverShortRow.holds Tryd.pinned (OpenSpec.ofChange fnExactRiverShortWrong)

/-- 'laws.FnRiverLeast': WHATEVER THE INPUT: true; the input reads as it did. -/
def fnRiverLeastSpec : ChangeSpec := { name := "fnRiverLeast", fn := fun _ => fun
  | [d] => { results := [.lit (.bool true)], args := [d] }
  | _ => none }
def fnRiverLeastRow : OpenClaim := { program := "ytdpghhmcibiplaadoor", sum := "b8349d8c013194caa090f4a737c3bcf5f1b96f3b4851bdfa4ac72ef095ad6bc1", func := "loop.example/g00068/laws.FnRiverLeast", spec := "fnRiverLeast", inPlace := ["internal/reflectlite.ValueOf", "(internal/reflectlite.Value).Type", "(internal/reflectlite.Value).IsNil", "internal/reflectlite.TypeOf", "(internal/reflectlite.Value).Elem", "(internal/reflectlite.Value).Set"], unfollowed := true, recurses := true, named := ["errors.errorType", "internal/strconv.uint64pow10", "math/bits.deBruijn32tab", "math/bits.deBruijn64tab"], apart := false, laid := [("math/bits.deBruijn32tab", laid_math_bits_deBruijn32tab), ("math/bits.deBruijn64tab", laid_math_bits_deBruijn64tab), ("internal/strconv.uint64pow10", laid_internal_strconv_uint64pow10), ("errors.errorType", laid_errors_errorType)] }
def FnRiverLeastSaid : Prop := fnRiverLeastRow.holds Tryd.pinned (OpenSpec.ofChange fnRiverLeastSpec)

/-- ITS FALSE NEIGHBOUR: 'it returns false'. Refute it at one input. -/
def fnRiverLeastWrong : ChangeSpec := { name := "fnRiverLeast", fn := fun _ => fun
  | [d] => { results := [.lit (.bool false)], args := [d] }
  | _ => none }
def FnRiverLeastWrongFalsely : Prop := fnRiverLeastRow.holds Tryd.pinned (OpenSpec.ofChange fnRiverLeastWrong)

/-- 'laws.FnRiverAbove': WHATEVER THE INPUT: true; the input reads as it did. -/
def fnRiverAboveSpec : ChangeSpec := { name := "fnRiverAbove", fn := fun _ => fun
  | [d1, d2] => { results := [.lit (.bool true)], args := [d1, d2] }
  | _ => none }
def fnRiverAboveRow : OpenClaim := { program := "ytdpghhmcibiplaadoor", sum := "b8349d8c013194caa090f4a737c3bcf5f1b96f3b4851bdfa4ac72ef095ad6bc1", func := "loop.example/g00068/laws.FnRiverAbove", spec := "fnRiverAbove", inPlace := ["internal/reflectlite.ValueOf", "(internal/reflectlite.Value).Type", "(internal/reflectlite.Value).IsNil", "internal/reflectlite.TypeOf", "(internal/reflectlite.Value).Elem", "(internal/reflectlite.Value).Set"], unfollowed := true, recurses := true, named := ["errors.errorType", "internal/strconv.uint64pow10", "math/bits.deBruijn32tab", "math/bits.deBruijn64tab"], apart := false, laid := [("math/bits.deBruijn32tab", laid_math_bits_deBruijn32tab), ("math/bits.deBruijn64tab", laid_math_bits_deBruijn64tab), ("internal/strconv.uint64pow10", laid_internal_strconv_uint64pow10), ("errors.errorType", laid_errors_errorType)] }
def FnRiverAboveSaid : Prop := fnRiverAboveRow.holds Tryd.pinned (OpenSpec.ofChange fnRiverAboveSpec)

/-- ITS FALSE NEIGHBOUR: 'it returns false'. Refute it at one input. -/
def fnRiverAboveWrong : ChangeSpec := { name := "fnRiverAbove", fn := fun _ => fun
  | [d1, d2] => { results := [.lit (.bool false)], args := [d1, d2] }
  | _ => none }
def FnRiverAboveWrongFalsely : Prop := fnRiverAboveRow.holds Tryd.pinned (OpenSpec.ofChange fnRiverAboveWrong)

/-- 'laws.FnRiverBook': WHATEVER THE INPUT: true; the input reads as it did. -/
def fnRiverBookSpec : ChangeSpec := { name := "fnRiverBook", fn := fun _ => fun
  | [d] => { results := [.lit (.bool true)], args := [d] }
  | _ => none }
def fnRiverBookRow : OpenClaim := { program := "ytdpghhmcibiplaadoor", sum := "b8349d8c013194caa090f4a737c3bcf5f1b96f3b4851bdfa4ac72ef095ad6bc1", func := "loop.example/g00068/laws.FnRiverBook", spec := "fnRiverBook", inPlace := ["internal/reflectlite.ValueOf", "(internal/reflectlite.Value).Type", "(internal/reflectlite.Value).IsNil", "internal/reflectlite.TypeOf", "(internal/reflectlite.Value).Elem", "(internal/reflectlite.Value).Set"], unfollowed := true, recurses := true, named := ["errors.errorType", "internal/strconv.uint64pow10", "math/bits.deBruijn32tab", "math/bits.deBruijn64tab"], apart := false, laid := [("math/bits.deBruijn32tab", laid_math_bits_deBruijn32tab), ("math/bits.deBruijn64tab", laid_math_bits_deBruijn64tab), ("internal/strconv.uint64pow10", laid_internal_strconv_uint64pow10), ("errors.errorType", laid_errors_errorType)] }
def FnRiverBookSaid : Prop := fnRiverBookRow.holds Tryd.pinned (OpenSpec.ofChange fnRiverBookSpec)

/-- ITS FALSE NEIGHBOUR: 'it returns false'. Refute it at one input. -/
def fnRiverBookWrong : ChangeSpec := { name := "fnRiverBook", fn := fun _ => fun
  | [d] => { results := [.lit (.bool false)], args := [d] }
  | _ => none }
def FnRiverBookWrongFalsely : Prop := fnRiverBookRow.holds Tryd.pinned (OpenSpec.ofChange fnRiverBookWrong)

/-- 'laws.FnExactStoreRun': WHATEVER THE INPUT: true; the input reads as it did. -/
def fnExactStoreRunSpec : ChangeSpec := { name := "fnExactStoreRun", fn := fun _ => fun
  | [d1, d2, d3] => { results := [.lit (.bool true)], args := [d1, d2, d3] }
  | _ => none }
def fnExactStoreRunRow : OpenClaim := { program := "ytdpghhmcibiplaadoor", sum := "b8349d8c013194caa090f4a737c3bcf5f1b96f3b4851bdfa4ac72ef095ad6bc1", func := "loop.example/g00068/laws.FnExactStoreRun", spec := "fnExactStoreRun", inPlace := ["internal/reflectlite.ValueOf", "(internal/reflectlite.Value).Type", "(internal/reflectlite.Value).IsNil", "internal/reflectlite.TypeOf", "(internal/reflectlite.Value).Elem", "(internal/reflectlite.Value).Set"], unfollowed := true, recurses := true, named := ["errors.errorType", "internal/strconv.uint64pow10", "math/bits.deBruijn32tab", "math/bits.deBruijn64tab"], apart := false, laid := [("math/bits.deBruijn32tab", laid_math_bits_deBruijn32tab), ("math/bits.deBruijn64tab", laid_math_bits_deBruijn64tab), ("internal/strconv.uint64pow10", laid_internal_strconv_uint64pow10), ("errors.errorType", laid_errors_errorType)] }
def FnExactStoreRunSaid : Prop := fnExactStoreRunRow.holds Tryd.pinned (OpenSpec.ofChange fnExactStoreRunSpec)

/-- ITS FALSE NEIGHBOUR: 'it returns false'. Refute it at one input. -/
def fnExactStoreRunWrong : ChangeSpec := { name := "fnExactStoreRun", fn := fun _ => fun
  | [d1, d2, d3] => { results := [.lit (.bool false)], args := [d1, d2, d3] }
  | _ => none }
def FnExactStoreRunWrongFalsely : Prop := fnExactStoreRunRow.holds Tryd.pinned (OpenSpec.ofChange fnExactStoreRunWrong)

/-- 'laws.FnStoreBook': WHATEVER THE INPUT: true; the input reads as it did. -/
def fnStoreBookSpec : ChangeSpec := { name := "fnStoreBook", fn := fun _ => fun
  | [d] => { results := [.lit (.bool true)], args := [d] }
  | _ => none }
def fnStoreBookRow : OpenClaim := { program := "ytdpghhmcibiplaadoor", sum := "b8349d8c013194caa090f4a737c3bcf5f1b96f3b4851bdfa4ac72ef095ad6bc1", func := "loop.example/g00068/laws.FnStoreBook", spec := "fnStoreBook", inPlace := ["internal/reflectlite.ValueOf", "(internal/reflectlite.Value).Type", "(internal/reflectlite.Value).IsNil", "internal/reflectlite.TypeOf", "(internal/reflectlite.Value).Elem", "(internal/reflectlite.Value).Set"], unfollowed := true, recurses := true, named := ["errors.errorType", "internal/strconv.uint64pow10", "math/bits.deBruijn32tab", "math/bits.deBruijn64tab"], apart := false, laid := [("math/bits.deBruijn32tab", laid_math_bits_deBruijn32tab), ("math/bits.deBruijn64tab", laid_math_bits_deBruijn64tab), ("internal/strconv.uint64pow10", laid_internal_strconv_uint64pow10), ("errors.errorType", laid_errors_errorType)] }
def FnStoreBookSaid : Prop := fnStoreBookRow.holds Tryd.pinned (OpenSpec.ofChange fnStoreBookSpec)

/-- ITS FALSE NEIGHBOUR: 'it returns false'. Refute it at one input. -/
def fnStoreBookWrong : ChangeSpec := { name := "fnStoreBook", fn := fun _ => fun
  | [d] => { results := [.lit (.bool false)], args := [d] }
  | _ => none }
def FnStoreBookWrongFalsely : Prop := fnStoreBookRow.holds Tryd.pinned (OpenSpec.ofChange fnStoreBookWrong)

/-- 'laws.FnYield': WHATEVER THE INPUT: true; the input reads as it did. -/
def fnYieldSpec : ChangeSpec := { name := "fnYield", fn := fun _ => fun
  | [d] => { results := [.lit (.bool true)], args := [d] }
  | _ => none }
def fnYieldRow : OpenClaim := { program := "ytdpghhmcibiplaadoor", sum := "b8349d8c013194caa090f4a737c3bcf5f1b96f3b4851bdfa4ac72ef095ad6bc1", func := "loop.example/g00068/laws.FnYield", spec := "fnYield", inPlace := ["internal/reflectlite.ValueOf", "(internal/reflectlite.Value).Type", "(internal/reflectlite.Value).IsNil", "internal/reflectlite.TypeOf", "(internal/reflectlite.Value).Elem", "(internal/reflectlite.Value).Set"], unfollowed := true, recurses := true, named := ["errors.errorType", "internal/strconv.uint64pow10", "math/bits.deBruijn32tab", "math/bits.deBruijn64tab"], apart := false, laid := [("math/bits.deBruijn32tab", laid_math_bits_deBruijn32tab), ("math/bits.deBruijn64tab", laid_math_bits_deBruijn64tab), ("internal/strconv.uint64pow10", laid_internal_strconv_uint64pow10), ("errors.errorType", laid_errors_errorType)] }
def FnYieldSaid : Prop := fnYieldRow.holds Tryd.pinned (OpenSpec.ofChange fnYieldSpec)

/-- ITS FALSE NEIGHBOUR: 'it returns false'. Refute it at one input. -/
def fnYieldWrong : ChangeSpec := { name := "fnYield", fn := fun _ => fun
  | [d] => { results := [.lit (.bool false)], args := [d] }
  | _ => none }
def FnYieldWrongFalsely : Prop := fnYieldRow.holds Tryd.pinned (OpenSpec.ofChange fnYieldWrong)

/-- 'laws.FnExactDistrictBook': WHATEVER THE INPUT: true; the input reads as it did. -/
def fnExactDistrictBookSpec : ChangeSpec := { name := "fnExactDistrictBook", fn := fun _ => fun
  | [d] => { results := [.lit (.bool true)], args := [d] }
  | _ => none }
def fnExactDistrictBookRow : OpenClaim := { program := "ytdpghhmcibiplaadoor", sum := "b8349d8c013194caa090f4a737c3bcf5f1b96f3b4851bdfa4ac72ef095ad6bc1", func := "loop.example/g00068/laws.FnExactDistrictBook", spec := "fnExactDistrictBook", inPlace := ["internal/reflectlite.ValueOf", "(internal/reflectlite.Value).Type", "(internal/reflectlite.Value).IsNil", "internal/reflectlite.TypeOf", "(internal/reflectlite.Value).Elem", "(internal/reflectlite.Value).Set"], unfollowed := true, recurses := true, named := ["errors.errorType"], apart := false, laid := [("errors.errorType", laid_errors_errorType)] }
def FnExactDistrictBookSaid : Prop := fnExactDistrictBookRow.holds Tryd.pinned (OpenSpec.ofChange fnExactDistrictBookSpec)

/-- ITS FALSE NEIGHBOUR: 'it returns false'. Refute it at one input. -/
def fnExactDistrictBookWrong : ChangeSpec := { name := "fnExactDistrictBook", fn := fun _ => fun
  | [d] => { results := [.lit (.bool false)], args := [d] }
  | _ => none }
def FnExactDistrictBookWrongFalsely : Prop := fnExactDistrictBookRow.holds Tryd.pinned (OpenSpec.ofChange fnExactDistrictBookWrong)

/- THE SECOND FORM. 'bulk': how many values and letters a reading holds, each counted each time it is reached (what is shared counts as often as it is met; a slice's spare places count too). A statement '..UptoSaid' is the law's where the arguments, and the package variables that the reading takes, are together of bulk at most 1048576: NARROWER than '..Said'. Prove '..Said' where nothing that the law and all that it calls make is longer than what came in: it says more and counts as full. Else prove '..UptoSaid'. A law counts once. -/
mutual
def uptoBulk {H : Type} : DataW H → Nat
  | .lit (.string bytes) => bytes.length + 1
  | .lit _ => 1
  | .nil => 1
  | .ptr d => uptoBulk d + 1
  | .slice elems spare => uptoBulkAll elems + uptoBulkAll spare + 1
  | .agg parts => uptoBulkAll parts + 1
  | .iface _ d => uptoBulk d + 1
  | .map entries => uptoBulkEntries entries + 1
  | .held _ => 1
def uptoBulkAll {H : Type} : List (DataW H) → Nat
  | [] => 0
  | d :: r => uptoBulk d + uptoBulkAll r
def uptoBulkEntries {H : Type} : List (Lit × DataW H) → Nat
  | [] => 0
  | x :: r => uptoBulkEntry x + uptoBulkEntries r
def uptoBulkEntry {H : Type} : Lit × DataW H → Nat
  | (.string bytes, d) => bytes.length + uptoBulk d + 1
  | (_, d) => uptoBulk d + 1
 end
def uptoSmall : (H : Type) → List (DataW H) → Bool := fun _ ds => decide (uptoBulkAll ds ≤ 1048576)
def OpenSpec.upto (s : _root_.Go.ChangeSpec) : _root_.Go.OpenSpec := { _root_.Go.OpenSpec.ofChange s with cond := some uptoSmall }

/-- 'laws.FnExactRiverStep', WHERE WHAT IT READS IS OF BULK AT MOST 1048576: true; the input reads as it did. -/
def fnExactRiverStepUptoRow : OpenClaim := { program := "ytdpghhmcibiplaadoor", sum := "b8349d8c013194caa090f4a737c3bcf5f1b96f3b4851bdfa4ac72ef095ad6bc1", func := "loop.example/g00068/laws.FnExactRiverStep", spec := "fnExactRiverStep", inPlace := ["internal/reflectlite.ValueOf", "(internal/reflectlite.Value).Type", "(internal/reflectlite.Value).IsNil", "internal/reflectlite.TypeOf", "(internal/reflectlite.Value).Elem", "(internal/reflectlite.Value).Set"], unfollowed := true, recurses := true, named := ["errors.errorType", "internal/strconv.uint64pow10", "math/bits.deBruijn32tab", "math/bits.deBruijn64tab"], apart := false, laid := [("math/bits.deBruijn32tab", laid_math_bits_deBruijn32tab), ("math/bits.deBruijn64tab", laid_math_bits_deBruijn64tab), ("internal/strconv.uint64pow10", laid_internal_strconv_uint64pow10), ("errors.errorType", laid_errors_errorType)], narrowed := true }
def FnExactRiverStepUptoSaid : Prop := fnExactRiverStepUptoRow.holds Tryd.pinned (OpenSpec.upto fnExactRiverStepSpec)

/-- 'laws.FnExactRiverShort', WHERE WHAT IT READS IS OF BULK AT MOST 1048576: true; the input reads as it did. -/
def fnExactRiverShortUptoRow : OpenClaim := { program := "ytdpghhmcibiplaadoor", sum := "b8349d8c013194caa090f4a737c3bcf5f1b96f3b4851bdfa4ac72ef095ad6bc1", func := "loop.example/g00068/laws.FnExactRiverShort", spec := "fnExactRiverShort", inPlace := ["internal/reflectlite.ValueOf", "(internal/reflectlite.Value).Type", "(internal/reflectlite.Value).IsNil", "internal/reflectlite.TypeOf", "(internal/reflectlite.Value).Elem", "(internal/reflectlite.Value).Set"], unfollowed := true, recurses := true, named := ["errors.errorType", "internal/strconv.uint64pow10", "math/bits.deBruijn32tab", "math/bits.deBruijn64tab"], apart := false, laid := [("math/bits.deBruijn32tab", laid_math_bits_deBruijn32tab), ("math/bits.deBruijn64tab", laid_math_bits_deBruijn64tab), ("internal/strconv.uint64pow10", laid_internal_strconv_uint64pow10), ("errors.errorType", laid_errors_errorType)], narrowed := true }
def FnExactRiverShortUptoSaid : Prop := fnExactRiverShortUptoRow.holds Tryd.pinned (OpenSpec.upto fnExactRiverShortSpec)

/-- 'laws.FnRiverLeast', WHERE WHAT IT READS IS OF BULK AT MOST 1048576: true; the input reads as it did. -/
def fnRiverLeastUptoRow : OpenClaim := { program := "ytdpghhmcibiplaadoor", sum := "b8349d8c013194caa090f4a737c3bcf5f1b96f3b4851bdfa4ac72ef095ad6bc1", func := "loop.example/g00068/laws.FnRiverLeast", spec := "fnRiverLeast", inPlace := ["internal/reflectlite.ValueOf", "(internal/reflectlite.Value).Type", "(internal/reflectlite.Value).IsNil", "internal/reflectlite.TypeOf", "(internal/reflectlite.Value).Elem", "(internal/reflectlite.Value).Set"], unfollowed := true, recurses := true, named := ["errors.errorType", "internal/strconv.uint64pow10", "math/bits.deBruijn32tab", "math/bits.deBruijn64tab"], apart := false, laid := [("math/bits.deBruijn32tab", laid_math_bits_deBruijn32tab), ("math/bits.deBruijn64tab", laid_math_bits_deBruijn64tab), ("internal/strconv.uint64pow10", laid_internal_strconv_uint64pow10), ("errors.errorType", laid_errors_errorType)], narrowed := true }
def FnRiverLeastUptoSaid : Prop := fnRiverLeastUptoRow.holds Tryd.pinned (OpenSpec.upto fnRiverLeastSpec)

/-- 'laws.FnRiverAbove', WHERE WHAT IT READS IS OF BULK AT MOST 1048576: true; the input reads as it did. -/
def fnRiverAboveUptoRow : OpenClaim := { program := "ytdpghhmcibiplaadoor", sum := "b8349d8c013194caa090f4a737c3bcf5f1b96f3b4851bdfa4ac72ef095ad6bc1", func := "loop.example/g00068/laws.FnRiverAbove", spec := "fnRiverAbove", inPlace := ["internal/reflectlite.ValueOf", "(internal/reflectlite.Value).Type", "(internal/reflectlite.Value).IsNil", "internal/reflectlite.TypeOf", "(internal/reflectlite.Value).Elem", "(internal/reflectlite.Value).Set"], unfollowed := true, recurses := true, named := ["errors.errorType", "internal/strconv.uint64pow10", "math/bits.deBruijn32tab", "math/bits.deBruijn64tab"], apart := false, laid := [("math/bits.deBruijn32tab", laid_math_bits_deBruijn32tab), ("math/bits.deBruijn64tab", laid_math_bits_deBruijn64tab), ("internal/strconv.uint64pow10", laid_internal_strconv_uint64pow10), ("errors.errorType", laid_errors_errorType)], narrowed := true }
def FnRiverAboveUptoSaid : Prop := fnRiverAboveUptoRow.holds Tryd.pinned (OpenSpec.upto fnRiverAboveSpec)

/-- 'laws.FnRiverBook', WHERE WHAT IT READS IS OF BULK AT MOST 1048576: true; the input reads as it did. -/
def fnRiverBookUptoRow : OpenClaim := { program := "ytdpghhmcibiplaadoor", sum := "b8349d8c013194caa090f4a737c3bcf5f1b96f3b4851bdfa4ac72ef095ad6bc1", func := "loop.example/g00068/laws.FnRiverBook", spec := "fnRiverBook", inPlace := ["internal/reflectlite.ValueOf", "(internal/reflectlite.Value).Type", "(internal/reflectlite.Value).IsNil", "internal/reflectlite.TypeOf", "(internal/reflectlite.Value).Elem", "(internal/reflectlite.Value).Set"], unfollowed := true, recurses := true, named := ["errors.errorType", "internal/strconv.uint64pow10", "math/bits.deBruijn32tab", "math/bits.deBruijn64tab"], apart := false, laid := [("math/bits.deBruijn32tab", laid_math_bits_deBruijn32tab), ("math/bits.deBruijn64tab", laid_math_bits_deBruijn64tab), ("internal/strconv.uint64pow10", laid_internal_strconv_uint64pow10), ("errors.errorType", laid_errors_errorType)], narrowed := true }
def FnRiverBookUptoSaid : Prop := fnRiverBookUptoRow.holds Tryd.pinned (OpenSpec.upto fnRiverBookSpec)

/-- 'laws.FnExactStoreRun', WHERE WHAT IT READS IS OF BULK AT MOST 1048576: true; the input reads as it did. -/
def fnExactStoreRunUptoRow : OpenClaim := { program := "ytdpghhmcibiplaadoor", sum := "b8349d8c013194caa090f4a737c3bcf5f1b96f3b4851bdfa4ac72ef095ad6bc1", func := "loop.example/g00068/laws.FnExactStoreRun", spec := "fnExactStoreRun", inPlace := ["internal/reflectlite.ValueOf", "(internal/reflectlite.Value).Type", "(internal/reflectlite.Value).IsNil", "internal/reflectlite.TypeOf", "(internal/reflectlite.Value).Elem", "(internal/reflectlite.Value).Set"], unfollowed := true, recurses := true, named := ["errors.errorType", "internal/strconv.uint64pow10", "math/bits.deBruijn32tab", "math/bits.deBruijn64tab"], apart := false, laid := [("math/bits.deBruijn32tab", laid_math_bits_deBruijn32tab), ("math/bits.deBruijn64tab", laid_math_bits_deBruijn64tab), ("internal/strconv.uint64pow10", laid_internal_strconv_uint64pow10), ("errors.errorType", laid_errors_errorType)], narrowed := true }
def FnExactStoreRunUptoSaid : Prop := fnExactStoreRunUptoRow.holds Tryd.pinned (OpenSpec.upto fnExactStoreRunSpec)

/-- 'laws.FnStoreBook', WHERE WHAT IT READS IS OF BULK AT MOST 1048576: true; the input reads as it did. -/
def fnStoreBookUptoRow : OpenClaim := { program := "ytdpghhmcibiplaadoor", sum := "b8349d8c013194caa090f4a737c3bcf5f1b96f3b4851bdfa4ac72ef095ad6bc1", func := "loop.example/g00068/laws.FnStoreBook", spec := "fnStoreBook", inPlace := ["internal/reflectlite.ValueOf", "(internal/reflectlite.Value).Type", "(internal/reflectlite.Value).IsNil", "internal/reflectlite.TypeOf", "(internal/reflectlite.Value).Elem", "(internal/reflectlite.Value).Set"], unfollowed := true, recurses := true, named := ["errors.errorType", "internal/strconv.uint64pow10", "math/bits.deBruijn32tab", "math/bits.deBruijn64tab"], apart := false, laid := [("math/bits.deBruijn32tab", laid_math_bits_deBruijn32tab), ("math/bits.deBruijn64tab", laid_math_bits_deBruijn64tab), ("internal/strconv.uint64pow10", laid_internal_strconv_uint64pow10), ("errors.errorType", laid_errors_errorType)], narrowed := true }
def FnStoreBookUptoSaid : Prop := fnStoreBookUptoRow.holds Tryd.pinned (OpenSpec.upto fnStoreBookSpec)

/-- 'laws.FnYield', WHERE WHAT IT READS IS OF BULK AT MOST 1048576: true; the input reads as it did. -/
def fnYieldUptoRow : OpenClaim := { program := "ytdpghhmcibiplaadoor", sum := "b8349d8c013194caa090f4a737c3bcf5f1b96f3b4851bdfa4ac72ef095ad6bc1", func := "loop.example/g00068/laws.FnYield", spec := "fnYield", inPlace := ["internal/reflectlite.ValueOf", "(internal/reflectlite.Value).Type", "(internal/reflectlite.Value).IsNil", "internal/reflectlite.TypeOf", "(internal/reflectlite.Value).Elem", "(internal/reflectlite.Value).Set"], unfollowed := true, recurses := true, named := ["errors.errorType", "internal/strconv.uint64pow10", "math/bits.deBruijn32tab", "math/bits.deBruijn64tab"], apart := false, laid := [("math/bits.deBruijn32tab", laid_math_bits_deBruijn32tab), ("math/bits.deBruijn64tab", laid_math_bits_deBruijn64tab), ("internal/strconv.uint64pow10", laid_internal_strconv_uint64pow10), ("errors.errorType", laid_errors_errorType)], narrowed := true }
def FnYieldUptoSaid : Prop := fnYieldUptoRow.holds Tryd.pinned (OpenSpec.upto fnYieldSpec)

/-- 'laws.FnExactDistrictBook', WHERE WHAT IT READS IS OF BULK AT MOST 1048576: true; the input reads as it did. -/
def fnExactDistrictBookUptoRow : OpenClaim := { program := "ytdpghhmcibiplaadoor", sum := "b8349d8c013194caa090f4a737c3bcf5f1b96f3b4851bdfa4ac72ef095ad6bc1", func := "loop.example/g00068/laws.FnExactDistrictBook", spec := "fnExactDistrictBook", inPlace := ["internal/reflectlite.ValueOf", "(internal/reflectlite.Value).Type", "(internal/reflectlite.Value).IsNil", "internal/reflectlite.TypeOf", "(internal/reflectlite.Value).Elem", "(internal/reflectlite.Value).Set"], unfollowed := true, recurses := true, named := ["errors.errorType"], apart := false, laid := [("errors.errorType", laid_errors_errorType)], narrowed := true }
def FnExactDistrictBookUptoSaid : Prop := fnExactDistrictBookUptoRow.holds Tryd.pinned (OpenSpec.upto fnExactDistrictBookSpec)

end Rows
end Go.Proofs.YtdpghhmcibiplaaDoor
