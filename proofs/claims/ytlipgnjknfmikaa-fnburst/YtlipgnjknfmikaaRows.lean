/-
  No cell of these rows narrows 'for every input' (looked for: loops, veiled, ifaces, maps, wideKeys, modest, calm, conditions, laid).
  DERIVED. THE GIVEN ROWS OF THIS SEAT. 6 by the template 'for every input the law returns true; each argument reads behind the call as it read before'; 0 by the template 'total and deterministic' (their statements: YtlipgnjknfmikaaTotals.lean).
  GIVEN WITH THE SEED: the statements are not yours to turn. If you find one false, say at which input.
  Laid BY PROGRAM, IN A SANDBOX (cutbox-rows.mjs): the forced cells as the released guide's own fill.sh prints them over the translation 4edb15321f858e2a… (all of the seat's roots in one cut). By AI agents, Wed Nov 11 2026. No macro, syntax, notation, axiom, sorry.
-/
import Derived.Test.YtlipgnjknfmikaaChecked
import GoSem.Claim
import GoSem.ClaimJoined
import GoSem.ClaimMapViews
import Derived.JoinedTies
import Derived.KernelRfl
namespace Go.Proofs.Ytlipgnjknfmikaa
/- THE CELL 'sum', in the pinned program and in every row, IS THE sha256 OF THE DUMP (.gsa) THAT YtlipgnjknfmikaaProg.lean LOADS. Nothing in Lean hashes anything: it is a label: what it is worth is what the hold of that sum in a sandbox is worth. -/
noncomputable def Try.pinned : Pinned := { name := "ytlipgnjknfmikaa", sum := "4edb15321f858e2aad749395a3925e2ef660025e45c03965b29cbf3278ee2195", checked := Try.checked }
namespace Rows
def none {H : Type} : Left H := { results := [], args := [] }

/-- 'laws.FnNight': WHATEVER THE INPUT: true; the input reads as it did. -/
def fnNightSpec : ChangeSpec := { name := "fnNight", fn := fun _ => fun
  | [d1, d2] => { results := [.lit (.bool true)], args := [d1, d2] }
  | _ => none }
def fnNightRow : OpenClaim := { program := "ytlipgnjknfmikaa", sum := "4edb15321f858e2aad749395a3925e2ef660025e45c03965b29cbf3278ee2195", func := "loop.example/g00068/laws.FnNight", spec := "fnNight", inPlace := ["math.Float64frombits"], apart := false }
def FnNightSaid : Prop := fnNightRow.holds Try.pinned (OpenSpec.ofChange fnNightSpec)

/-- ITS FALSE NEIGHBOUR: 'it returns false'. Refute it at one input. -/
def fnNightWrong : ChangeSpec := { name := "fnNight", fn := fun _ => fun
  | [d1, d2] => { results := [.lit (.bool false)], args := [d1, d2] }
  | _ => none }
def FnNightWrongFalsely : Prop := fnNightRow.holds Try.pinned (OpenSpec.ofChange fnNightWrong)

/-- 'laws.FnBurst': WHATEVER THE INPUT: true; the input reads as it did. -/
def fnBurstSpec : ChangeSpec := { name := "fnBurst", fn := fun _ => fun
  | [d] => { results := [.lit (.bool true)], args := [d] }
  | _ => none }
def fnBurstRow : OpenClaim := { program := "ytlipgnjknfmikaa", sum := "4edb15321f858e2aad749395a3925e2ef660025e45c03965b29cbf3278ee2195", func := "loop.example/g00068/laws.FnBurst", spec := "fnBurst", inPlace := ["math.Float64frombits"], apart := false }
def FnBurstSaid : Prop := fnBurstRow.holds Try.pinned (OpenSpec.ofChange fnBurstSpec)

/-- ITS FALSE NEIGHBOUR: 'it returns false'. Refute it at one input. -/
def fnBurstWrong : ChangeSpec := { name := "fnBurst", fn := fun _ => fun
  | [d] => { results := [.lit (.bool false)], args := [d] }
  | _ => none }
def FnBurstWrongFalsely : Prop := fnBurstRow.holds Try.pinned (OpenSpec.ofChange fnBurstWrong)

/-- 'laws.FnExactNightLine': WHATEVER THE INPUT: true; the input reads as it did. -/
def fnExactNightLineSpec : ChangeSpec := { name := "fnExactNightLine", fn := fun _ => fun
  | [d] => { results := [.lit (.bool true)], args := [d] }
  | _ => none }
def fnExactNightLineRow : OpenClaim := { program := "ytlipgnjknfmikaa", sum := "4edb15321f858e2aad749395a3925e2ef660025e45c03965b29cbf3278ee2195", func := "loop.example/g00068/laws.FnExactNightLine", spec := "fnExactNightLine", inPlace := ["math.Float64frombits"], apart := false }
def FnExactNightLineSaid : Prop := fnExactNightLineRow.holds Try.pinned (OpenSpec.ofChange fnExactNightLineSpec)

/-- ITS FALSE NEIGHBOUR: 'it returns false'. Refute it at one input. -/
def fnExactNightLineWrong : ChangeSpec := { name := "fnExactNightLine", fn := fun _ => fun
  | [d] => { results := [.lit (.bool false)], args := [d] }
  | _ => none }
def FnExactNightLineWrongFalsely : Prop := fnExactNightLineRow.holds Try.pinned (OpenSpec.ofChange fnExactNightLineWrong)

/-- 'laws.FnExactNightAt': WHATEVER THE INPUT: true; the input reads as it did. -/
def fnExactNightAtSpec : ChangeSpec := { name := "fnExactNightAt", fn := fun _ => fun
  | [d] => { results := [.lit (.bool true)], args := [d] }
  | _ => none }
def fnExactNightAtRow : OpenClaim := { program := "ytlipgnjknfmikaa", sum := "4edb15321f858e2aad749395a3925e2ef660025e45c03965b29cbf3278ee2195", func := "loop.example/g00068/laws.FnExactNightAt", spec := "fnExactNightAt", inPlace := ["math.Float64frombits"], apart := false }
def FnExactNightAtSaid : Prop := fnExactNightAtRow.holds Try.pinned (OpenSpec.ofChange fnExactNightAtSpec)

/-- ITS FALSE NEIGHBOUR: 'it returns false'. Refute it at one input. -/
def fnExactNightAtWrong : ChangeSpec := { name := "fnExactNightAt", fn := fun _ => fun
  | [d] => { results := [.lit (.bool false)], args := [d] }
  | _ => none }
def FnExactNightAtWrongFalsely : Prop := fnExactNightAtRow.holds Try.pinned (OpenSpec.ofChange fnExactNightAtWrong)

/-- 'laws.FnExactLeakOf': WHATEVER THE INPUT: true; the input reads as it did. -/
def fnExactLeakOfSpec : ChangeSpec := { name := "fnExactLeakOf", fn := fun _ => fun
  | [d1, d2, d3] => { results := [.lit (.bool true)], args := [d1, d2, d3] }
  | _ => none }
def fnExactLeakOfRow : OpenClaim := { program := "ytlipgnjknfmikaa", sum := "4edb15321f858e2aad749395a3925e2ef660025e45c03965b29cbf3278ee2195", func := "loop.example/g00068/laws.FnExactLeakOf", spec := "fnExactLeakOf", inPlace := ["math.Float64frombits"], apart := false }
def FnExactLeakOfSaid : Prop := fnExactLeakOfRow.holds Try.pinned (OpenSpec.ofChange fnExactLeakOfSpec)

/-- ITS FALSE NEIGHBOUR: 'it returns false'. Refute it at one input. -/
def fnExactLeakOfWrong : ChangeSpec := { name := "fnExactLeakOf", fn := fun _ => fun
  | [d1, d2, d3] => { results := [.lit (.bool false)], args := [d1, d2, d3] }
  | _ => none }
def FnExactLeakOfWrongFalsely : Prop := fnExactLeakOfRow.holds Try.pinned (OpenSpec.ofChange fnExactLeakOfWrong)

/-- 'laws.FnExactBurstAt': WHATEVER THE INPUT: true; the input reads as it did. -/
def fnExactBurstAtSpec : ChangeSpec := { name := "fnExactBurstAt", fn := fun _ => fun
  | [d1, d2, d3] => { results := [.lit (.bool true)], args := [d1, d2, d3] }
  | _ => none }
def fnExactBurstAtRow : OpenClaim := { program := "ytlipgnjknfmikaa", sum := "4edb15321f858e2aad749395a3925e2ef660025e45c03965b29cbf3278ee2195", func := "loop.example/g00068/laws.FnExactBurstAt", spec := "fnExactBurstAt", inPlace := ["math.Float64frombits"], apart := false }
def FnExactBurstAtSaid : Prop := fnExactBurstAtRow.holds Try.pinned (OpenSpec.ofChange fnExactBurstAtSpec)

/-- ITS FALSE NEIGHBOUR: 'it returns false'. Refute it at one input. -/
def fnExactBurstAtWrong : ChangeSpec := { name := "fnExactBurstAt", fn := fun _ => fun
  | [d1, d2, d3] => { results := [.lit (.bool false)], args := [d1, d2, d3] }
  | _ => none }
def FnExactBurstAtWrongFalsely : Prop := fnExactBurstAtRow.holds Try.pinned (OpenSpec.ofChange fnExactBurstAtWrong)

/- THE SECOND FORM. 'bulk': how many values and letters a reading holds, each counted each time it is reached (what is shared counts as often as it is met; a slice's spare places count too). A statement '..UptoSaid' is the law's where the arguments, and the package variables that the reading takes, are together of bulk at most 1048576: NARROWER than '..Said'. Prove '..Said' where nothing that the law and all that it calls make is longer than what came in: it says more and counts as full. Else prove '..UptoSaid'. A law counts once. -/
mutual
def uptoBulk {H : Type} : DataW H → Nat
  | .lit (.string bytes) => bytes.length + 1
  | .lit _ => 1
  | .nil => 1
  | .ptr d => uptoBulk d + 1
  | .slice elems spare => uptoBulkAll elems + uptoBulkAll spare + 1
  | .agg parts => uptoBulkAll parts + 1
  | .iface _ d => uptoBulk d + 1
  | .map entries => uptoBulkEntries entries + 1
  | .held _ => 1
def uptoBulkAll {H : Type} : List (DataW H) → Nat
  | [] => 0
  | d :: r => uptoBulk d + uptoBulkAll r
def uptoBulkEntries {H : Type} : List (Lit × DataW H) → Nat
  | [] => 0
  | x :: r => uptoBulkEntry x + uptoBulkEntries r
def uptoBulkEntry {H : Type} : Lit × DataW H → Nat
  | (.string bytes, d) => bytes.length + uptoBulk d + 1
  | (_, d) => uptoBulk d + 1
 end
def uptoSmall : (H : Type) → List (DataW H) → Bool := fun _ ds => decide (uptoBulkAll ds ≤ 1048576)
def OpenSpec.upto (s : _root_.Go.ChangeSpec) : _root_.Go.OpenSpec := { _root_.Go.OpenSpec.ofChange s with cond := some uptoSmall }

/-- 'laws.FnNight', WHERE WHAT IT READS IS OF BULK AT MOST 1048576: true; the input reads as it did. -/
def fnNightUptoRow : OpenClaim := { program := "ytlipgnjknfmikaa", sum := "4edb15321f858e2aad749395a3925e2ef660025e45c03965b29cbf3278ee2195", func := "loop.example/g00068/laws.FnNight", spec := "fnNight", inPlace := ["math.Float64frombits"], apart := false, narrowed := true }
def FnNightUptoSaid : Prop := fnNightUptoRow.holds Try.pinned (OpenSpec.upto fnNightSpec)

/-- 'laws.FnBurst', WHERE WHAT IT READS IS OF BULK AT MOST 1048576: true; the input reads as it did. -/
def fnBurstUptoRow : OpenClaim := { program := "ytlipgnjknfmikaa", sum := "4edb15321f858e2aad749395a3925e2ef660025e45c03965b29cbf3278ee2195", func := "loop.example/g00068/laws.FnBurst", spec := "fnBurst", inPlace := ["math.Float64frombits"], apart := false, narrowed := true }
def FnBurstUptoSaid : Prop := fnBurstUptoRow.holds Try.pinned (OpenSpec.upto fnBurstSpec)

/-- 'laws.FnExactNightLine', WHERE WHAT IT READS IS OF BULK AT MOST 1048576: true; the input reads as it did. -/
def fnExactNightLineUptoRow : OpenClaim := { program := "ytlipgnjknfmikaa", sum := "4edb15321f858e2aad749395a3925e2ef660025e45c03965b29cbf3278ee2195", func := "loop.example/g00068/laws.FnExactNightLine", spec := "fnExactNightLine", inPlace := ["math.Float64frombits"], apart := false, narrowed := true }
def FnExactNightLineUptoSaid : Prop := fnExactNightLineUptoRow.holds Try.pinned (OpenSpec.upto fnExactNightLineSpec)

/-- 'laws.FnExactNightAt', WHERE WHAT IT READS IS OF BULK AT MOST 1048576: true; the input reads as it did. -/
def fnExactNightAtUptoRow : OpenClaim := { program := "ytlipgnjknfmikaa", sum := "4edb15321f858e2aad749395a3925e2ef660025e45c03965b29cbf3278ee2195", func := "loop.example/g00068/laws.FnExactNightAt", spec := "fnExactNightAt", inPlace := ["math.Float64frombits"], apart := false, narrowed := true }
def FnExactNightAtUptoSaid : Prop := fnExactNightAtUptoRow.holds Try.pinned (OpenSpec.upto fnExactNightAtSpec)

/-- 'laws.FnExactLeakOf', WHERE WHAT IT READS IS OF BULK AT MOST 1048576: true; the input reads as it did. -/
def fnExactLeakOfUptoRow : OpenClaim := { program := "ytlipgnjknfmikaa", sum := "4edb15321f858e2aad749395a3925e2ef660025e45c03965b29cbf3278ee2195", func := "loop.example/g00068/laws.FnExactLeakOf", spec := "fnExactLeakOf", inPlace := ["math.Float64frombits"], apart := false, narrowed := true }
def FnExactLeakOfUptoSaid : Prop := fnExactLeakOfUptoRow.holds Try.pinned (OpenSpec.upto fnExactLeakOfSpec)

/-- 'laws.FnExactBurstAt', WHERE WHAT IT READS IS OF BULK AT MOST 1048576: true; the input reads as it did. -/
def fnExactBurstAtUptoRow : OpenClaim := { program := "ytlipgnjknfmikaa", sum := "4edb15321f858e2aad749395a3925e2ef660025e45c03965b29cbf3278ee2195", func := "loop.example/g00068/laws.FnExactBurstAt", spec := "fnExactBurstAt", inPlace := ["math.Float64frombits"], apart := false, narrowed := true }
def FnExactBurstAtUptoSaid : Prop := fnExactBurstAtUptoRow.holds Try.pinned (OpenSpec.upto fnExactBurstAtSpec)

end Rows
end Go.Proofs.Ytlipgnjknfmikaa
