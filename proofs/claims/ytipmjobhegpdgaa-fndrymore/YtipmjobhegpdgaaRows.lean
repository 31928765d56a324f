/-
  No cell of these rows narrows 'for every input' (looked for: loops, veiled, ifaces, maps, wideKeys, modest, calm, conditions, laid).
  DERIVED. THE GIVEN ROWS OF THIS SEAT. 6 by the template 'for every input the law returns true; each argument reads behind the call as it read before'; 0 by the template 'total and deterministic' (their statements: YtipmjobhegpdgaaTotals.lean).
  GIVEN WITH THE SEED: the statements are not yours to turn. If you find one false, say at which input.
  Laid BY PROGRAM, IN A SANDBOX (cutbox-rows.mjs): the forced cells as the released guide's own fill.sh prints them over the translation 10ecdc77c368115a… (all of the seat's roots in one cut). By AI agents, Wed Nov 11 2026. No macro, syntax, notation, axiom, sorry.
-/
import Derived.Test.YtipmjobhegpdgaaChecked
import GoSem.Claim
import GoSem.ClaimJoined
import GoSem.ClaimMapViews
import Derived.JoinedTies
import Derived.KernelRfl
namespace Go.Proofs.Ytipmjobhegpdgaa
/- THE CELL 'sum', in the pinned program and in every row, IS THE sha256 OF THE DUMP (.gsa) THAT YtipmjobhegpdgaaProg.lean LOADS. Nothing in Lean hashes anything: it is a label: what it is worth is what the hold of that sum in a sandbox is worth. -/
noncomputable def Try.pinned : Pinned := { name := "ytipmjobhegpdgaa", sum := "10ecdc77c368115a90d30068fde2a034bb4b92d55a2e7c77267c43faecd2c8f5", checked := Try.checked }
namespace Rows
def none {H : Type} : Left H := { results := [], args := [] }

/-- 'laws.FnDryMore': WHATEVER THE INPUT: true; the input reads as it did. -/
def fnDryMoreSpec : ChangeSpec := { name := "fnDryMore", fn := fun _ => fun
  | [d1, d2] => { results := [.lit (.bool true)], args := [d1, d2] }
  | _ => none }
def fnDryMoreRow : OpenClaim := { program := "ytipmjobhegpdgaa", sum := "10ecdc77c368115a90d30068fde2a034bb4b92d55a2e7c77267c43faecd2c8f5", func := "loop.example/g00068/laws.FnDryMore", spec := "fnDryMore", unfollowed := true, recurses := true, plainKeys := false, apart := false }
def FnDryMoreSaid : Prop := fnDryMoreRow.holds Try.pinned (OpenSpec.ofChange fnDryMoreSpec)

/-- ITS FALSE NEIGHBOUR: 'it returns false'. Refute it at one input. -/
def fnDryMoreWrong : ChangeSpec := { name := "fnDryMore", fn := fun _ => fun
  | [d1, d2] => { results := [.lit (.bool false)], args := [d1, d2] }
  | _ => none }
def FnDryMoreWrongFalsely : Prop := fnDryMoreRow.holds Try.pinned (OpenSpec.ofChange fnDryMoreWrong)

/-- 'laws.FnExactPlanRight': WHATEVER THE INPUT: true; the input reads as it did. -/
def fnExactPlanRightSpec : ChangeSpec := { name := "fnExactPlanRight", fn := fun _ => fun
  | [d] => { results := [.lit (.bool true)], args := [d] }
  | _ => none }
def fnExactPlanRightRow : OpenClaim := { program := "ytipmjobhegpdgaa", sum := "10ecdc77c368115a90d30068fde2a034bb4b92d55a2e7c77267c43faecd2c8f5", func := "loop.example/g00068/laws.FnExactPlanRight", spec := "fnExactPlanRight", unfollowed := true, recurses := true, plainKeys := false, apart := false }
def FnExactPlanRightSaid : Prop := fnExactPlanRightRow.holds Try.pinned (OpenSpec.ofChange fnExactPlanRightSpec)

/-- ITS FALSE NEIGHBOUR: 'it returns false'. Refute it at one input. -/
def fnExactPlanRightWrong : ChangeSpec := { name := "fnExactPlanRight", fn := fun _ => fun
  | [d] => { results := [.lit (.bool false)], args := [d] }
  | _ => none }
def FnExactPlanRightWrongFalsely : Prop := fnExactPlanRightRow.holds Try.pinned (OpenSpec.ofChange fnExactPlanRightWrong)

/-- 'laws.FnExactWaysRight': WHATEVER THE INPUT: true; the input reads as it did. -/
def fnExactWaysRightSpec : ChangeSpec := { name := "fnExactWaysRight", fn := fun _ => fun
  | [d1, d2, d3] => { results := [.lit (.bool true)], args := [d1, d2, d3] }
  | _ => none }
def fnExactWaysRightRow : OpenClaim := { program := "ytipmjobhegpdgaa", sum := "10ecdc77c368115a90d30068fde2a034bb4b92d55a2e7c77267c43faecd2c8f5", func := "loop.example/g00068/laws.FnExactWaysRight", spec := "fnExactWaysRight", unfollowed := true, recurses := true, plainKeys := false, apart := false }
def FnExactWaysRightSaid : Prop := fnExactWaysRightRow.holds Try.pinned (OpenSpec.ofChange fnExactWaysRightSpec)

/-- ITS FALSE NEIGHBOUR: 'it returns false'. Refute it at one input. -/
def fnExactWaysRightWrong : ChangeSpec := { name := "fnExactWaysRight", fn := fun _ => fun
  | [d1, d2, d3] => { results := [.lit (.bool false)], args := [d1, d2, d3] }
  | _ => none }
def FnExactWaysRightWrongFalsely : Prop := fnExactWaysRightRow.holds Try.pinned (OpenSpec.ofChange fnExactWaysRightWrong)

/-- 'laws.FnExactDryPlaces': WHATEVER THE INPUT: true; the input reads as it did. -/
def fnExactDryPlacesSpec : ChangeSpec := { name := "fnExactDryPlaces", fn := fun _ => fun
  | [d1, d2] => { results := [.lit (.bool true)], args := [d1, d2] }
  | _ => none }
def fnExactDryPlacesRow : OpenClaim := { program := "ytipmjobhegpdgaa", sum := "10ecdc77c368115a90d30068fde2a034bb4b92d55a2e7c77267c43faecd2c8f5", func := "loop.example/g00068/laws.FnExactDryPlaces", spec := "fnExactDryPlaces", unfollowed := true, recurses := true, plainKeys := false, apart := false }
def FnExactDryPlacesSaid : Prop := fnExactDryPlacesRow.holds Try.pinned (OpenSpec.ofChange fnExactDryPlacesSpec)

/-- ITS FALSE NEIGHBOUR: 'it returns false'. Refute it at one input. -/
def fnExactDryPlacesWrong : ChangeSpec := { name := "fnExactDryPlaces", fn := fun _ => fun
  | [d1, d2] => { results := [.lit (.bool false)], args := [d1, d2] }
  | _ => none }
def FnExactDryPlacesWrongFalsely : Prop := fnExactDryPlacesRow.holds Try.pinned (OpenSpec.ofChange fnExactDryPlacesWrong)

/-- 'laws.FnExactDryHomes': WHATEVER THE INPUT: true; the input reads as it did. -/
def fnExactDryHomesSpec : ChangeSpec := { name := "fnExactDryHomes", fn := fun _ => fun
  | [d1, d2] => { results := [.lit (.bool true)], args := [d1, d2] }
  | _ => none }
def fnExactDryHomesRow : OpenClaim := { program := "ytipmjobhegpdgaa", sum := "10ecdc77c368115a90d30068fde2a034bb4b92d55a2e7c77267c43faecd2c8f5", func := "loop.example/g00068/laws.FnExactDryHomes", spec := "fnExactDryHomes", unfollowed := true, recurses := true, plainKeys := false, apart := false }
def FnExactDryHomesSaid : Prop := fnExactDryHomesRow.holds Try.pinned (OpenSpec.ofChange fnExactDryHomesSpec)

/-- ITS FALSE NEIGHBOUR: 'it returns false'. Refute it at one input. -/
def fnExactDryHomesWrong : ChangeSpec := { name := "fnExactDryHomes", fn := fun _ => fun
  | [d1, d2] => { results := [.lit (.bool false)], args := [d1, d2] }
  | _ => none }
def FnExactDryHomesWrongFalsely : Prop := fnExactDryHomesRow.holds Try.pinned (OpenSpec.ofChange fnExactDryHomesWrong)

/-- 'laws.FnExactShutRight': WHATEVER THE INPUT: true; the input reads as it did. -/
def fnExactShutRightSpec : ChangeSpec := { name := "fnExactShutRight", fn := fun _ => fun
  | [d1, d2, d3] => { results := [.lit (.bool true)], args := [d1, d2, d3] }
  | _ => none }
def fnExactShutRightRow : OpenClaim := { program := "ytipmjobhegpdgaa", sum := "10ecdc77c368115a90d30068fde2a034bb4b92d55a2e7c77267c43faecd2c8f5", func := "loop.example/g00068/laws.FnExactShutRight", spec := "fnExactShutRight", unfollowed := true, recurses := true, plainKeys := false, apart := false }
def FnExactShutRightSaid : Prop := fnExactShutRightRow.holds Try.pinned (OpenSpec.ofChange fnExactShutRightSpec)

/-- ITS FALSE NEIGHBOUR: 'it returns false'. Refute it at one input. -/
def fnExactShutRightWrong : ChangeSpec := { name := "fnExactShutRight", fn := fun _ => fun
  | [d1, d2, d3] => { results := [.lit (.bool false)], args := [d1, d2, d3] }
  | _ => none }
def FnExactShutRightWrongFalsely : Prop := fnExactShutRightRow.holds Try.pinned (OpenSpec.ofChange fnExactShutRightWrong)

/- THE SECOND FORM. 'bulk': how many values and letters a reading holds, each counted each time it is reached (what is shared counts as often as it is met; a slice's spare places count too). A statement '..UptoSaid' is the law's where the arguments, and the package variables that the reading takes, are together of bulk at most 1048576: NARROWER than '..Said'. Prove '..Said' where nothing that the law and all that it calls make is longer than what came in: it says more and counts as full. Else prove '..UptoSaid'. A law counts once. -/
mutual
def uptoBulk {H : Type} : DataW H → Nat
  | .lit (.string bytes) => bytes.length + 1
  | .lit _ => 1
  | .nil => 1
  | .ptr d => uptoBulk d + 1
  | .slice elems spare => uptoBulkAll elems + uptoBulkAll spare + 1
  | .agg parts => uptoBulkAll parts + 1
  | .iface _ d => uptoBulk d + 1
  | .map entries => uptoBulkEntries entries + 1
  | .held _ => 1
def uptoBulkAll {H : Type} : List (DataW H) → Nat
  | [] => 0
  | d :: r => uptoBulk d + uptoBulkAll r
def uptoBulkEntries {H : Type} : List (Lit × DataW H) → Nat
  | [] => 0
  | x :: r => uptoBulkEntry x + uptoBulkEntries r
def uptoBulkEntry {H : Type} : Lit × DataW H → Nat
  | (.string bytes, d) => bytes.length + uptoBulk d + 1
  | (_, d) => uptoBulk d + 1
 end
def uptoSmall : (H : Type) → List (DataW H) → Bool := fun _ ds => decide (uptoBulkAll ds ≤ 1048576)
def OpenSpec.upto (s : _root_.Go.ChangeSpec) : _root_.Go.OpenSpec := { _root_.Go.OpenSpec.ofChange s with cond := some uptoSmall }

/-- 'laws.FnDryMore', WHERE WHAT IT READS IS OF BULK AT MOST 1048576: true; the input reads as it did. -/
def fnDryMoreUptoRow : OpenClaim := { program := "ytipmjobhegpdgaa", sum := "10ecdc77c368115a90d30068fde2a034bb4b92d55a2e7c77267c43faecd2c8f5", func := "loop.example/g00068/laws.FnDryMore", spec := "fnDryMore", unfollowed := true, recurses := true, plainKeys := false, apart := false, narrowed := true }
def FnDryMoreUptoSaid : Prop := fnDryMoreUptoRow.holds Try.pinned (OpenSpec.upto fnDryMoreSpec)

/-- 'laws.FnExactPlanRight', WHERE WHAT IT READS IS OF BULK AT MOST 1048576: true; the input reads as it did. -/
def fnExactPlanRightUptoRow : OpenClaim := { program := "ytipmjobhegpdgaa", sum := "10ecdc77c368115a90d30068fde2a034bb4b92d55a2e7c77267c43faecd2c8f5", func := "loop.example/g00068/laws.FnExactPlanRight", spec := "fnExactPlanRight", unfollowed := true, recurses := true, plainKeys := false, apart := false, narrowed := true }
def FnExactPlanRightUptoSaid : Prop := fnExactPlanRightUptoRow.holds Try.pinned (OpenSpec.upto fnExactPlanRightSpec)

/-- 'laws.FnExactWaysRight', WHERE WHAT IT READS IS OF BULK AT MOST 1048576: true; the input reads as it did. -/
def fnExactWaysRightUptoRow : OpenClaim := { program := "ytipmjobhegpdgaa", sum := "10ecdc77c368115a90d30068fde2a034bb4b92d55a2e7c77267c43faecd2c8f5", func := "loop.example/g00068/laws.FnExactWaysRight", spec := "fnExactWaysRight", unfollowed := true, recurses := true, plainKeys := false, apart := false, narrowed := true }
def FnExactWaysRightUptoSaid : Prop := fnExactWaysRightUptoRow.holds Try.pinned (OpenSpec.upto fnExactWaysRightSpec)

/-- 'laws.FnExactDryPlaces', WHERE WHAT IT READS IS OF BULK AT MOST 1048576: true; the input reads as it did. -/
def fnExactDryPlacesUptoRow : OpenClaim := { program := "ytipmjobhegpdgaa", sum := "10ecdc77c368115a90d30068fde2a034bb4b92d55a2e7c77267c43faecd2c8f5", func := "loop.example/g00068/laws.FnExactDryPlaces", spec := "fnExactDryPlaces", unfollowed := true, recurses := true, plainKeys := false, apart := false, narrowed := true }
def FnExactDryPlacesUptoSaid : Prop := fnExactDryPlacesUptoRow.holds Try.pinned (OpenSpec.upto fnExactDryPlacesSpec)

/-- 'laws.FnExactDryHomes', WHERE WHAT IT READS IS OF BULK AT MOST 1048576: true; the input reads as it did. -/
def fnExactDryHomesUptoRow : OpenClaim := { program := "ytipmjobhegpdgaa", sum := "10ecdc77c368115a90d30068fde2a034bb4b92d55a2e7c77267c43faecd2c8f5", func := "loop.example/g00068/laws.FnExactDryHomes", spec := "fnExactDryHomes", unfollowed := true, recurses := true, plainKeys := false, apart := false, narrowed := true }
def FnExactDryHomesUptoSaid : Prop := fnExactDryHomesUptoRow.holds Try.pinned (OpenSpec.upto fnExactDryHomesSpec)

/-- 'laws.FnExactShutRight', WHERE WHAT IT READS IS OF BULK AT MOST 1048576: true; the input reads as it did. -/
def fnExactShutRightUptoRow : OpenClaim := { program := "ytipmjobhegpdgaa", sum := "10ecdc77c368115a90d30068fde2a034bb4b92d55a2e7c77267c43faecd2c8f5", func := "loop.example/g00068/laws.FnExactShutRight", spec := "fnExactShutRight", unfollowed := true, recurses := true, plainKeys := false, apart := false, narrowed := true }
def FnExactShutRightUptoSaid : Prop := fnExactShutRightUptoRow.holds Try.pinned (OpenSpec.upto fnExactShutRightSpec)

end Rows
end Go.Proofs.Ytipmjobhegpdgaa
