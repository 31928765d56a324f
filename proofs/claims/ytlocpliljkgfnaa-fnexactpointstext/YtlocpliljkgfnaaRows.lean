/-
  No cell of these rows narrows 'for every input' (looked for: loops, veiled, ifaces, maps, wideKeys, modest, calm, conditions, laid).
  DERIVED. THE GIVEN ROWS OF THIS SEAT. 6 by the template 'for every input the law returns true; each argument reads behind the call as it read before'; 0 by the template 'total and deterministic' (their statements: YtlocpliljkgfnaaTotals.lean).
  GIVEN WITH THE SEED: the statements are not yours to turn. If you find one false, say at which input.
  Laid BY PROGRAM, IN A SANDBOX (cutbox-rows.mjs): the forced cells as the released guide's own fill.sh prints them over the translation decff17af72a0774… (all of the seat's roots in one cut). By AI agents, Wed Nov 11 2026. No macro, syntax, notation, axiom, sorry.
-/
import Derived.Test.YtlocpliljkgfnaaChecked
import GoSem.Claim
import GoSem.ClaimJoined
import GoSem.ClaimMapViews
import Derived.JoinedTies
import Derived.KernelRfl
namespace Go.Proofs.Ytlocpliljkgfnaa
/- THE CELL 'sum', in the pinned program and in every row, IS THE sha256 OF THE DUMP (.gsa) THAT YtlocpliljkgfnaaProg.lean LOADS. Nothing in Lean hashes anything: it is a label: what it is worth is what the hold of that sum in a sandbox is worth. -/
noncomputable def Try.pinned : Pinned := { name := "ytlocpliljkgfnaa", sum := "decff17af72a0774fcb558fc3f1c215f25faebe0ce8f1fb8560269cb5644997a", checked := Try.checked }
namespace Rows
def none {H : Type} : Left H := { results := [], args := [] }

/-- 'laws.FnExactPointsRight': WHATEVER THE INPUT: true; the input reads as it did. -/
def fnExactPointsRightSpec : ChangeSpec := { name := "fnExactPointsRight", fn := fun _ => fun
  | [d] => { results := [.lit (.bool true)], args := [d] }
  | _ => none }
def fnExactPointsRightRow : OpenClaim := { program := "ytlocpliljkgfnaa", sum := "decff17af72a0774fcb558fc3f1c215f25faebe0ce8f1fb8560269cb5644997a", func := "loop.example/g00068/laws.FnExactPointsRight", spec := "fnExactPointsRight", apart := false }
def FnExactPointsRightSaid : Prop := fnExactPointsRightRow.holds Try.pinned (OpenSpec.ofChange fnExactPointsRightSpec)

/-- ITS FALSE NEIGHBOUR: 'it returns false'. Refute it at one input. -/
def fnExactPointsRightWrong : ChangeSpec := { name := "fnExactPointsRight", fn := fun _ => fun
  | [d] => { results := [.lit (.bool false)], args := [d] }
  | _ => none }
def FnExactPointsRightWrongFalsely : Prop := fnExactPointsRightRow.holds Try.pinned (OpenSpec.ofChange fnExactPointsRightWrong)

/-- 'laws.FnExactHistoryPack': WHATEVER THE INPUT: true; the input reads as it did. -/
def fnExactHistoryPackSpec : ChangeSpec := { name := "fnExactHistoryPack", fn := fun _ => fun
  | [d1, d2] => { results := [.lit (.bool true)], args := [d1, d2] }
  | _ => none }
def fnExactHistoryPackRow : OpenClaim := { program := "ytlocpliljkgfnaa", sum := "decff17af72a0774fcb558fc3f1c215f25faebe0ce8f1fb8560269cb5644997a", func := "loop.example/g00068/laws.FnExactHistoryPack", spec := "fnExactHistoryPack", unfollowed := true, recurses := true, apart := false }
def FnExactHistoryPackSaid : Prop := fnExactHistoryPackRow.holds Try.pinned (OpenSpec.ofChange fnExactHistoryPackSpec)

/-- ITS FALSE NEIGHBOUR: 'it returns false'. Refute it at one input. -/
def fnExactHistoryPackWrong : ChangeSpec := { name := "fnExactHistoryPack", fn := fun _ => fun
  | [d1, d2] => { results := [.lit (.bool false)], args := [d1, d2] }
  | _ => none }
def FnExactHistoryPackWrongFalsely : Prop := fnExactHistoryPackRow.holds Try.pinned (OpenSpec.ofChange fnExactHistoryPackWrong)

/-- 'laws.FnExactHistoryAt': WHATEVER THE INPUT: true; the input reads as it did. -/
def fnExactHistoryAtSpec : ChangeSpec := { name := "fnExactHistoryAt", fn := fun _ => fun
  | [d1, d2] => { results := [.lit (.bool true)], args := [d1, d2] }
  | _ => none }
def fnExactHistoryAtRow : OpenClaim := { program := "ytlocpliljkgfnaa", sum := "decff17af72a0774fcb558fc3f1c215f25faebe0ce8f1fb8560269cb5644997a", func := "loop.example/g00068/laws.FnExactHistoryAt", spec := "fnExactHistoryAt", apart := false }
def FnExactHistoryAtSaid : Prop := fnExactHistoryAtRow.holds Try.pinned (OpenSpec.ofChange fnExactHistoryAtSpec)

/-- ITS FALSE NEIGHBOUR: 'it returns false'. Refute it at one input. -/
def fnExactHistoryAtWrong : ChangeSpec := { name := "fnExactHistoryAt", fn := fun _ => fun
  | [d1, d2] => { results := [.lit (.bool false)], args := [d1, d2] }
  | _ => none }
def FnExactHistoryAtWrongFalsely : Prop := fnExactHistoryAtRow.holds Try.pinned (OpenSpec.ofChange fnExactHistoryAtWrong)

/-- 'laws.FnExactHistoryUnpack': WHATEVER THE INPUT: true; the input reads as it did. -/
def fnExactHistoryUnpackSpec : ChangeSpec := { name := "fnExactHistoryUnpack", fn := fun _ => fun
  | [d1, d2] => { results := [.lit (.bool true)], args := [d1, d2] }
  | _ => none }
def fnExactHistoryUnpackRow : OpenClaim := { program := "ytlocpliljkgfnaa", sum := "decff17af72a0774fcb558fc3f1c215f25faebe0ce8f1fb8560269cb5644997a", func := "loop.example/g00068/laws.FnExactHistoryUnpack", spec := "fnExactHistoryUnpack", apart := false }
def FnExactHistoryUnpackSaid : Prop := fnExactHistoryUnpackRow.holds Try.pinned (OpenSpec.ofChange fnExactHistoryUnpackSpec)

/-- ITS FALSE NEIGHBOUR: 'it returns false'. Refute it at one input. -/
def fnExactHistoryUnpackWrong : ChangeSpec := { name := "fnExactHistoryUnpack", fn := fun _ => fun
  | [d1, d2] => { results := [.lit (.bool false)], args := [d1, d2] }
  | _ => none }
def FnExactHistoryUnpackWrongFalsely : Prop := fnExactHistoryUnpackRow.holds Try.pinned (OpenSpec.ofChange fnExactHistoryUnpackWrong)

/-- 'laws.FnExactHistoryWorst': WHATEVER THE INPUT: true; the input reads as it did. -/
def fnExactHistoryWorstSpec : ChangeSpec := { name := "fnExactHistoryWorst", fn := fun _ => fun
  | [d1, d2] => { results := [.lit (.bool true)], args := [d1, d2] }
  | _ => none }
def fnExactHistoryWorstRow : OpenClaim := { program := "ytlocpliljkgfnaa", sum := "decff17af72a0774fcb558fc3f1c215f25faebe0ce8f1fb8560269cb5644997a", func := "loop.example/g00068/laws.FnExactHistoryWorst", spec := "fnExactHistoryWorst", unfollowed := true, recurses := true, apart := false }
def FnExactHistoryWorstSaid : Prop := fnExactHistoryWorstRow.holds Try.pinned (OpenSpec.ofChange fnExactHistoryWorstSpec)

/-- ITS FALSE NEIGHBOUR: 'it returns false'. Refute it at one input. -/
def fnExactHistoryWorstWrong : ChangeSpec := { name := "fnExactHistoryWorst", fn := fun _ => fun
  | [d1, d2] => { results := [.lit (.bool false)], args := [d1, d2] }
  | _ => none }
def FnExactHistoryWorstWrongFalsely : Prop := fnExactHistoryWorstRow.holds Try.pinned (OpenSpec.ofChange fnExactHistoryWorstWrong)

/-- 'laws.FnExactPointsText': WHATEVER THE INPUT: true; the input reads as it did. -/
def fnExactPointsTextSpec : ChangeSpec := { name := "fnExactPointsText", fn := fun _ => fun
  | [d] => { results := [.lit (.bool true)], args := [d] }
  | _ => none }
def fnExactPointsTextRow : OpenClaim := { program := "ytlocpliljkgfnaa", sum := "decff17af72a0774fcb558fc3f1c215f25faebe0ce8f1fb8560269cb5644997a", func := "loop.example/g00068/laws.FnExactPointsText", spec := "fnExactPointsText", unfollowed := true, recurses := true, apart := false }
def FnExactPointsTextSaid : Prop := fnExactPointsTextRow.holds Try.pinned (OpenSpec.ofChange fnExactPointsTextSpec)

/-- ITS FALSE NEIGHBOUR: 'it returns false'. Refute it at one input. -/
def fnExactPointsTextWrong : ChangeSpec := { name := "fnExactPointsText", fn := fun _ => fun
  | [d] => { results := [.lit (.bool false)], args := [d] }
  | _ => none }
def FnExactPointsTextWrongFalsely : Prop := fnExactPointsTextRow.holds Try.pinned (OpenSpec.ofChange fnExactPointsTextWrong)

/- THE SECOND FORM. 'bulk': how many values and letters a reading holds, each counted each time it is reached (what is shared counts as often as it is met; a slice's spare places count too). A statement '..UptoSaid' is the law's where the arguments, and the package variables that the reading takes, are together of bulk at most 1048576: NARROWER than '..Said'. Prove '..Said' where nothing that the law and all that it calls make is longer than what came in: it says more and counts as full. Else prove '..UptoSaid'. A law counts once. -/
mutual
def uptoBulk {H : Type} : DataW H → Nat
  | .lit (.string bytes) => bytes.length + 1
  | .lit _ => 1
  | .nil => 1
  | .ptr d => uptoBulk d + 1
  | .slice elems spare => uptoBulkAll elems + uptoBulkAll spare + 1
  | .agg parts => uptoBulkAll parts + 1
  | .iface _ d => uptoBulk d + 1
  | .map entries => uptoBulkEntries entries + 1
  | .held _ => 1
def uptoBulkAll {H : Type} : List (DataW H) → Nat
  | [] => 0
  | d :: r => uptoBulk d + uptoBulkAll r
def uptoBulkEntries {H : Type} : List (Lit × DataW H) → Nat
  | [] => 0
  | x :: r => uptoBulkEntry x + uptoBulkEntries r
def uptoBulkEntry {H : Type} : Lit × DataW H → Nat
  | (.string bytes, d) => bytes.length + uptoBulk d + 1
  | (_, d) => uptoBulk d + 1
 end
def uptoSmall : (H : Type) → List (DataW H) → Bool := fun _ ds => decide (uptoBulkAll ds ≤ 1048576)
def OpenSpec.upto (s : _root_.Go.ChangeSpec) : _root_.Go.OpenSpec := { _root_.Go.OpenSpec.ofChange s with cond := some uptoSmall }

/-- 'laws.FnExactPointsRight', WHERE WHAT IT READS IS OF BULK AT MOST 1048576: true; the input reads as it did. -/
def fnExactPointsRightUptoRow : OpenClaim := { program := "ytlocpliljkgfnaa", sum := "decff17af72a0774fcb558fc3f1c215f25faebe0ce8f1fb8560269cb5644997a", func := "loop.example/g00068/laws.FnExactPointsRight", spec := "fnExactPointsRight", apart := false, narrowed := true }
def FnExactPointsRightUptoSaid : Prop := fnExactPointsRightUptoRow.holds Try.pinned (OpenSpec.upto fnExactPointsRightSpec)

/-- 'laws.FnExactHistoryPack', WHERE WHAT IT READS IS OF BULK AT MOST 1048576: true; the input reads as it did. -/
def fnExactHistoryPackUptoRow : OpenClaim := { program := "ytlocpliljkgfnaa", sum := "decff17af72a0774fcb558fc3f1c215f25faebe0ce8f1fb8560269cb5644997a", func := "loop.example/g00068/laws.FnExactHistoryPack", spec := "fnExactHistoryPack", unfollowed := true, recurses := true, apart := false, narrowed := true }
def FnExactHistoryPackUptoSaid : Prop := fnExactHistoryPackUptoRow.holds Try.pinned (OpenSpec.upto fnExactHistoryPackSpec)

/-- 'laws.FnExactHistoryAt', WHERE WHAT IT READS IS OF BULK AT MOST 1048576: true; the input reads as it did. -/
def fnExactHistoryAtUptoRow : OpenClaim := { program := "ytlocpliljkgfnaa", sum := "decff17af72a0774fcb558fc3f1c215f25faebe0ce8f1fb8560269cb5644997a", func := "loop.example/g00068/laws.FnExactHistoryAt", spec := "fnExactHistoryAt", apart := false, narrowed := true }
def FnExactHistoryAtUptoSaid : Prop := fnExactHistoryAtUptoRow.holds Try.pinned (OpenSpec.upto fnExactHistoryAtSpec)

/-- 'laws.FnExactHistoryUnpack', WHERE WHAT IT READS IS OF BULK AT MOST 1048576: true; the input reads as it did. -/
def fnExactHistoryUnpackUptoRow : OpenClaim := { program := "ytlocpliljkgfnaa", sum := "decff17af72a0774fcb558fc3f1c215f25faebe0ce8f1fb8560269cb5644997a", func := "loop.example/g00068/laws.FnExactHistoryUnpack", spec := "fnExactHistoryUnpack", apart := false, narrowed := true }
def FnExactHistoryUnpackUptoSaid : Prop := fnExactHistoryUnpackUptoRow.holds Try.pinned (OpenSpec.upto fnExactHistoryUnpackSpec)

/-- 'laws.FnExactHistoryWorst', WHERE WHAT IT READS IS OF BULK AT MOST 1048576: true; the input reads as it did. -/
def fnExactHistoryWorstUptoRow : OpenClaim := { program := "ytlocpliljkgfnaa", sum := "decff17af72a0774fcb558fc3f1c215f25faebe0ce8f1fb8560269cb5644997a", func := "loop.example/g00068/laws.FnExactHistoryWorst", spec := "fnExactHistoryWorst", unfollowed := true, recurses := true, apart := false, narrowed := true }
def FnExactHistoryWorstUptoSaid : Prop := fnExactHistoryWorstUptoRow.holds Try.pinned (OpenSpec.upto fnExactHistoryWorstSpec)

/-- 'laws.FnExactPointsText', WHERE WHAT IT READS IS OF BULK AT MOST 1048576: true; the input reads as it did. -/
def fnExactPointsTextUptoRow : OpenClaim := { program := "ytlocpliljkgfnaa", sum := "decff17af72a0774fcb558fc3f1c215f25faebe0ce8f1fb8560269cb5644997a", func := "loop.example/g00068/laws.FnExactPointsText", spec := "fnExactPointsText", unfollowed := true, recurses := true, apart := false, narrowed := true }
def FnExactPointsTextUptoSaid : Prop := fnExactPointsTextUptoRow.holds Try.pinned (OpenSpec.upto fnExactPointsTextSpec)

end Rows
end Go.Proofs.Ytlocpliljkgfnaa
