/-
  No cell of these rows narrows 'for every input' (looked for: loops, veiled, ifaces, maps, wideKeys, modest, calm, conditions, laid).
  DERIVED. THE GIVEN ROWS OF THIS SEAT. 4 by the template 'for every input the law returns true; each argument reads behind the call as it read before'; 0 by the template 'total and deterministic' (their statements: YtjcdkaojdpcagaaTotals.lean).
  GIVEN WITH THE SEED: the statements are not yours to turn. If you find one false, say at which input.
  Laid BY PROGRAM, IN A SANDBOX (cutbox-rows.mjs): the forced cells as the released guide's own fill.sh prints them over the translation 7452f8837c430a16… (all of the seat's roots in one cut). By AI agents, Wed Nov 11 2026. No macro, syntax, notation, axiom, sorry.
-/
import Derived.Test.YtjcdkaojdpcagaaChecked
import GoSem.Claim
import GoSem.ClaimJoined
import GoSem.ClaimMapViews
import Derived.JoinedTies
import Derived.KernelRfl
namespace Go.Proofs.Ytjcdkaojdpcagaa
/- THE CELL 'sum', in the pinned program and in every row, IS THE sha256 OF THE DUMP (.gsa) THAT YtjcdkaojdpcagaaProg.lean LOADS. Nothing in Lean hashes anything: it is a label: what it is worth is what the hold of that sum in a sandbox is worth. -/
noncomputable def Try.pinned : Pinned := { name := "ytjcdkaojdpcagaa", sum := "7452f8837c430a166b5b809e2e933706cf4207198badc9b94925aa71cd4e54ba", checked := Try.checked }
namespace Rows
def none {H : Type} : Left H := { results := [], args := [] }

/-- 'laws.FnExactMeterRight': WHATEVER THE INPUT: true; the input reads as it did. -/
def fnExactMeterRightSpec : ChangeSpec := { name := "fnExactMeterRight", fn := fun _ => fun
  | [d] => { results := [.lit (.bool true)], args := [d] }
  | _ => none }
def fnExactMeterRightRow : OpenClaim := { program := "ytjcdkaojdpcagaa", sum := "7452f8837c430a166b5b809e2e933706cf4207198badc9b94925aa71cd4e54ba", func := "loop.example/g00068/laws.FnExactMeterRight", spec := "fnExactMeterRight", apart := false }
def FnExactMeterRightSaid : Prop := fnExactMeterRightRow.holds Try.pinned (OpenSpec.ofChange fnExactMeterRightSpec)

/-- ITS FALSE NEIGHBOUR: 'it returns false'. Refute it at one input. -/
def fnExactMeterRightWrong : ChangeSpec := { name := "fnExactMeterRight", fn := fun _ => fun
  | [d] => { results := [.lit (.bool false)], args := [d] }
  | _ => none }
def FnExactMeterRightWrongFalsely : Prop := fnExactMeterRightRow.holds Try.pinned (OpenSpec.ofChange fnExactMeterRightWrong)

/-- 'laws.FnExactMeterTurn': WHATEVER THE INPUT: true; the input reads as it did. -/
def fnExactMeterTurnSpec : ChangeSpec := { name := "fnExactMeterTurn", fn := fun _ => fun
  | [d1, d2, d3] => { results := [.lit (.bool true)], args := [d1, d2, d3] }
  | _ => none }
def fnExactMeterTurnRow : OpenClaim := { program := "ytjcdkaojdpcagaa", sum := "7452f8837c430a166b5b809e2e933706cf4207198badc9b94925aa71cd4e54ba", func := "loop.example/g00068/laws.FnExactMeterTurn", spec := "fnExactMeterTurn", apart := false }
def FnExactMeterTurnSaid : Prop := fnExactMeterTurnRow.holds Try.pinned (OpenSpec.ofChange fnExactMeterTurnSpec)

/-- ITS FALSE NEIGHBOUR: 'it returns false'. Refute it at one input. -/
def fnExactMeterTurnWrong : ChangeSpec := { name := "fnExactMeterTurn", fn := fun _ => fun
  | [d1, d2, d3] => { results := [.lit (.bool false)], args := [d1, d2, d3] }
  | _ => none }
def FnExactMeterTurnWrongFalsely : Prop := fnExactMeterTurnRow.holds Try.pinned (OpenSpec.ofChange fnExactMeterTurnWrong)

/-- 'laws.FnExactUseOf': WHATEVER THE INPUT: true; the input reads as it did. -/
def fnExactUseOfSpec : ChangeSpec := { name := "fnExactUseOf", fn := fun _ => fun
  | [d1, d2, d3] => { results := [.lit (.bool true)], args := [d1, d2, d3] }
  | _ => none }
def fnExactUseOfRow : OpenClaim := { program := "ytjcdkaojdpcagaa", sum := "7452f8837c430a166b5b809e2e933706cf4207198badc9b94925aa71cd4e54ba", func := "loop.example/g00068/laws.FnExactUseOf", spec := "fnExactUseOf", apart := false }
def FnExactUseOfSaid : Prop := fnExactUseOfRow.holds Try.pinned (OpenSpec.ofChange fnExactUseOfSpec)

/-- ITS FALSE NEIGHBOUR: 'it returns false'. Refute it at one input. -/
def fnExactUseOfWrong : ChangeSpec := { name := "fnExactUseOf", fn := fun _ => fun
  | [d1, d2, d3] => { results := [.lit (.bool false)], args := [d1, d2, d3] }
  | _ => none }
def FnExactUseOfWrongFalsely : Prop := fnExactUseOfRow.holds Try.pinned (OpenSpec.ofChange fnExactUseOfWrong)

/-- 'laws.FnTurns': WHATEVER THE INPUT: true; the input reads as it did. -/
def fnTurnsSpec : ChangeSpec := { name := "fnTurns", fn := fun _ => fun
  | [d] => { results := [.lit (.bool true)], args := [d] }
  | _ => none }
def fnTurnsRow : OpenClaim := { program := "ytjcdkaojdpcagaa", sum := "7452f8837c430a166b5b809e2e933706cf4207198badc9b94925aa71cd4e54ba", func := "loop.example/g00068/laws.FnTurns", spec := "fnTurns", apart := false }
def FnTurnsSaid : Prop := fnTurnsRow.holds Try.pinned (OpenSpec.ofChange fnTurnsSpec)

/-- ITS FALSE NEIGHBOUR: 'it returns false'. Refute it at one input. -/
def fnTurnsWrong : ChangeSpec := { name := "fnTurns", fn := fun _ => fun
  | [d] => { results := [.lit (.bool false)], args := [d] }
  | _ => none }
def FnTurnsWrongFalsely : Prop := fnTurnsRow.holds Try.pinned (OpenSpec.ofChange fnTurnsWrong)

/- THE SECOND FORM. 'bulk': how many values and letters a reading holds, each counted each time it is reached (what is shared counts as often as it is met; a slice's spare places count too). A statement '..UptoSaid' is the law's where the arguments, and the package variables that the reading takes, are together of bulk at most 1048576: NARROWER than '..Said'. Prove '..Said' where nothing that the law and all that it calls make is longer than what came in: it says more and counts as full. Else prove '..UptoSaid'. A law counts once. -/
mutual
def uptoBulk {H : Type} : DataW H → Nat
  | .lit (.string bytes) => bytes.length + 1
  | .lit _ => 1
  | .nil => 1
  | .ptr d => uptoBulk d + 1
  | .slice elems spare => uptoBulkAll elems + uptoBulkAll spare + 1
  | .agg parts => uptoBulkAll parts + 1
  | .iface _ d => uptoBulk d + 1
  | .map entries => uptoBulkEntries entries + 1
  | .held _ => 1
def uptoBulkAll {H : Type} : List (DataW H) → Nat
  | [] => 0
  | d :: r => uptoBulk d + uptoBulkAll r
def uptoBulkEntries {H : Type} : List (Lit × DataW H) → Nat
  | [] => 0
  | x :: r => uptoBulkEntry x + uptoBulkEntries r
def uptoBulkEntry {H : Type} : Lit × DataW H → Nat
  | (.string bytes, d) => bytes.length + uptoBulk d + 1
  | (_, d) => uptoBulk d + 1
 end
def uptoSmall : (H : Type) → List (DataW H) → Bool := fun _ ds => decide (uptoBulkAll ds ≤ 1048576)
def OpenSpec.upto (s : _root_.Go.ChangeSpec) : _root_.Go.OpenSpec := { _root_.Go.OpenSpec.ofChange s with cond := some uptoSmall }

/-- 'laws.FnExactMeterRight', WHERE WHAT IT READS IS OF BULK AT MOST 1048576: true; the input reads as it did. -/
def fnExactMeterRightUptoRow : OpenClaim := { program := "ytjcdkaojdpcagaa", sum := "7452f8837c430a166b5b809e2e933706cf4207198badc9b94925aa71cd4e54ba", func := "loop.example/g00068/laws.FnExactMeterRight", spec := "fnExactMeterRight", apart := false, narrowed := true }
def FnExactMeterRightUptoSaid : Prop := fnExactMeterRightUptoRow.holds Try.pinned (OpenSpec.upto fnExactMeterRightSpec)

/-- 'laws.FnExactMeterTurn', WHERE WHAT IT READS IS OF BULK AT MOST 1048576: true; the input reads as it did. -/
def fnExactMeterTurnUptoRow : OpenClaim := { program := "ytjcdkaojdpcagaa", sum := "7452f8837c430a166b5b809e2e933706cf4207198badc9b94925aa71cd4e54ba", func := "loop.example/g00068/laws.FnExactMeterTurn", spec := "fnExactMeterTurn", apart := false, narrowed := true }
def FnExactMeterTurnUptoSaid : Prop := fnExactMeterTurnUptoRow.holds Try.pinned (OpenSpec.upto fnExactMeterTurnSpec)

/-- 'laws.FnExactUseOf', WHERE WHAT IT READS IS OF BULK AT MOST 1048576: true; the input reads as it did. -/
def fnExactUseOfUptoRow : OpenClaim := { program := "ytjcdkaojdpcagaa", sum := "7452f8837c430a166b5b809e2e933706cf4207198badc9b94925aa71cd4e54ba", func := "loop.example/g00068/laws.FnExactUseOf", spec := "fnExactUseOf", apart := false, narrowed := true }
def FnExactUseOfUptoSaid : Prop := fnExactUseOfUptoRow.holds Try.pinned (OpenSpec.upto fnExactUseOfSpec)

/-- 'laws.FnTurns', WHERE WHAT IT READS IS OF BULK AT MOST 1048576: true; the input reads as it did. -/
def fnTurnsUptoRow : OpenClaim := { program := "ytjcdkaojdpcagaa", sum := "7452f8837c430a166b5b809e2e933706cf4207198badc9b94925aa71cd4e54ba", func := "loop.example/g00068/laws.FnTurns", spec := "fnTurns", apart := false, narrowed := true }
def FnTurnsUptoSaid : Prop := fnTurnsUptoRow.holds Try.pinned (OpenSpec.upto fnTurnsSpec)

end Rows
end Go.Proofs.Ytjcdkaojdpcagaa
