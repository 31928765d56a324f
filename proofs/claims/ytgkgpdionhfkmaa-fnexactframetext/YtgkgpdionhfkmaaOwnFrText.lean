/-
  Proved here: at every frame that can be handed in, the law FnExactFrameText returns true, that is, the program's FrameText answers as the model's; no condition beyond the given row's own.
-/
import Derived.Test.YtgkgpdionhfkmaaRows
import Derived.Test.YtgkgpdionhfkmaaTextAll
import Derived.ProofKit
import Derived.OpenShut
import Derived.ChangeMaps5
import Derived.Lib.SmallJoins
namespace Go.Proofs.Ytgkgpdionhfkmaa
namespace ExactFrameTextLaw
open Go.ChangeShapes Go.WideShapes Go.ChangeAt Go.RowKit Go.Joins

theorem own : ownKnob Try.prog.godebug = none := by kernel_rfl
theorem cellsF : Try.prog.cellsOf 23 = 4 := by kernel_rfl

set_option maxRecDepth 100000 in
theorem lifted (os : Os) (started : os.Started) (H : Type) (enc : TypeId × Value → H) :
    ReturnsInHanded {} Try.checked os 5 .any (Rows.fnExactFrameTextSpec.pre6 enc Try.prog Try.f5 Rows.fnExactFrameTextRow.domain false) (Rows.fnExactFrameTextSpec.post enc Try.prog Try.f5 false true false false) := by
  refine returnsInHanded_of_change (C := Try.checked) own started (by kernel_rfl) Try.func5
    (ChangeSpec.witness6 (enc := enc) (C := Try.checked) false ⟨#[], #[.agg #[.int .i64 0, .int .i64 0, .int .i64 0, .string ⟨#[]⟩]], []⟩ 8 (by kernel_rfl) (by kernel_rfl) (by kernel_rfl) (by kernel_rfl)) ?_
  intro W base args ds gs before hval0 hW hcnd _
  have hval : ∀ (j : Nat) t v, Try.f5.params[j]? = some t → args[j]? = some v → Value.okWide Try.prog W .any base t v := hval0
  have hW' := hW
  obtain ⟨p, q, hA0, hV, rfl, hfz, hnd⟩ := hW
  have hA : DataW.TrodAll enc Try.prog W 0 (fun _ => true) true Try.f5.params.toList args.toList ds p := hA0
  rw [Try.params5] at hA hval
  obtain ⟨v0, d0, rfl, rfl, h0⟩ := trodAll_one hA
  obtain ⟨rfl, rfl⟩ := trodVars_none hV
  obtain ⟨c0, c1, c2, c3, y0, y1, y2, y3, m, rfl, rfl, rfl, hy0, hy1, hy2, hy3⟩ := open_agg4 Try.underlying23 (by kernel_rfl) cellsF (hval 0 23 v0 rfl rfl) h0
  obtain ⟨u, e0, rfl, wu⟩ := DataW.trod_int Try.underlying2 hy0
  obtain ⟨k, e1, rfl, wk⟩ := DataW.trod_int Try.underlying2 hy1
  obtain ⟨s, e2, rfl, ws⟩ := DataW.trod_int Try.underlying2 hy2
  obtain ⟨b, e3, rfl, wb⟩ := DataW.trod_string Try.underlying9 hy3
  simp at e0 e1 e2 e3
  subst e0 e1 e2 e3
  clear hA0 hval0
  simp only [List.append_nil] at hW'
  have hm : b.size ≤ 9223372036854775807 := by unfold maxLen at wb; omega
  have structReads : ∀ (W' : World) (sp : Nat → Bool), DataW.Trod enc Try.prog W' 0 sp true 23 (.agg #[.int .i64 u, .int .i64 k, .int .i64 s, .string b]) (.agg [.lit (.int .i64 u), .lit (.int .i64 k), .lit (.int .i64 s), .lit (.string b.data.toList)]) [] := fun W' sp =>
    shut_agg4 (y0 := (.lit (.int .i64 u), [])) (y1 := (.lit (.int .i64 k), [])) (y2 := (.lit (.int .i64 s), [])) (y3 := (.lit (.string b.data.toList), [])) Try.underlying23 (by kernel_rfl) cellsF ⟨1, by simp [DataW.trod, Try.underlying2, wu]⟩ ⟨1, by simp [DataW.trod, Try.underlying2, wk]⟩ ⟨1, by simp [DataW.trod, Try.underlying2, ws]⟩ ⟨1, by simp [DataW.trod, Try.underlying9, wb]⟩
  have law_any : Calls Try.prog 5 #[.agg #[.int .i64 u, .int .i64 k, .int .i64 s, .string b]] W fun e w' => e = .returned (.bool true) ∧ Below W.heap.size W w' := by
    by_cases hn : b.size ≤ 1048576
    · exact text_all u k s b hn W
    · exact text_law_over u k s b (by omega) hm W
  refine law_any.mono fun e W' ⟨he, bel⟩ => ?_
  subst he
  exact ⟨_, rfl, _, _, _, [], [], [], hW', trodAll_mk1 (shut_bool Try.underlying4 _), trodAll_mk1 (structReads _ _), rfl, bel.frame _, fun h => by cases h⟩

theorem proved : Rows.FnExactFrameTextSaid :=
  OpenClaim.holds_of_wide 5 Try.f5 rfl rfl rfl rfl rfl rfl rfl ⟨rfl, rfl, rfl, rfl, rfl⟩ rfl rfl rfl rfl rfl (by kernel_rfl) Try.func5 (by kernel_rfl)
    (of_decide_eq_true (by kernel_rfl)) (by unfold Func.isWrapper; first | (rw [if_pos (by decide +kernel)]; kernel_rfl) | (rw [if_neg (by decide +kernel)]; exact ⟨rfl, rfl⟩))
    (fun os started H enc _ => lifted os started H enc)
end ExactFrameTextLaw

theorem fnExactFrameText_holds : Rows.FnExactFrameTextSaid := ExactFrameTextLaw.proved
#print axioms fnExactFrameText_holds
end Go.Proofs.Ytgkgpdionhfkmaa
