/-
  Proved here: at every argument that can be handed in, the law FnExactFracMul returns true, that is, the program's FracMul answers as the model's, in every field; the package variable errors.errorType starts as the program's text lays it (the card ties it); no condition beyond the given row's own. The card ties to the pruned copy of the project that the seat holds.
-/
import Derived.Test.YtemmmhkjjcmcmajDoorRows
import Derived.Test.YtemmmhkjjcmcmajDoorCards
import Derived.Test.YtemmmhkjjcmcmajDoorTie
import Derived.Test.YtemmmhkjjcmcmajDoorOpMul
import Derived.Deep.DeepCutAuto
import Derived.ProofKit
import Derived.OpenShut
import Derived.Lib.SmallJoins
import Derived.Deep.RegionHeld3
import Derived.ChangeSame
import Derived.ChangeVars
import Derived.JoinedOf
import Derived.RowKitTokens
import Derived.LaidLaws
import Derived.LaidHandle
import Derived.Stop.Joined
import Derived.SevenTiedAt
namespace Go.Proofs.YtemmmhkjjcmcmajDoor
namespace ExactFracMul
open Go Go.ChangeShapes Go.WideShapes Go.ChangeAt Go.RowKit Go.Joins

set_option maxHeartbeats 20000000 in
theorem law (n1 d1 n2 d2 : Int) (w : World) (h1 : -9223372036854775808 ≤ n1) (h2 : n1 ≤ 9223372036854775807) (h3 : -9223372036854775808 ≤ d1) (h4 : d1 ≤ 9223372036854775807) (h5 : -9223372036854775808 ≤ n2) (h6 : n2 ≤ 9223372036854775807) (h7 : -9223372036854775808 ≤ d2) (h8 : d2 ≤ 9223372036854775807) (hg : w.cell? ⟨0, 0, none⟩ = some (.iface 95 (.agg #[.pointer (some ⟨7, 38, none⟩)]))) :
    Calls Tryd.prog 4 #[.agg #[.int .i64 n1, .int .i64 d1], .agg #[.int .i64 n2, .int .i64 d2]] w fun e w' => e = .returned (.bool true) ∧ Below w.heap.size w w' := by
  have hgl : 0 < w.heap.size := World.block_lt_of_cell? _ _ hg
  have Hg : Hid (w.cell? ⟨0, 0, none⟩ = some (.iface 95 (.agg #[.pointer (some ⟨7, 38, none⟩)]))) := hg
  clear hg
  go_enter Tryd.func4, Tryd.ntmps4
  go_wp2_with fail
  go_cut [5] (fun s wx => ∃ b, s = .pointer (some ⟨b, 0, none⟩) ∧ w.heap.size + 2 ≤ b ∧ b < wx.heap.size ∧ wx.cell? ⟨b, 0, none⟩ = some (.int .i64 (M.xN (M.rightB n1 d1 && M.rightB n2 d2) (n1 * n2) (d1 * d2))) ∧ wx.cell? ⟨b, 1, none⟩ = some (.int .i64 (M.xD (M.rightB n1 d1 && M.rightB n2 d2) (n1 * n2) (d1 * d2))) ∧ wx.cell? ⟨b, 2, none⟩ = some (.int .i64 (M.xC (M.rightB n1 d1 && M.rightB n2 d2) (n1 * n2) (d1 * d2))) ∧ wx.cell? ⟨w.heap.size, 0, none⟩ = some (.int .i64 n1) ∧ wx.cell? ⟨w.heap.size, 1, none⟩ = some (.int .i64 d1) ∧ wx.cell? ⟨w.heap.size + 1, 0, none⟩ = some (.int .i64 n2) ∧ wx.cell? ⟨w.heap.size + 1, 1, none⟩ = some (.int .i64 d2) ∧ w.heap.size + 1 < wx.heap.size ∧ Hid (Below w.heap.size w wx))
  case first =>
    go_region_held3 (fun w' => w'.cell? ⟨w.heap.size, 0, none⟩ = some (.int .i64 n1) ∧ w'.cell? ⟨w.heap.size, 1, none⟩ = some (.int .i64 d1) ∧ w'.cell? ⟨w.heap.size + 1, 0, none⟩ = some (.int .i64 n2) ∧ w'.cell? ⟨w.heap.size + 1, 1, none⟩ = some (.int .i64 d2) ∧ w.heap.size + 1 < w'.heap.size ∧ Hid (Below w.heap.size w w')) (first | exact two_later (Below.refl _ _).drew | exact two_keep (Below.refl _ _).drew (by assumption) | exact two_keep (by assumption) (by assumption) | exact two_keep ((Below.refl _ _).alloc (Nat.le_refl _) _) (by assumption) | exact two_swap (by omega) (by assumption) | exact two_sets (by omega) (by assumption) | (trace_state; fail)) (first | (go_at_call 9; refine (toFrac_any _ _ _).mono ?_; rintro e w' ⟨rfl, hb⟩; have hsz := hb.size; (try simp at hsz); (first | (refine and6 (slot_new hb) ?_; intro c0 c1 c2 f0 f1 f2; (try simp only [World.size_alloc] at c0 c1 c2 f0 f1 f2)) | (refine and6 (slot_newD hb) ?_; intro c0 c1 c2 f0 f1 f2; (try simp only [World.size_alloc] at c0 c1 c2 f0 f1 f2)) | (refine and6 (slot_keep hb (and6_of ‹_› ‹_› ‹_› ‹_› ‹_› ‹_›)) ?_; intro c0 c1 c2 f0 f1 f2) | skip)) | (go_at_call 12; refine (specMul_any _ _ _ _ _).mono ?_; rintro e w' ⟨rfl, hb⟩; have hsz := hb.size; (try simp at hsz); (first | (refine and6 (slot_new hb) ?_; intro c0 c1 c2 f0 f1 f2; (try simp only [World.size_alloc] at c0 c1 c2 f0 f1 f2)) | (refine and6 (slot_newD hb) ?_; intro c0 c1 c2 f0 f1 f2; (try simp only [World.size_alloc] at c0 c1 c2 f0 f1 f2)) | (refine and6 (slot_keep hb (and6_of ‹_› ‹_› ‹_› ‹_› ‹_› ‹_›)) ?_; intro c0 c1 c2 f0 f1 f2) | skip)))
    all_goals (go_wp2_with fail; go_meet)
    all_goals
      refine ⟨_, rfl, ?_, ?_, ?_, ?_, ?_, by assumption⟩
      · omega
      · first | (simp; done) | (simp; omega)
      · first | (simp; done) | exact (read_set3 (by assumption) (by assumption) (by assumption) _ _ _).1
      · first | (simp; done) | exact (read_set3 (by assumption) (by assumption) (by assumption) _ _ _).2.1
      · first | (simp; done) | exact (read_set3 (by assumption) (by assumption) (by assumption) _ _ _).2.2
  case rest =>
    obtain ⟨b, rfl, hb0, hb1, s0, s1, s2, hS⟩ := hcut
    generalize hx : M.xN (M.rightB n1 d1 && M.rightB n2 d2) (n1 * n2) (d1 * d2) = x at *
    generalize hy : M.xD (M.rightB n1 d1 && M.rightB n2 d2) (n1 * n2) (d1 * d2) = y at *
    generalize hz : M.xC (M.rightB n1 d1 && M.rightB n2 d2) (n1 * n2) (d1 * d2) = z at *
    have HG2 : Hid (∀ wx, Hid (Below w.heap.size w wx) → wx.cell? ⟨0, 0, none⟩ = some (.iface 95 (.agg #[.pointer (some ⟨7, 38, none⟩)]))) := fun wx hB => (hB.out.cell hgl).trans Hg.out
    have HI : Hid (∀ wx, Hid (Below w.heap.size w wx) → Calls Tryd.prog 13 #[.agg #[.int .i64 n1, .int .i64 d1], .agg #[.int .i64 n2, .int .i64 d2]] wx fun e w' => e = .returned (.agg #[.int .i64 x, .int .i64 y, .int .i64 z]) ∧ Below wx.heap.size wx w') := fun wx hB => by
      have h := implMul_any n1 d1 n2 d2 wx h1 h2 h3 h4 h5 h6 h7 h8 (HG2.out wx hB)
      rw [opV, hx, hy, hz] at h
      exact h
    clear hx hy hz HG2
    have HS : Hid (wc.cell? ⟨w.heap.size, 0, none⟩ = some (.int .i64 n1) ∧ wc.cell? ⟨w.heap.size, 1, none⟩ = some (.int .i64 d1) ∧ wc.cell? ⟨w.heap.size + 1, 0, none⟩ = some (.int .i64 n2) ∧ wc.cell? ⟨w.heap.size + 1, 1, none⟩ = some (.int .i64 d2) ∧ w.heap.size + 1 < wc.heap.size ∧ Hid (Below w.heap.size w wc)) := hS
    have HB0 : Hid (Below w.heap.size w wc) := hS.2.2.2.2.2
    have zw : w.heap.size + 1 < wc.heap.size := hS.2.2.2.2.1
    have HT : Hid (wc.cell? ⟨b, 0, none⟩ = some (.int .i64 x) ∧ wc.cell? ⟨b, 1, none⟩ = some (.int .i64 y) ∧ wc.cell? ⟨b, 2, none⟩ = some (.int .i64 z)) := ⟨s0, s1, s2⟩
    have HI2 : Hid (∀ wx, (wx.cell? ⟨w.heap.size, 0, none⟩ = some (.int .i64 n1) ∧ wx.cell? ⟨w.heap.size, 1, none⟩ = some (.int .i64 d1) ∧ wx.cell? ⟨w.heap.size + 1, 0, none⟩ = some (.int .i64 n2) ∧ wx.cell? ⟨w.heap.size + 1, 1, none⟩ = some (.int .i64 d2) ∧ wc.heap.size ≤ wx.heap.size ∧ Hid (Below wc.heap.size wc wx)) → Calls Tryd.prog 13 #[.agg #[.int .i64 n1, .int .i64 d1], .agg #[.int .i64 n2, .int .i64 d2]] wx fun e w' => e = .returned (.agg #[.int .i64 x, .int .i64 y, .int .i64 z]) ∧ Below wx.heap.size wx w') := fun wx h => HI.out wx (HB0.out.trans (h.2.2.2.2.2.out.mono (by omega)))
    clear hS s0 s1 s2 HI
    go_wp2_with fail
    go_cut [6] (fun s wx => ∃ b, s = .pointer (some ⟨b, 0, none⟩) ∧ wx.cell? ⟨b, 0, none⟩ = some (.int .i64 x) ∧ wx.cell? ⟨b, 1, none⟩ = some (.int .i64 y) ∧ wx.cell? ⟨b, 2, none⟩ = some (.int .i64 z) ∧ wx.cell? ⟨w.heap.size, 0, none⟩ = some (.int .i64 n1) ∧ wx.cell? ⟨w.heap.size, 1, none⟩ = some (.int .i64 d1) ∧ wx.cell? ⟨w.heap.size + 1, 0, none⟩ = some (.int .i64 n2) ∧ wx.cell? ⟨w.heap.size + 1, 1, none⟩ = some (.int .i64 d2) ∧ wc.heap.size ≤ wx.heap.size ∧ Hid (Below wc.heap.size wc wx))
    case first =>
      go_region_held3 (fun w' => w'.cell? ⟨w.heap.size, 0, none⟩ = some (.int .i64 n1) ∧ w'.cell? ⟨w.heap.size, 1, none⟩ = some (.int .i64 d1) ∧ w'.cell? ⟨w.heap.size + 1, 0, none⟩ = some (.int .i64 n2) ∧ w'.cell? ⟨w.heap.size + 1, 1, none⟩ = some (.int .i64 d2) ∧ wc.heap.size ≤ w'.heap.size ∧ Hid (Below wc.heap.size wc w')) (first | exact fromC HS (Below.refl _ _).drew | exact keepC HS (by assumption) (by assumption) | exact keepC HS ((Below.refl _ _).alloc (Nat.le_refl _) _) (by assumption) | exact swapC HS (by omega) (by assumption) | exact setsC HS (by omega) (by assumption)) (first | (go_at_call 9; refine (toFrac_any _ _ _).mono ?_; rintro e w' ⟨rfl, hb⟩; have hsz := hb.size; (try simp at hsz); (first | (refine and6 (slot_new hb) ?_; intro c0 c1 c2 f0 f1 f2; (try simp only [World.size_alloc] at c0 c1 c2 f0 f1 f2)) | (refine and6 (slot_newD hb) ?_; intro c0 c1 c2 f0 f1 f2; (try simp only [World.size_alloc] at c0 c1 c2 f0 f1 f2)) | (refine and6 (slot_keep hb (and6_of ‹_› ‹_› ‹_› ‹_› ‹_› ‹_›)) ?_; intro c0 c1 c2 f0 f1 f2) | skip)) | (go_at_call 13; refine (HI2.out _ (by assumption)).mono ?_; rintro e w' ⟨rfl, hb⟩; have hsz := hb.size; (try simp at hsz); (first | (refine and6 (slot_new hb) ?_; intro c0 c1 c2 f0 f1 f2; (try simp only [World.size_alloc] at c0 c1 c2 f0 f1 f2)) | (refine and6 (slot_newD hb) ?_; intro c0 c1 c2 f0 f1 f2; (try simp only [World.size_alloc] at c0 c1 c2 f0 f1 f2)) | (refine and6 (slot_keep hb (and6_of ‹_› ‹_› ‹_› ‹_› ‹_› ‹_›)) ?_; intro c0 c1 c2 f0 f1 f2) | skip)))
      all_goals (go_wp2_with fail; go_meet)
      all_goals
        refine ⟨_, rfl, ?_, ?_, ?_, by assumption⟩
        · first | (simp; done) | exact (read_set3 (by assumption) (by assumption) (by assumption) _ _ _).1
        · first | (simp; done) | exact (read_set3 (by assumption) (by assumption) (by assumption) _ _ _).2.1
        · first | (simp; done) | exact (read_set3 (by assumption) (by assumption) (by assumption) _ _ _).2.2
    case rest =>
      obtain ⟨b2, rfl, q0, q1, q2, hS2⟩ := hcut
      have hB2 := hS2.2.2.2.2.2.out
      have z2 := hS2.2.2.2.2.1
      have t0 := (hB2.cell (p := ⟨b, 0, none⟩) hb1).trans HT.out.1
      have t1 := (hB2.cell (p := ⟨b, 1, none⟩) hb1).trans HT.out.2.1
      have t2 := (hB2.cell (p := ⟨b, 2, none⟩) hb1).trans HT.out.2.2
      have HB2 : Hid (Below w.heap.size w _) := HB0.out.trans (hB2.mono (by omega))
      clear hS2 hB2
      go_wp2_with fail
      refine (eqOut_same _ _ _ _).mono ?_
      rintro e w3 ⟨rfl, hb3⟩
      have HB3 : Hid (Below w.heap.size w w3) := HB2.out.trans (hb3.mono (by omega))
      clear hb3
      go_wp2_with fail
      go_ret
      exact ⟨rfl, HB3.out⟩

theorem own : ownKnob Tryd.prog.godebug = none := by kernel_rfl
theorem et : Tryd.prog.globalNamed "errors.errorType" = some 0 := by kernel_rfl
theorem rt : (Tryd.prog.cutTypes.find? (·.1 == "internal/reflectlite.rtype")).map (·.2) = some 95 := by kernel_rfl
theorem oneRow : ((List.range 159).filter fun t => Tryd.prog.rowNamed t [101, 114, 114, 111, 114]) = [38] := by kernel_rfl
theorem size : Tryd.prog.types.size = 159 := by kernel_rfl
theorem cellsF : Tryd.prog.cellsOf 23 = 2 := by kernel_rfl

/-- What the condition gives a walk: the variable's one cell. -/
theorem handle_of_laid {W : World} (h : laidMetH Tryd.prog Rows.fnExactFracMulRow.laid W) : W.cell? ⟨0, 0, none⟩ = some (.iface 95 (.agg #[.pointer (some ⟨7, 38, none⟩)])) := by
  have h' : laidMet Tryd.prog [] W ∧ handlesMet Tryd.prog Rows.fnExactFracMulRow.laid W := h
  obtain ⟨name, u, ty, e1, e2, e3, e4, e5⟩ := h'.2 _ (List.mem_singleton.2 rfl)
  have en : name = [101, 114, 114, 111, 114] := (Option.some.inj e1).symm
  subst en
  obtain rfl := Option.some.inj (rt.symm.trans e2)
  have hm : ty ∈ (List.range 159).filter fun t => Tryd.prog.rowNamed t [101, 114, 114, 111, 114] := List.mem_filter.2 ⟨List.mem_range.2 (by rw [← size]; exact e3), e4⟩
  rw [oneRow] at hm
  obtain rfl := List.mem_singleton.1 hm
  have hh : typeHandle Tryd.prog 38 = .pointer (some ⟨7, 38, none⟩) := by kernel_rfl
  rw [hh] at e5
  simpa using World.var?_cell et e5 0

theorem laidWorld_met (os : Os) (args : Array Value) : laidMetH Tryd.prog Rows.fnExactFracMulRow.laid (((let w0 := World.holding Tryd.prog os ⟨#[], #[], []⟩
      { w0 with heap := w0.heap.modify 0 fun
        | .cells _ t frozen => .cells #[.iface 95 (.agg #[.pointer (some ⟨7, 38, none⟩)])] t frozen
        | o => o } : World)).forCall (fun _ _ => 0) ⟨#[], args, []⟩).memory :=
  laidMetH_of_parts (laidMet_nil _ _) (by kernel_rfl)

set_option maxRecDepth 100000 in
theorem lifted (os : Os) (started : os.Started) (H : Type) (enc : TypeId × Value → H) :
    ReturnsInHanded {} Tryd.checked os 4 .any (fun w args => (Rows.fnExactFracMulSpec.pre enc Tryd.prog Tryd.f4 [] false w args ∧ laidMetH Tryd.prog Rows.fnExactFracMulRow.laid w) ∧ sizedMet enc Tryd.prog Tryd.f4 (OpenSpec.ofChange Rows.fnExactFracMulSpec) false w args)
      (Rows.fnExactFracMulSpec.post enc Tryd.prog Tryd.f4 false true false false) := by
  refine returnsInHanded_of_change_and (C := Tryd.checked) (X := fun w _ => laidMetH Tryd.prog Rows.fnExactFracMulRow.laid w) (fun _ _ _ hh h => h.of_heap hh) own started (by kernel_rfl) Tryd.func4
    (ChangeSpec.witness_at (enc := enc) (C := Tryd.checked) (os := os) (X := fun w _ => laidMetH Tryd.prog Rows.fnExactFracMulRow.laid w) false (let w0 := World.holding Tryd.prog os ⟨#[], #[], []⟩
      { w0 with heap := w0.heap.modify 0 fun
        | .cells _ t frozen => .cells #[.iface 95 (.agg #[.pointer (some ⟨7, 38, none⟩)])] t frozen
        | o => o } : World) #[.agg #[.int .i64 0, .int .i64 0], .agg #[.int .i64 0, .int .i64 0]] 8 rfl (by kernel_rfl) (by kernel_rfl) (by kernel_rfl) (by kernel_rfl) (by kernel_rfl) (laidWorld_met os _)) ?_
  intro W base args ds gs before hval0 hW _ _ hL _
  have hval : ∀ (j : Nat) t v, Tryd.f4.params[j]? = some t → args[j]? = some v → Value.okWide Tryd.prog W .any base t v := hval0
  have hW' := hW
  obtain ⟨p, q, hA0, hV0, rfl, hfz, hnd⟩ := hW
  have hA : DataW.TrodAll enc Tryd.prog W 0 (fun _ => true) true Tryd.f4.params.toList args.toList ds p := hA0
  have hV : DataW.TrodVars enc Tryd.prog W (fun _ => true) [] gs q := hV0
  rw [Tryd.params4] at hA hval
  obtain ⟨v0, v1, d0, d1, p0, p1, rfl, rfl, rfl, h0, h1⟩ := trodAll_two hA
  obtain ⟨c00, c01, y00, y01, m0, rfl, rfl, rfl, hy00, hy01⟩ := open_agg2 Tryd.underlying23 (by kernel_rfl) cellsF (hval 0 23 v0 rfl rfl) h0
  obtain ⟨a0, e00, rfl, wa0⟩ := DataW.trod_int Tryd.underlying2 hy00
  obtain ⟨b0, e01, rfl, wb0⟩ := DataW.trod_int Tryd.underlying2 hy01
  simp at e00 e01
  subst e00 e01
  have structReads0 : ∀ (W' : World) (sp : Nat → Bool), DataW.Trod enc Tryd.prog W' 0 sp true 23 (.agg #[.int .i64 a0, .int .i64 b0]) (.agg [.lit (.int .i64 a0), .lit (.int .i64 b0)]) [] := fun W' sp =>
    shut_agg2 (y0 := (.lit (.int .i64 a0), [])) (y1 := (.lit (.int .i64 b0), [])) Tryd.underlying23 (by kernel_rfl) cellsF ⟨1, by simp [DataW.trod, Tryd.underlying2, wa0]⟩ ⟨1, by simp [DataW.trod, Tryd.underlying2, wb0]⟩
  have ba0 := bounds_i64 wa0
  have bb0 := bounds_i64 wb0
  obtain ⟨c10, c11, y10, y11, m1, rfl, rfl, rfl, hy10, hy11⟩ := open_agg2 Tryd.underlying23 (by kernel_rfl) cellsF (hval 1 23 v1 rfl rfl) h1
  obtain ⟨a1, e10, rfl, wa1⟩ := DataW.trod_int Tryd.underlying2 hy10
  obtain ⟨b1, e11, rfl, wb1⟩ := DataW.trod_int Tryd.underlying2 hy11
  simp at e10 e11
  subst e10 e11
  have structReads1 : ∀ (W' : World) (sp : Nat → Bool), DataW.Trod enc Tryd.prog W' 0 sp true 23 (.agg #[.int .i64 a1, .int .i64 b1]) (.agg [.lit (.int .i64 a1), .lit (.int .i64 b1)]) [] := fun W' sp =>
    shut_agg2 (y0 := (.lit (.int .i64 a1), [])) (y1 := (.lit (.int .i64 b1), [])) Tryd.underlying23 (by kernel_rfl) cellsF ⟨1, by simp [DataW.trod, Tryd.underlying2, wa1]⟩ ⟨1, by simp [DataW.trod, Tryd.underlying2, wb1]⟩
  have ba1 := bounds_i64 wa1
  have bb1 := bounds_i64 wb1
  have hg := handle_of_laid hL
  obtain ⟨rfl, rfl⟩ : gs = [] ∧ q = [] := by
    cases gs with
    | nil => exact ⟨rfl, hV⟩
    | cons g r => exact absurd hV (by intro h; cases h)
  have e1 : Rows.fnExactFracMulSpec.fn H ([.agg [.lit (.int .i64 a0), .lit (.int .i64 b0)], .agg [.lit (.int .i64 a1), .lit (.int .i64 b1)]] ++ []) = { results := [.lit (.bool true)], args := [.agg [.lit (.int .i64 a0), .lit (.int .i64 b0)], .agg [.lit (.int .i64 a1), .lit (.int .i64 b1)]] } := by simp [Rows.fnExactFracMulSpec]
  refine (law a0 b0 a1 b1 W ba0.1 ba0.2 bb0.1 bb0.2 ba1.1 ba1.2 bb1.1 bb1.2 hg).mono fun e W' ⟨he, bel⟩ => ?_
  subst he
  refine ⟨_, rfl, _, _, _, [], [], [], hW', ?_, ?_, ?_, bel.frame _, fun h => by cases h⟩
  · rw [e1]; exact trodAll_mk1 (shut_bool Tryd.underlying4 true)
  · rw [e1]; exact trodAll_mk2 (structReads0 _ _) (structReads1 _ _)
  · rw [e1]; rfl

theorem row_holds : Rows.FnExactFracMulSaid :=
  OpenClaim.holds_of_wide 4 Tryd.f4 rfl rfl rfl rfl rfl rfl rfl ⟨rfl, rfl, rfl, rfl, rfl⟩ rfl rfl rfl rfl rfl (by kernel_rfl) Tryd.func4 (by kernel_rfl)
    (of_decide_eq_true (by kernel_rfl)) (by unfold Func.isWrapper; rw [if_neg (of_decide_eq_false (by kernel_rfl))]; exact ⟨rfl, rfl⟩)
    (fun os started H enc _ => lifted os started H enc)

theorem card : Rows.FnExactFracMulCardSaid :=
  Claim7.holds_tied_plain_at .later [] [.handle] true Rows.fnExactFracMulCard.stood.harness true
    row_holds (fun _ h => by cases h) (by kernel_rfl) (fun _ h => by cases h) fnExactFracMul_row_tie rfl ⟨rfl, rfl⟩ (by kernel_rfl) rfl
    (fun f fn hf hfn => by
      obtain rfl : f = 4 := Option.some.inj ((show Tryd.prog.funcNamed Tryd.f4.name = some 4 by kernel_rfl).symm.trans hf) |>.symm
      obtain rfl : fn = Tryd.f4 := (Option.some.inj (Tryd.func4.symm.trans hfn)).symm
      exact ⟨by kernel_rfl, fun j t ht => by
        rw [Tryd.params4] at ht
        have h3 : t = 23 := by
          rcases j with _ | _ | j
          · simpa using ht.symm
          · simpa using ht.symm
          · simp at ht
        subst h3
        exact (show Tryd.prog.wantsStandIn 23 = false by kernel_rfl)⟩)
    (by kernel_rfl)
end ExactFracMul

theorem exactFracMul_holds : Rows.FnExactFracMulCardSaid := ExactFracMul.card
#print axioms exactFracMul_holds
end Go.Proofs.YtemmmhkjjcmcmajDoor
