/-
  The laws' conversion of a filter, comparison and marks of what a filter tells.
-/
import Derived.Test.YtcjeieagpcphjaaDoorWkFl1
namespace Go.Proofs.YtcjeieagpcphjaaDoor
open Go.RowKit Go.Deep

theorem fo_row (w : World) (A : Wk.FO) (ax : Option Addr) (kx : Nat) (ay : Option Addr) (ky : Nat) : (w.alloc (foO A ax kx ay ky)).rowIs w.heap.size 54 10 (rowL (foL A ax kx ay ky)) := rowL_alloc w (foL A ax kx ay ky) 54
theorem row4_sets {w : World} {g : Nat} {t : TypeId} {F : Nat → Value} (h : w.rowIs g t 4 F) (a b c d : Value) : (setAll g 0 [a, b, c, d] w).rowIs g t 4 (rowL [a, b, c, d]) := setAll_row [a, b, c, d] h rfl
set_option maxRecDepth 100000 in
set_option maxHeartbeats 4000000 in
theorem toFilter_any (fl : Wk.Fl) (w : World) :
    Calls Tryd.prog 7 #[flV fl] w fun e w' => e = .returned (flV fl) ∧ Below w.heap.size w w' := by
  obtain ⟨W, hW⟩ : ∃ W, W = ((w.alloc (.cells #[.int .i64 fl.held, .int .i64 fl.most, .int .i64 fl.catch_, .int .i64 fl.wash] 23)).alloc (.cells #[.int .i64 0, .int .i64 0, .int .i64 0, .int .i64 0] 29)).alloc (.cells #[.int .i64 0, .int .i64 0, .int .i64 0, .int .i64 0] 29) := ⟨_, rfl⟩
  have HB : Hid (Below w.heap.size w W) := by show Below _ _ _; rw [hW]; exact (((Below.refl _ _).alloc (Nat.le_refl _) _).alloc (by simp) _).alloc (by simp; omega) _
  clear hW
  go_enter Tryd.func7, Tryd.ntmps7
  go_wp2_with fail
  refine bodyPost_ret (v := flV fl) ?_ rfl ⟨rfl, ?_⟩
  · simp [results, Tryd.results7, go_sem]
  · exact (((Below.refl _ _).alloc (Nat.le_refl _) _).alloc (by simp) _).alloc (by simp; omega) _
set_option maxRecDepth 100000 in
set_option maxHeartbeats 4000000 in
theorem eqFilter_same (fl : Wk.Fl) (w : World) :
    Calls Tryd.prog 28 #[flV fl, flV fl] w fun e w' => e = .returned (.bool true) ∧ Below w.heap.size w w' := by
  go_enter Tryd.func28, Tryd.ntmps28
  go_wp2_with fail
  go_ret
  exact ⟨rfl, ((Below.refl _ _).alloc (Nat.le_refl _) _).alloc (by simp) _⟩
/-- An answer of two batches, laid in a box. -/
structure FoM (lo hi : Nat) (A : Wk.FO) (ax : Option Addr) (kx : Nat) (ay : Option Addr) (ky : Nat) (gb : Nat) (W : World) : Prop where
  row : W.rowIs gb 54 10 (rowL (foL A ax kx ay ky))
  two : TwM lo hi ax A.clean.n kx A.clean.f ay A.waste.n ky A.waste.f W
  bd : lo ≤ gb ∧ gb < hi
  far : ∀ g, (atP ax g ∨ atP ay g) → g ≠ gb
theorem FoM.same {lo hi : Nat} {A : Wk.FO} {ax : Option Addr} {kx : Nat} {ay : Option Addr} {ky gb : Nat} {W W' : World} (h : FoM lo hi A ax kx ay ky gb W) (hb : ∀ g, lo ≤ g → g < hi → g < W.heap.size → W'.heap[g]? = W.heap[g]?) : FoM lo hi A ax kx ay ky gb W' := ⟨h.row.of_block (hb _ h.bd.1 h.bd.2 h.row.lt), h.two.same hb, h.bd, h.far⟩
theorem FoM.below {lo hi : Nat} {A : Wk.FO} {ax : Option Addr} {kx : Nat} {ay : Option Addr} {ky gb : Nat} {W W' : World} (h : FoM lo hi A ax kx ay ky gb W) (hb : Below W.heap.size W W') : FoM lo hi A ax kx ay ky gb W' := h.same (fun g _ _ hl => hb.block g hl)
theorem foM_of {lo : Nat} {A : Wk.FO} {ax : Option Addr} {kx : Nat} {ay : Option Addr} {ky : Nat} {W : World} (h : TwM lo W.heap.size ax A.clean.n kx A.clean.f ay A.waste.n ky A.waste.f W) (hl : lo ≤ W.heap.size) : FoM lo (W.heap.size + 1) A ax kx ay ky W.heap.size (W.alloc (foO A ax kx ay ky)) :=
  ⟨fo_row W A ax kx ay ky, (h.below (bel_alloc _ _)).mono (Nat.le_refl _) (by omega), ⟨hl, by omega⟩, fun g hg => by
    rcases hg with hg | hg
    · have := h.px.atp hg; omega
    · have := h.py.atp hg; omega⟩
end Go.Proofs.YtcjeieagpcphjaaDoor
