/-
  Filters: rows of many cells, and the small contracts.
-/
import Derived.Test.YtcjeieagpcphjaaDoorWkSp
import Derived.Lib.SliceRun
namespace Go.Proofs.YtcjeieagpcphjaaDoor
open Go.RowKit Go.Deep

/-- Cells of a block, stored one behind the other. -/
def setAll (g : Nat) : Nat → List Value → World → World
  | _, [], w => w
  | i, x :: l, w => setAll g (i + 1) l (w.setCell ⟨g, i, none⟩ x)
theorem setAll_part {g : Nat} {t : TypeId} {n : Nat} : ∀ (l : List Value) (i : Nat) (w : World) (F : Nat → Value), w.rowIs g t n F → (setAll g i l w).rowIs g t n (fun j => if i ≤ j ∧ j < i + l.length then l.getD (j - i) undef else F j)
  | [], i, _, F, h => h.congr (fun j _ => by simp; omega)
  | x :: l, i, w, F, h => by
    refine (setAll_part l (i + 1) (w.setCell ⟨g, i, none⟩ x) _ (h.set i x)).congr (fun j _ => ?_)
    by_cases e : j = i
    · subst e
      rw [if_neg (by omega), if_pos rfl, if_pos (by simp)]
      simp
    · by_cases h1 : i + 1 ≤ j ∧ j < i + 1 + l.length
      · rw [if_pos h1, if_pos (by simp; omega)]
        have : j - i = (j - (i + 1)) + 1 := by omega
        rw [this]; simp
      · rw [if_neg h1, if_neg e, if_neg (by simp; omega)]
theorem setAll_row {g : Nat} {t : TypeId} {n : Nat} {w : World} {F : Nat → Value} (l : List Value) (h : w.rowIs g t n F) (hl : l.length = n) : (setAll g 0 l w).rowIs g t n (rowL l) :=
  (setAll_part l 0 w F h).congr (fun j hj => by rw [if_pos (by omega)]; simp [rowL])
theorem setAll_far {g k : Nat} (hk : k ≠ g) : ∀ (l : List Value) (i : Nat) (w : World), (setAll g i l w).heap[k]? = w.heap[k]?
  | [], _, _ => rfl
  | x :: l, i, w => (setAll_far hk l (i + 1) (w.setCell ⟨g, i, none⟩ x)).trans (Below.heap_setCell _ ⟨g, i, none⟩ _ _ hk)
theorem setAll_below {a : World} {g : Nat} (hg : a.heap.size ≤ g) : ∀ (l : List Value) (i : Nat) (w : World), Below a.heap.size a w → Below a.heap.size a (setAll g i l w)
  | [], _, _, h => h
  | x :: l, i, _, h => setAll_below hg l (i + 1) _ (h.setCell (p := ⟨g, i, none⟩) hg x)

theorem row10_cells {w : World} {g : Nat} {t : TypeId} {x0 x1 x2 x3 x4 x5 x6 x7 x8 x9 : Value} (h : w.rowIs g t 10 (rowL [x0, x1, x2, x3, x4, x5, x6, x7, x8, x9])) : (w.cell? ⟨g, 0, none⟩ = some x0 ∧ w.cell? ⟨g, 1, none⟩ = some x1 ∧ w.cell? ⟨g, 2, none⟩ = some x2 ∧ w.cell? ⟨g, 3, none⟩ = some x3 ∧ w.cell? ⟨g, 4, none⟩ = some x4) ∧ (w.cell? ⟨g, 5, none⟩ = some x5 ∧ w.cell? ⟨g, 6, none⟩ = some x6 ∧ w.cell? ⟨g, 7, none⟩ = some x7 ∧ w.cell? ⟨g, 8, none⟩ = some x8 ∧ w.cell? ⟨g, 9, none⟩ = some x9) :=
  ⟨⟨h.cell (i := 0) (by omega), h.cell (i := 1) (by omega), h.cell (i := 2) (by omega), h.cell (i := 3) (by omega), h.cell (i := 4) (by omega)⟩, h.cell (i := 5) (by omega), h.cell (i := 6) (by omega), h.cell (i := 7) (by omega), h.cell (i := 8) (by omega), h.cell (i := 9) (by omega)⟩
theorem row4_cells {w : World} {g : Nat} {t : TypeId} {x0 x1 x2 x3 : Value} (h : w.rowIs g t 4 (rowL [x0, x1, x2, x3])) : w.cell? ⟨g, 0, none⟩ = some x0 ∧ w.cell? ⟨g, 1, none⟩ = some x1 ∧ w.cell? ⟨g, 2, none⟩ = some x2 ∧ w.cell? ⟨g, 3, none⟩ = some x3 :=
  ⟨h.cell (i := 0) (by omega), h.cell (i := 1) (by omega), h.cell (i := 2) (by omega), h.cell (i := 3) (by omega)⟩
abbrev flV (f : Wk.Fl) : Value := .agg #[.int .i64 f.held, .int .i64 f.most, .int .i64 f.catch_, .int .i64 f.wash]
abbrev flL (f : Wk.Fl) : List Value := [.int .i64 f.held, .int .i64 f.most, .int .i64 f.catch_, .int .i64 f.wash]
/-- What a filter tells, as a value. -/
abbrev foL (A : Wk.FO) (ax : Option Addr) (kx : Nat) (ay : Option Addr) (ky : Nat) : List Value := [.int .i64 A.f.held, .int .i64 A.f.most, .int .i64 A.f.catch_, .int .i64 A.f.wash, .int .i64 A.clean.wt, .slice ax A.clean.n kx, .int .i64 A.waste.wt, .slice ay A.waste.n ky, .int .i64 A.head, .int .i64 A.c]
abbrev foV (A : Wk.FO) (ax : Option Addr) (kx : Nat) (ay : Option Addr) (ky : Nat) : Value := .agg #[.int .i64 A.f.held, .int .i64 A.f.most, .int .i64 A.f.catch_, .int .i64 A.f.wash, .int .i64 A.clean.wt, .slice ax A.clean.n kx, .int .i64 A.waste.wt, .slice ay A.waste.n ky, .int .i64 A.head, .int .i64 A.c]
abbrev foO (A : Wk.FO) (ax : Option Addr) (kx : Nat) (ay : Option Addr) (ky : Nat) : Obj := .cells #[.int .i64 A.f.held, .int .i64 A.f.most, .int .i64 A.f.catch_, .int .i64 A.f.wash, .int .i64 A.clean.wt, .slice ax A.clean.n kx, .int .i64 A.waste.wt, .slice ay A.waste.n ky, .int .i64 A.head, .int .i64 A.c] 54
abbrev foZ : List Value := [.int .i64 0, .int .i64 0, .int .i64 0, .int .i64 0, .int .i64 0, .slice none 0 0, .int .i64 0, .slice none 0 0, .int .i64 0, .int .i64 0]
/-- How a call ends that tells what a filter does. -/
def FoEnd (lo : Nat) (A : Wk.FO) (e : Ending) (W : World) : Prop := ∃ ax kx ay ky, e = .returned (foV A ax kx ay ky) ∧ TwM lo W.heap.size ax A.clean.n kx A.clean.f ay A.waste.n ky A.waste.f W
theorem FoEnd.bad (lo : Nat) (c : Int) (W : World) : FoEnd lo (Wk.badF c) (.returned (foV (Wk.badF c) none 0 none 0)) W := ⟨none, 0, none, 0, rfl, TwM.nil _ _ _⟩
set_option maxRecDepth 100000 in
set_option maxHeartbeats 2000000 in
theorem filterR_any (f : Wk.Fl) (w : World) :
    Calls Tryd.prog 70 #[flV f] w fun e w' => BoolEnd (Wk.FlOk f) e ∧ Gr w w' := by
  obtain ⟨b1, h1⟩ := bool_of (0 ≤ f.held ∧ f.held ≤ 1000000000)
  obtain ⟨b2, h2⟩ := bool_of (0 ≤ f.most ∧ f.most ≤ 1000000000)
  obtain ⟨b3, h3⟩ := bool_of (0 ≤ f.catch_ ∧ f.catch_ ≤ 1000)
  obtain ⟨b4, h4⟩ := bool_of (0 ≤ f.wash ∧ f.wash ≤ 1000000)
  have K1 := Lib.hid h1
  have K2 := Lib.hid h2
  have K3 := Lib.hid h3
  have K4 := Lib.hid h4
  obtain ⟨W, hW⟩ : ∃ W, W = w.alloc (.cells #[.int .i64 f.held, .int .i64 f.most, .int .i64 f.catch_, .int .i64 f.wash] 29) := ⟨_, rfl⟩
  have HG : Hid (Gr w W) := by show Gr _ _; rw [hW]; exact (Gr.refl _).alloc _
  have hR : W.rowIs w.heap.size 29 4 (rowL (flL f)) := by rw [hW]; exact rowL_alloc w (flL f) _
  have x0 := hR.cell (i := 0) (by omega)
  have x1 := hR.cell (i := 1) (by omega)
  have x2 := hR.cell (i := 2) (by omega)
  have x3 := hR.cell (i := 3) (by omega)
  have HW := Lib.hid hW
  clear h1 h2 h3 h4 hW hR
  go_enter Tryd.func70, Tryd.ntmps70
  go_wp2_with fail
  rw [← HW.out]
  clear HW
  refine (within_any _ _ b1 K1.out _).mono ?_
  rintro e w1 ⟨rfl, rfl⟩
  cases b1 with
  | false =>
    go_wp2_with fail
    go_ret
    exact ⟨.ff (fun h => by have := K1.out.2 h.1; cases this), HG.out⟩
  | true =>
  go_wp2_with fail
  refine (within_any _ _ b2 K2.out _).mono ?_
  rintro e w2 ⟨rfl, rfl⟩
  cases b2 with
  | false =>
    go_wp2_with fail
    go_ret
    exact ⟨.ff (fun h => by have := K2.out.2 h.2.1; cases this), HG.out⟩
  | true =>
  go_wp2_with fail
  refine (within_any _ _ b3 K3.out _).mono ?_
  rintro e w3 ⟨rfl, rfl⟩
  cases b3 with
  | false =>
    go_wp2_with fail
    go_ret
    exact ⟨.ff (fun h => by have := K3.out.2 h.2.2.1; cases this), HG.out⟩
  | true =>
  go_wp2_with fail
  refine (within_any _ _ b4 K4.out _).mono ?_
  rintro e w4 ⟨rfl, rfl⟩
  go_wp2_with fail
  go_ret
  refine ⟨⟨b4, rfl, ?_⟩, HG.out⟩
  exact ⟨fun h => ⟨by simpa using K1.out, by simpa using K2.out, by simpa using K3.out, K4.out.1 h⟩, fun h => K4.out.2 h.2.2.2⟩
set_option maxRecDepth 100000 in
set_option maxHeartbeats 2000000 in
theorem headOf_any (f : Wk.Fl) (w : World) (h1 : 0 ≤ f.held ∧ f.held ≤ 1000000000) (h2 : 0 ≤ f.most ∧ f.most ≤ 1000000000) :
    Calls Tryd.prog 72 #[flV f] w fun e w' => e = .returned (.int .i64 (Wk.headOf f)) ∧ Below w.heap.size w w' := by
  obtain ⟨a0, a1⟩ := h1
  obtain ⟨b0, b1⟩ := h2
  have q0 : 0 ≤ 90 * f.held := by omega
  have q1 : 90 * f.held ≤ 90000000000 := by omega
  have q2 : (f.most + 1 == 0) = false := by simp; omega
  have q3 : 0 < f.most + 1 := by omega
  have q4 : 0 ≤ 90 * f.held / (f.most + 1) := Int.ediv_nonneg q0 (by omega)
  have q5 : 90 * f.held / (f.most + 1) ≤ 90000000000 := Int.le_trans (Int.ediv_le_self _ q0) q1
  have hB := Lib.hid ((Below.refl w.heap.size w).alloc (Nat.le_refl _) (.cells #[.int .i64 f.held, .int .i64 f.most, .int .i64 f.catch_, .int .i64 f.wash] 29))
  unfold Wk.headOf
  go_enter Tryd.func72, Tryd.ntmps72
  go_wp2_with fail
  go_ret
  exact ⟨rfl, hB.out⟩
end Go.Proofs.YtcjeieagpcphjaaDoor
