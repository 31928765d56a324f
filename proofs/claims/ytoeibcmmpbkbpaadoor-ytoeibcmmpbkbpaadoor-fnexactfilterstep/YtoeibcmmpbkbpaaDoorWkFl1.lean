/-
  Filters: rows of many cells, and the small contracts.
-/
import Derived.Test.YtoeibcmmpbkbpaaDoorWkSp
import Derived.Lib.SliceRun
namespace Go.Proofs.YtoeibcmmpbkbpaaDoor
open Go.RowKit Go.Deep

/-- Cells of a block, stored one behind the other. -/
def setAll (g : Nat) : Nat → List Value → World → World
  | _, [], w => w
  | i, x :: l, w => setAll g (i + 1) l (w.setCell ⟨g, i, none⟩ x)
theorem setAll_part {g : Nat} {t : TypeId} {n : Nat} : ∀ (l : List Value) (i : Nat) (w : World) (F : Nat → Value), w.rowIs g t n F → (setAll g i l w).rowIs g t n (fun j => if i ≤ j ∧ j < i + l.length then l.getD (j - i) undef else F j)
  | [], i, _, F, h => h.congr (fun j _ => by simp; omega)
  | x :: l, i, w, F, h => by
    refine (setAll_part l (i + 1) (w.setCell ⟨g, i, none⟩ x) _ (h.set i x)).congr (fun j _ => ?_)
    by_cases e : j = i
    · subst e
      rw [if_neg (by omega), if_pos rfl, if_pos (by simp)]
      simp
    · by_cases h1 : i + 1 ≤ j ∧ j < i + 1 + l.length
      · rw [if_pos h1, if_pos (by simp; omega)]
        have : j - i = (j - (i + 1)) + 1 := by omega
        rw [this]; simp
      · rw [if_neg h1, if_neg e, if_neg (by simp; omega)]
theorem setAll_row {g : Nat} {t : TypeId} {n : Nat} {w : World} {F : Nat → Value} (l : List Value) (h : w.rowIs g t n F) (hl : l.length = n) : (setAll g 0 l w).rowIs g t n (rowL l) :=
  (setAll_part l 0 w F h).congr (fun j hj => by rw [if_pos (by omega)]; simp [rowL])
theorem setAll_far {g k : Nat} (hk : k ≠ g) : ∀ (l : List Value) (i : Nat) (w : World), (setAll g i l w).heap[k]? = w.heap[k]?
  | [], _, _ => rfl
  | x :: l, i, w => (setAll_far hk l (i + 1) (w.setCell ⟨g, i, none⟩ x)).trans (Below.heap_setCell _ ⟨g, i, none⟩ _ _ hk)
theorem setAll_below {a : World} {g : Nat} (hg : a.heap.size ≤ g) : ∀ (l : List Value) (i : Nat) (w : World), Below a.heap.size a w → Below a.heap.size a (setAll g i l w)
  | [], _, _, h => h
  | x :: l, i, _, h => setAll_below hg l (i + 1) _ (h.setCell (p := ⟨g, i, none⟩) hg x)

theorem row10_cells {w : World} {g : Nat} {t : TypeId} {x0 x1 x2 x3 x4 x5 x6 x7 x8 x9 : Value} (h : w.rowIs g t 10 (rowL [x0, x1, x2, x3, x4, x5, x6, x7, x8, x9])) : (w.cell? ⟨g, 0, none⟩ = some x0 ∧ w.cell? ⟨g, 1, none⟩ = some x1 ∧ w.cell? ⟨g, 2, none⟩ = some x2 ∧ w.cell? ⟨g, 3, none⟩ = some x3 ∧ w.cell? ⟨g, 4, none⟩ = some x4) ∧ (w.cell? ⟨g, 5, none⟩ = some x5 ∧ w.cell? ⟨g, 6, none⟩ = some x6 ∧ w.cell? ⟨g, 7, none⟩ = some x7 ∧ w.cell? ⟨g, 8, none⟩ = some x8 ∧ w.cell? ⟨g, 9, none⟩ = some x9) :=
  ⟨⟨h.cell (i := 0) (by omega), h.cell (i := 1) (by omega), h.cell (i := 2) (by omega), h.cell (i := 3) (by omega), h.cell (i := 4) (by omega)⟩, h.cell (i := 5) (by omega), h.cell (i := 6) (by omega), h.cell (i := 7) (by omega), h.cell (i := 8) (by omega), h.cell (i := 9) (by omega)⟩
theorem row4_cells {w : World} {g : Nat} {t : TypeId} {x0 x1 x2 x3 : Value} (h : w.rowIs g t 4 (rowL [x0, x1, x2, x3])) : w.cell? ⟨g, 0, none⟩ = some x0 ∧ w.cell? ⟨g, 1, none⟩ = some x1 ∧ w.cell? ⟨g, 2, none⟩ = some x2 ∧ w.cell? ⟨g, 3, none⟩ = some x3 :=
  ⟨h.cell (i := 0) (by omega), h.cell (i := 1) (by omega), h.cell (i := 2) (by omega), h.cell (i := 3) (by omega)⟩
abbrev flV (f : Wk.Fl) : Value := .agg #[.int .i64 f.held, .int .i64 f.most, .int .i64 f.catch_, .int .i64 f.wash]
abbrev flL (f : Wk.Fl) : List Value := [.int .i64 f.held, .int .i64 f.most, .int .i64 f.catch_, .int .i64 f.wash]
/-- What a filter tells, as a value. -/
abbrev foL (A : Wk.FO) (ax : Option Addr) (kx : Nat) (ay : Option Addr) (ky : Nat) : List Value := [.int .i64 A.f.held, .int .i64 A.f.most, .int .i64 A.f.catch_, .int .i64 A.f.wash, .int .i64 A.clean.wt, .slice ax A.clean.n kx, .int .i64 A.waste.wt, .slice ay A.waste.n ky, .int .i64 A.head, .int .i64 A.c]
abbrev foV (A : Wk.FO) (ax : Option Addr) (kx : Nat) (ay : Option Addr) (ky : Nat) : Value := .agg #[.int .i64 A.f.held, .int .i64 A.f.most, .int .i64 A.f.catch_, .int .i64 A.f.wash, .int .i64 A.clean.wt, .slice ax A.clean.n kx, .int .i64 A.waste.wt, .slice ay A.waste.n ky, .int .i64 A.head, .int .i64 A.c]
abbrev foO (A : Wk.FO) (ax : Option Addr) (kx : Nat) (ay : Option Addr) (ky : Nat) : Obj := .cells #[.int .i64 A.f.held, .int .i64 A.f.most, .int .i64 A.f.catch_, .int .i64 A.f.wash, .int .i64 A.clean.wt, .slice ax A.clean.n kx, .int .i64 A.waste.wt, .slice ay A.waste.n ky, .int .i64 A.head, .int .i64 A.c] 87
abbrev foZ : List Value := [.int .i64 0, .int .i64 0, .int .i64 0, .int .i64 0, .int .i64 0, .slice none 0 0, .int .i64 0, .slice none 0 0, .int .i64 0, .int .i64 0]
/-- How a call ends that tells what a filter does. -/
def FoEnd (lo : Nat) (A : Wk.FO) (e : Ending) (W : World) : Prop := ∃ ax kx ay ky, e = .returned (foV A ax kx ay ky) ∧ TwM lo W.heap.size ax A.clean.n kx A.clean.f ay A.waste.n ky A.waste.f W
theorem FoEnd.bad (lo : Nat) (c : Int) (W : World) : FoEnd lo (Wk.badF c) (.returned (foV (Wk.badF c) none 0 none 0)) W := ⟨none, 0, none, 0, rfl, TwM.nil _ _ _⟩
set_option maxRecDepth 100000 in
set_option maxHeartbeats 2000000 in
theorem filterR_any (f : Wk.Fl) (w : World) :
    Calls Tryd.prog 130 #[flV f] w fun e w' => BoolEnd (Wk.FlOk f) e ∧ Gr w w' := by
  obtain ⟨b1, h1⟩ := bool_of (0 ≤ f.held ∧ f.held ≤ 1000000000)
  obtain ⟨b2, h2⟩ := bool_of (0 ≤ f.most ∧ f.most ≤ 1000000000)
  obtain ⟨b3, h3⟩ := bool_of (0 ≤ f.catch_ ∧ f.catch_ ≤ 1000)
  obtain ⟨b4, h4⟩ := bool_of (0 ≤ f.wash ∧ f.wash ≤ 1000000)
  have K1 := Lib.hid h1
  have K2 := Lib.hid h2
  have K3 := Lib.hid h3
  have K4 := Lib.hid h4
  obtain ⟨W, hW⟩ : ∃ W, W = w.alloc (.cells #[.int .i64 f.held, .int .i64 f.most, .int .i64 f.catch_, .int .i64 f.wash] 63) := ⟨_, rfl⟩
  have HG : Hid (Gr w W) := by show Gr _ _; rw [hW]; exact (Gr.refl _).alloc _
  have hR : W.rowIs w.heap.size 63 4 (rowL (flL f)) := by rw [hW]; exact rowL_alloc w (flL f) _
  have x0 := hR.cell (i := 0) (by omega)
  have x1 := hR.cell (i := 1) (by omega)
  have x2 := hR.cell (i := 2) (by omega)
  have x3 := hR.cell (i := 3) (by omega)
  have HW := Lib.hid hW
  clear h1 h2 h3 h4 hW hR
  go_enter Tryd.func130, Tryd.ntmps130
  go_wp2_with fail
  rw [← HW.out]
  clear HW
  refine (within_any _ _ b1 K1.out _).mono ?_
  rintro e w1 ⟨rfl, rfl⟩
  cases b1 with
  | false =>
    go_wp2_with fail
    go_ret
    exact ⟨.ff (fun h => by have := K1.out.2 h.1; cases this), HG.out⟩
  | true =>
  go_wp2_with fail
  refine (within_any _ _ b2 K2.out _).mono ?_
  rintro e w2 ⟨rfl, rfl⟩
  cases b2 with
  | false =>
    go_wp2_with fail
    go_ret
    exact ⟨.ff (fun h => by have := K2.out.2 h.2.1; cases this), HG.out⟩
  | true =>
  go_wp2_with fail
  refine (within_any _ _ b3 K3.out _).mono ?_
  rintro e w3 ⟨rfl, rfl⟩
  cases b3 with
  | false =>
    go_wp2_with fail
    go_ret
    exact ⟨.ff (fun h => by have := K3.out.2 h.2.2.1; cases this), HG.out⟩
  | true =>
  go_wp2_with fail
  refine (within_any _ _ b4 K4.out _).mono ?_
  rintro e w4 ⟨rfl, rfl⟩
  go_wp2_with fail
  go_ret
  refine ⟨⟨b4, rfl, ?_⟩, HG.out⟩
  exact ⟨fun h => ⟨by simpa using K1.out, by simpa using K2.out, by simpa using K3.out, K4.out.1 h⟩, fun h => K4.out.2 h.2.2.2⟩
set_option maxRecDepth 100000 in
set_option maxHeartbeats 2000000 in
theorem headOf_any (f : Wk.Fl) (w : World) (h1 : 0 ≤ f.held ∧ f.held ≤ 1000000000) (h2 : 0 ≤ f.most ∧ f.most ≤ 1000000000) :
    Calls Tryd.prog 132 #[flV f] w fun e w' => e = .returned (.int .i64 (Wk.headOf f)) ∧ Below w.heap.size w w' := by
  obtain ⟨a0, a1⟩ := h1
  obtain ⟨b0, b1⟩ := h2
  have q0 : 0 ≤ 90 * f.held := by omega
  have q1 : 90 * f.held ≤ 90000000000 := by omega
  have q2 : (f.most + 1 == 0) = false := by simp; omega
  have q3 : 0 < f.most + 1 := by omega
  have q4 : 0 ≤ 90 * f.held / (f.most + 1) := Int.ediv_nonneg q0 (by omega)
  have q5 : 90 * f.held / (f.most + 1) ≤ 90000000000 := Int.le_trans (Int.ediv_le_self _ q0) q1
  have hB := Lib.hid ((Below.refl w.heap.size w).alloc (Nat.le_refl _) (.cells #[.int .i64 f.held, .int .i64 f.most, .int .i64 f.catch_, .int .i64 f.wash] 63))
  unfold Wk.headOf
  go_enter Tryd.func132, Tryd.ntmps132
  go_wp2_with fail
  go_ret
  exact ⟨rfl, hB.out⟩
set_option maxRecDepth 100000 in
set_option maxHeartbeats 2000000 in
theorem tellF_ok (A : Wk.FO) (ax : Option Addr) (kx : Nat) (ay : Option Addr) (ky : Nat) (w : World) :
    Calls Tryd.prog 98 #[foV A ax kx ay ky, .nilIface] w fun e w' => e = .returned (foV A ax kx ay ky) ∧ Below w.heap.size w w' := by
  go_enter Tryd.func98, Tryd.ntmps98
  go_wp2_with fail
  exact bodyPost_ret (v := foV A ax kx ay ky) (by simp [results, Tryd.results98, go_sem]) rfl ⟨rfl, ((Below.refl _ _).alloc (Nat.le_refl _) _).alloc (by simp) _⟩
set_option maxRecDepth 100000 in
set_option maxHeartbeats 2000000 in
theorem tellF_bad (A : Wk.FO) (ax : Option Addr) (kx : Nat) (ay : Option Addr) (ky : Nat) (v : Value) (k : Int) (w : World) (hv : ErrIs v k) (hg : Et w) :
    Calls Tryd.prog 98 #[foV A ax kx ay ky, v] w fun e w' => e = .returned (foV (Wk.badF k) none 0 none 0) ∧ Below w.heap.size w w' := by
  obtain ⟨y, rfl, hy⟩ := hv
  obtain ⟨W, hW⟩ : ∃ W, W = (w.alloc (foO A ax kx ay ky)).alloc (.cells ⟨foZ⟩ 87) := ⟨_, rfl⟩
  have hB : Below w.heap.size w W := by rw [hW]; exact ((Below.refl _ _).alloc (Nat.le_refl _) _).alloc (by simp) _
  have RO : W.rowIs (w.heap.size + 1) 87 10 (rowL foZ) := by
    rw [hW]
    have := rowL_alloc (w.alloc (foO A ax kx ay ky)) foZ 87
    rwa [World.size_alloc] at this
  have HY := Lib.hid hy
  have HG : Hid (Et W) := hg.below hB
  have HW := Lib.hid hW
  have HB := Lib.hid hB
  have HRO := Lib.hid RO
  clear hy hg hW hB RO
  go_enter Tryd.func98, Tryd.ntmps98
  go_wp2_with fail
  rw [← HW.out]
  refine (codeOf_any y k HY.out _ HG.out).mono ?_
  rintro e w1 ⟨rfl, hb⟩
  have HB1 : Hid (Below w.heap.size w w1) := HB.out.trans (hb.mono HB.out.size)
  have HR1 := Lib.hid (wrow_below HRO.out hb)
  have o0 := HR1.out.cell (i := 0) (by omega)
  have oz0 := HR1.out.frozen 0
  have o1 := HR1.out.cell (i := 1) (by omega)
  have oz1 := HR1.out.frozen 1
  have o2 := HR1.out.cell (i := 2) (by omega)
  have oz2 := HR1.out.frozen 2
  have o3 := HR1.out.cell (i := 3) (by omega)
  have oz3 := HR1.out.frozen 3
  have o4 := HR1.out.cell (i := 4) (by omega)
  have oz4 := HR1.out.frozen 4
  have o5 := HR1.out.cell (i := 5) (by omega)
  have oz5 := HR1.out.frozen 5
  have o6 := HR1.out.cell (i := 6) (by omega)
  have oz6 := HR1.out.frozen 6
  have o7 := HR1.out.cell (i := 7) (by omega)
  have oz7 := HR1.out.frozen 7
  have o8 := HR1.out.cell (i := 8) (by omega)
  have oz8 := HR1.out.frozen 8
  have o9 := HR1.out.cell (i := 9) (by omega)
  have oz9 := HR1.out.frozen 9
  clear hb
  go_wp2_with fail
  obtain ⟨WZ, hWZ⟩ : ∃ WZ, WZ = setAll (w.heap.size + 1) 0 (foL (Wk.badF k) none 0 none 0) w1 := ⟨_, rfl⟩
  have hS : WZ.rowIs (w.heap.size + 1) 87 10 (rowL (foL (Wk.badF k) none 0 none 0)) := by rw [hWZ]; exact setAll_row _ HR1.out rfl
  have hBZ : Below w.heap.size w WZ := by rw [hWZ]; exact setAll_below (by omega) _ _ _ HB1.out
  have hW2 : WZ = ((((((((((w1.setCell ⟨w.heap.size + 1, 0, none⟩ (.int .i64 0)).setCell ⟨w.heap.size + 1, 1, none⟩ (.int .i64 0)).setCell ⟨w.heap.size + 1, 2, none⟩ (.int .i64 0)).setCell ⟨w.heap.size + 1, 3, none⟩ (.int .i64 0)).setCell ⟨w.heap.size + 1, 4, none⟩ (.int .i64 0)).setCell ⟨w.heap.size + 1, 5, none⟩ (.slice none 0 0)).setCell ⟨w.heap.size + 1, 6, none⟩ (.int .i64 0)).setCell ⟨w.heap.size + 1, 7, none⟩ (.slice none 0 0)).setCell ⟨w.heap.size + 1, 8, none⟩ (.int .i64 0)).setCell ⟨w.heap.size + 1, 9, none⟩ (.int .i64 k)) := hWZ
  rw [← hW2]
  clear hW2 hWZ
  refine bodyPost_ret (v := foV (Wk.badF k) none 0 none 0) ?_ rfl ⟨rfl, hBZ⟩
  obtain ⟨⟨x0, x1, x2, x3, x4⟩, x5, x6, x7, x8, x9⟩ := row10_cells hS
  simp only [results, Tryd.results98]
  simp [go_sem, x0, x1, x2, x3, x4, x5, x6, x7, x8, x9]
end Go.Proofs.YtoeibcmmpbkbpaaDoor
