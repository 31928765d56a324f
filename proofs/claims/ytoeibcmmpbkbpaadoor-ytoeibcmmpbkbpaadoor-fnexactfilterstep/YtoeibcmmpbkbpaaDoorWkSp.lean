/-
  The contracts of the program's splitting and settling of a batch.
-/
import Derived.Test.YtoeibcmmpbkbpaaDoorWkTk
import Derived.Test.YtoeibcmmpbkbpaaDoorWkMk
import Derived.Test.YtoeibcmmpbkbpaaDoorWkErr
namespace Go.Proofs.YtoeibcmmpbkbpaaDoor
open Go.RowKit Go.Deep

/-- Two batches and a code, as a value. -/
abbrev paV (A : Wk.PA) (ax : Option Addr) (kx : Nat) (ay : Option Addr) (ky : Nat) : Value := .agg #[.int .i64 A.x.wt, .slice ax A.x.n kx, .int .i64 A.y.wt, .slice ay A.y.n ky, .int .i64 A.c]
/-- How a call ends that tells two batches and a code. -/
def PaEnd (lo : Nat) (A : Wk.PA) (e : Ending) (W : World) : Prop := ∃ ax kx ay ky, e = .returned (paV A ax kx ay ky) ∧ TwM lo W.heap.size ax A.x.n kx A.x.f ay A.y.n ky A.y.f W
theorem PaEnd.bad (lo : Nat) (c : Int) (W : World) : PaEnd lo (Wk.bad c) (.returned (.agg #[.int .i64 0, .slice none 0 0, .int .i64 0, .slice none 0 0, .int .i64 c])) W := ⟨none, 0, none, 0, rfl, TwM.nil _ _ _⟩
theorem PaEnd.two {lo : Nat} {A : Wk.PA} {W : World} {g1 g2 : Nat} (h1 : InBlk g1 A.x.n A.x.f W) (h2 : InBlk g2 A.y.n A.y.f W) (hl : lo ≤ g1 ∧ lo ≤ g2 ∧ g1 ≠ g2) (kx ky : Nat) : PaEnd lo A (.returned (paV A (some ⟨g1, 0, none⟩) kx (some ⟨g2, 0, none⟩) ky)) W :=
  ⟨_, _, _, _, rfl, Or.inr ⟨g1, rfl, ⟨hl.1, h1.lt⟩, h1⟩, Or.inr ⟨g2, rfl, ⟨hl.2.1, h2.lt⟩, h2⟩, fun g e1 e2 => by
    unfold atP at e1 e2; simp at e1 e2; omega⟩
set_option maxRecDepth 100000 in
set_option maxHeartbeats 2000000 in
theorem tellPair_ok (wx : Int) (ax : Option Addr) (nx kx : Nat) (wy : Int) (ay : Option Addr) (ny ky : Nat) (w : World) :
    Calls Tryd.prog 85 #[btV wx ax nx kx, btV wy ay ny ky, .nilIface] w fun e w' => e = .returned (.agg #[.int .i64 wx, .slice ax nx kx, .int .i64 wy, .slice ay ny ky, .int .i64 0]) ∧ Below w.heap.size w w' := by
  go_enter Tryd.func85, Tryd.ntmps85
  go_wp2_with fail
  exact bodyPost_ret (v := .agg #[.int .i64 wx, .slice ax nx kx, .int .i64 wy, .slice ay ny ky, .int .i64 0]) (by simp [results, Tryd.results85, go_sem]) rfl ⟨rfl, (((Below.refl _ _).alloc (Nat.le_refl _) _).alloc (by simp) _).alloc (by simp; omega) _⟩
set_option maxRecDepth 100000 in
set_option maxHeartbeats 2000000 in
theorem tellPair_bad (wx : Int) (ax : Option Addr) (nx kx : Nat) (wy : Int) (ay : Option Addr) (ny ky : Nat) (v : Value) (k : Int) (w : World) (hv : ErrIs v k) (hg : Et w) :
    Calls Tryd.prog 85 #[btV wx ax nx kx, btV wy ay ny ky, v] w fun e w' => e = .returned (.agg #[.int .i64 0, .slice none 0 0, .int .i64 0, .slice none 0 0, .int .i64 k]) ∧ Below w.heap.size w w' := by
  obtain ⟨y, rfl, hy⟩ := hv
  obtain ⟨W, hW⟩ : ∃ W, W = ((w.alloc (.cells #[.int .i64 wx, .slice ax nx kx] 49)).alloc (.cells #[.int .i64 wy, .slice ay ny ky] 49)).alloc (.cells #[.int .i64 0, .slice none 0 0, .int .i64 0, .slice none 0 0, .int .i64 0] 53) := ⟨_, rfl⟩
  have hB : Below w.heap.size w W := by rw [hW]; exact (((Below.refl _ _).alloc (Nat.le_refl _) _).alloc (by simp) _).alloc (by simp; omega) _
  have RO : W.rowIs (w.heap.size + 1 + 1) 53 5 (rowL [.int .i64 0, .slice none 0 0, .int .i64 0, .slice none 0 0, .int .i64 0]) := by
    rw [hW]
    have := rowL_alloc ((w.alloc (.cells #[.int .i64 wx, .slice ax nx kx] 49)).alloc (.cells #[.int .i64 wy, .slice ay ny ky] 49)) [.int .i64 0, .slice none 0 0, .int .i64 0, .slice none 0 0, .int .i64 0] 53
    rwa [World.size_alloc, World.size_alloc] at this
  have HY := Lib.hid hy
  have HG : Hid (Et W) := hg.below hB
  have HW := Lib.hid hW
  have HB := Lib.hid hB
  have HRO := Lib.hid RO
  clear hy hg hW hB RO
  go_enter Tryd.func85, Tryd.ntmps85
  go_wp2_with fail
  rw [← HW.out]
  refine (codeOf_any y k HY.out _ HG.out).mono ?_
  rintro e w1 ⟨rfl, hb⟩
  have HB1 : Hid (Below w.heap.size w w1) := HB.out.trans (hb.mono HB.out.size)
  have HR1 := Lib.hid (wrow_below HRO.out hb)
  have o0 := HR1.out.cell (i := 0) (by omega)
  have o1 := HR1.out.cell (i := 1) (by omega)
  have o2 := HR1.out.cell (i := 2) (by omega)
  have o3 := HR1.out.cell (i := 3) (by omega)
  have o4 := HR1.out.cell (i := 4) (by omega)
  have z0 := HR1.out.frozen 0
  have z1 := HR1.out.frozen 1
  have z2 := HR1.out.frozen 2
  have z3 := HR1.out.frozen 3
  have z4 := HR1.out.frozen 4
  clear hb
  go_wp2_with fail
  have hle : w.heap.size ≤ w.heap.size + 1 + 1 := by omega
  refine bodyPost_ret (v := .agg #[.int .i64 0, .slice none 0 0, .int .i64 0, .slice none 0 0, .int .i64 k]) ?_ rfl ⟨rfl, ((((HB1.out.setCell (p := ⟨w.heap.size + 1 + 1, 0, none⟩) hle _).setCell (p := ⟨w.heap.size + 1 + 1, 1, none⟩) hle _).setCell (p := ⟨w.heap.size + 1 + 1, 2, none⟩) hle _).setCell (p := ⟨w.heap.size + 1 + 1, 3, none⟩) hle _).setCell (p := ⟨w.heap.size + 1 + 1, 4, none⟩) hle _⟩
  have hS := ((((HR1.out.set 0 (.int .i64 0)).set 1 (.slice none 0 0)).set 2 (.int .i64 0)).set 3 (.slice none 0 0)).set 4 (.int .i64 k)
  have x0 := hS.cell (i := 0) (by omega)
  have x1 := hS.cell (i := 1) (by omega)
  have x2 := hS.cell (i := 2) (by omega)
  have x3 := hS.cell (i := 3) (by omega)
  have x4 := hS.cell (i := 4) (by omega)
  simp at x0 x1 x2 x3 x4
  simp only [results, Tryd.results85]
  simp [go_sem, x0, x1, x2, x3, x4]
set_option maxRecDepth 100000 in
set_option maxHeartbeats 2000000 in
theorem clSplit (i : Nat) (x wt water : Int) (bb bw : Nat) (w : World) (h0 : w.cell? ⟨bb, 0, none⟩ = some (.int .i64 wt)) (h1 : w.cell? ⟨bw, 0, none⟩ = some (.int .i64 water)) (hx : 0 ≤ x ∧ x ≤ 1000000000) (hw : 0 ≤ water ∧ water ≤ wt) (hw2 : wt ≤ 1000000000) :
    Calls Tryd.prog 122 (#[.int .i64 i, .int .i64 x] ++ #[.pointer (some ⟨bb, 0, none⟩), .pointer (some ⟨bw, 0, none⟩)]) w fun e w' => e = .returned (.int .i64 (if wt = 0 then 0 else x * water / wt)) ∧ w' = w := by
  by_cases hz : wt = 0
  · rw [if_pos hz]
    have hz2 : (wt == 0) = true := by simp [hz]
    subst hz
    go_enter Tryd.func122, Tryd.ntmps122
    go_wp2_with fail
    go_ret
    exact ⟨rfl, rfl⟩
  · rw [if_neg hz]
    have hz2 : (wt == 0) = false := by simp [hz]
    have hm := Wk.mul_le hx.1 hw.1 hx.2 (show water ≤ 1000000000 by omega)
    obtain ⟨hm0, hm1⟩ := hm
    have hm2 : x * water ≤ 1000000000000000000 := by omega
    have hp : 0 < wt := by omega
    clear hx hm1 hz
    go_enter Tryd.func122, Tryd.ntmps122
    go_wp2_with fail
    go_ret
    exact ⟨rfl, rfl⟩
/-- How splitting ends. -/
def SpEnd (lo : Nat) (wt : Int) (n : Nat) (f : Nat → Int) (water : Int) (e : Ending) (W : World) : Prop :=
  (Wk.SplitOk ⟨wt, n, f⟩ water ∧ ∃ g1 g2, e = .returned (.tuple #[btV water (some ⟨g1, 0, none⟩) n n, btV (wt - water) (some ⟨g2, 0, none⟩) n n, .nilIface]) ∧ (lo ≤ g1 ∧ lo ≤ g2 ∧ g1 ≠ g2) ∧ InBlk g1 n (Wk.share ⟨wt, n, f⟩ water) W ∧ InBlk g2 n (fun j => f j - Wk.share ⟨wt, n, f⟩ water j) W) ∨
  (¬ Wk.SplitOk ⟨wt, n, f⟩ water ∧ ∃ er, e = .returned (.tuple #[nilB, nilB, er]) ∧ ErrIs er 1)
/-- The boxes at the start. -/
structure SpB (w : World) (wt : Int) (a : Option Addr) (n k : Nat) (x : Value) (tx : TypeId) (W : World) : Prop where
  box : W.rowIs w.heap.size 49 2 (r2 (.int .i64 wt) (.slice a n k))
  b2 : W.rowIs (w.heap.size + 1) tx 1 (fun _ => x)
  o4 : W.rowIs (w.heap.size + 1 + 1) 49 2 (r2 (.int .i64 0) (.slice none 0 0))
  o5 : W.rowIs (w.heap.size + 1 + 1 + 1) 49 2 (r2 (.int .i64 0) (.slice none 0 0))
  bel : Below w.heap.size w W
theorem SpB.below {w : World} {wt : Int} {a : Option Addr} {n k : Nat} {x : Value} {tx : TypeId} {W W' : World} (h : SpB w wt a n k x tx W) (hb : Below W.heap.size W W') : SpB w wt a n k x tx W' := ⟨wrow_below h.box hb, wrow_below h.b2 hb, wrow_below h.o4 hb, wrow_below h.o5 hb, h.bel.trans (hb.mono h.bel.size)⟩
theorem row1' {w : World} {g : Nat} (e : w.heap.size = g) (a : Value) (t : TypeId) : (w.alloc (.cells #[a] t)).rowIs g t 1 (fun _ => a) := by
  subst e
  refine ⟨_, blk_alloc_new _ _, rfl, fun i hi => ?_⟩
  have : i = 0 := by omega
  subst this; rfl
theorem spB_of (w : World) (wt : Int) (a : Option Addr) (n k : Nat) (x : Value) (tx : TypeId) : SpB w wt a n k x tx ((((w.alloc (.cells #[.int .i64 wt, .slice a n k] 49)).alloc (.cells #[x] tx)).alloc (.cells #[.int .i64 0, .slice none 0 0] 49)).alloc (.cells #[.int .i64 0, .slice none 0 0] 49)) := by
  refine ⟨?_, ?_, ?_, ?_, ?_⟩
  · exact wrow_below (wrow_below (wrow_below (row2 w _ _ _) (bel_alloc _ _)) (bel_alloc _ _)) (bel_alloc _ _)
  · exact wrow_below (wrow_below (row1' (by simp) _ _) (bel_alloc _ _)) (bel_alloc _ _)
  · exact wrow_below (row2' (by simp) _ _ _) (bel_alloc _ _)
  · exact row2' (by simp) _ _ _
  · exact ((((Below.refl _ w).alloc (Nat.le_refl _) _).alloc (by simp) _).alloc (by simp; omega) _).alloc (by simp; omega) _
set_option maxRecDepth 100000 in
set_option maxHeartbeats 8000000 in
theorem splitB_any (wt : Int) (a : Option Addr) (n k : Nat) (f : Nat → Int) (water : Int) (w : World) (h : IntsAt a n f w) (hn : n ≤ 4194304) :
    Calls Tryd.prog 86 #[btV wt a n k, .int .i64 water] w fun e w' => SpEnd w.heap.size wt n f water e w' ∧ Below w.heap.size w w' := by
  obtain ⟨b1, hb1⟩ := bool_of (Wk.OkB wt n f)
  obtain ⟨b2, hb2⟩ := bool_of (0 ≤ water ∧ water ≤ wt)
  have K1 := Lib.hid hb1
  have K2 := Lib.hid hb2
  obtain ⟨W, hW⟩ : ∃ W, W = (((w.alloc (.cells #[.int .i64 wt, .slice a n k] 49)).alloc (.cells #[.int .i64 water] 2)).alloc (.cells #[.int .i64 0, .slice none 0 0] 49)).alloc (.cells #[.int .i64 0, .slice none 0 0] 49) := ⟨_, rfl⟩
  have hS : SpB w wt a n k (.int .i64 water) 2 W := by rw [hW]; exact spB_of w wt a n k _ _
  have HS := Lib.hid hS
  have HW := Lib.hid hW
  have H := Lib.hid h
  have HN := Lib.hid hn
  clear hb1 hb2 hW hS h hn
  go_enter Tryd.func86, Tryd.ntmps86
  go_wp2_with fail
  rw [← HW.out]
  refine ((implBRight_any wt a n k f _ (H.out.below HS.out.bel) HN.out).mono fun e w' ⟨g1, g2⟩ => ⟨g1.eq K1.out, g2⟩ : Calls Tryd.prog 120 #[btV wt a n k] W fun e w' => e = .returned (.bool b1) ∧ Gr W w').mono ?_
  rintro e W1 ⟨rfl, hG⟩
  have HS1 := Lib.hid (HS.out.below hG.bel)
  clear hG HS HW
  obtain ⟨⟨x0, x1⟩, _⟩ := row2_cells HS1.out.box
  have x2 : W1.cell? ⟨w.heap.size + 1, 0, none⟩ = some (.int .i64 water) := HS1.out.b2.cell (i := 0) (by omega)
  obtain ⟨⟨o0, o1⟩, y0, y1⟩ := row2_cells HS1.out.o4
  obtain ⟨⟨q0, q1⟩, z0, z1⟩ := row2_cells HS1.out.o5
  have hsz : w.heap.size + 1 + 1 + 1 < W1.heap.size := HS1.out.o5.lt
  have hle1 : w.heap.size ≤ w.heap.size + 1 + 1 := by omega
  have hle2 : w.heap.size ≤ w.heap.size + 1 + 1 + 1 := by omega
  have fin : ∀ (W' : World) (u0 u1 u2 u3 : Value), SpB w wt a n k (.int .i64 water) 2 W' → (((((W'.setCell ⟨w.heap.size + 1 + 1, 0, none⟩ u0).setCell ⟨w.heap.size + 1 + 1, 1, none⟩ u1).setCell ⟨w.heap.size + 1 + 1 + 1, 0, none⟩ u2).setCell ⟨w.heap.size + 1 + 1 + 1, 1, none⟩ u3).rowIs (w.heap.size + 1 + 1) 49 2 (r2 u0 u1) ∧ ((((W'.setCell ⟨w.heap.size + 1 + 1, 0, none⟩ u0).setCell ⟨w.heap.size + 1 + 1, 1, none⟩ u1).setCell ⟨w.heap.size + 1 + 1 + 1, 0, none⟩ u2).setCell ⟨w.heap.size + 1 + 1 + 1, 1, none⟩ u3).rowIs (w.heap.size + 1 + 1 + 1) 49 2 (r2 u2 u3)) ∧ Below w.heap.size w ((((W'.setCell ⟨w.heap.size + 1 + 1, 0, none⟩ u0).setCell ⟨w.heap.size + 1 + 1, 1, none⟩ u1).setCell ⟨w.heap.size + 1 + 1 + 1, 0, none⟩ u2).setCell ⟨w.heap.size + 1 + 1 + 1, 1, none⟩ u3) := by
    intro W' u0 u1 u2 u3 hS
    refine ⟨⟨?_, ?_⟩, (((hS.bel.setCell (p := ⟨w.heap.size + 1 + 1, 0, none⟩) hle1 _).setCell (p := ⟨w.heap.size + 1 + 1, 1, none⟩) hle1 _).setCell (p := ⟨w.heap.size + 1 + 1 + 1, 0, none⟩) hle2 _).setCell (p := ⟨w.heap.size + 1 + 1 + 1, 1, none⟩) hle2 _⟩
    · exact wrow_set (wrow_set (row2_put hS.o4 u0 u1) (p := ⟨w.heap.size + 1 + 1 + 1, 0, none⟩) (by show w.heap.size + 1 + 1 ≠ w.heap.size + 1 + 1 + 1; omega) u2) (p := ⟨w.heap.size + 1 + 1 + 1, 1, none⟩) (by show w.heap.size + 1 + 1 ≠ w.heap.size + 1 + 1 + 1; omega) u3
    · exact row2_put (wrow_set (wrow_set hS.o5 (p := ⟨w.heap.size + 1 + 1, 0, none⟩) (by show w.heap.size + 1 + 1 + 1 ≠ w.heap.size + 1 + 1; omega) u0) (p := ⟨w.heap.size + 1 + 1, 1, none⟩) (by show w.heap.size + 1 + 1 + 1 ≠ w.heap.size + 1 + 1; omega) u1) u2 u3
  have FIN := Lib.hid fin
  clear fin
  cases b1 with
  | false =>
    have hno : Hid (¬ Wk.SplitOk ⟨wt, n, f⟩ water) := fun h => by have := K1.out.2 h.1; cases this
    go_wp2_with fail
    obtain ⟨⟨hF1, hF2⟩, hF3⟩ := FIN.out W1 (.int .i64 0) (.slice none 0 0) (.int .i64 0) (.slice none 0 0) HS1.out
    refine bodyPost_ret (v := .tuple #[nilB, nilB, errV ⟨#[97, 32, 98, 97, 116, 99, 104, 32, 116, 111, 32, 115, 112, 108, 105, 116]⟩ 1]) ?_ rfl ⟨Or.inr ⟨hno.out, _, rfl, errIs_one _ _⟩, hF3⟩
    obtain ⟨⟨a0, a1⟩, _⟩ := row2_cells hF1
    obtain ⟨⟨a2, a3⟩, _⟩ := row2_cells hF2
    simp only [results, Tryd.results86]
    simp [go_sem, a0, a1, a2, a3]
  | true =>
    go_wp2_with fail
    refine (within_any _ _ b2 K2.out _).mono ?_
    rintro e W2 ⟨rfl, rfl⟩
    cases b2 with
    | false =>
      have hno : Hid (¬ Wk.SplitOk ⟨wt, n, f⟩ water) := fun h => by have := K2.out.2 h.2; cases this
      go_wp2_with fail
      obtain ⟨⟨hF1, hF2⟩, hF3⟩ := FIN.out W2 (.int .i64 0) (.slice none 0 0) (.int .i64 0) (.slice none 0 0) HS1.out
      refine bodyPost_ret (v := .tuple #[nilB, nilB, errV ⟨#[116, 104, 101, 32, 119, 97, 116, 101, 114, 32, 116, 111, 32, 115, 112, 108, 105, 116, 32, 111, 102, 102]⟩ 1]) ?_ rfl ⟨Or.inr ⟨hno.out, _, rfl, errIs_one _ _⟩, hF3⟩
      obtain ⟨⟨a0, a1⟩, _⟩ := row2_cells hF1
      obtain ⟨⟨a2, a3⟩, _⟩ := row2_cells hF2
      simp only [results, Tryd.results86]
      simp [go_sem, a0, a1, a2, a3]
    | true =>
      have hok : Wk.SplitOk ⟨wt, n, f⟩ water := ⟨(by have := K1.out; simpa using this : Wk.OkB wt n f), by have := K2.out; simpa using this⟩
      have HOK := Lib.hid hok
      clear hok
      go_wp2_with fail
      refine (takeOff_any wt a n k f water 122 #[.pointer (some ⟨w.heap.size, 0, none⟩), .pointer (some ⟨w.heap.size + 1, 0, none⟩)] (Wk.share ⟨wt, n, f⟩ water) _ (H.out.below HS1.out.bel) HOK.out.1.2.1 (fun i hi => ⟨HOK.out.1.2.2 i hi, Wk.share_bounds HOK.out hi⟩) HOK.out.2 HOK.out.1.1.2 (enters_of Tryd.func122 (by kernel_rfl) rfl) (fun W' hb i hi => ?_)).mono ?_
      · exact clSplit i (f i) wt water w.heap.size (w.heap.size + 1) W' ((hb.cell (World.block_lt_of_cell? _ _ x0)).trans x0) ((hb.cell (World.block_lt_of_cell? _ _ x2)).trans x2) (HOK.out.1.2.2 i hi) HOK.out.2 HOK.out.1.1.2
      rintro e W3 ⟨⟨g1, g2, rfl, hg, hi1, hi2⟩, hb3⟩
      have HS3 := Lib.hid (HS1.out.below hb3)
      have HI1 := Lib.hid hi1
      have HI2 := Lib.hid hi2
      have hg3 : w.heap.size + 1 + 1 + 1 < g1 ∧ w.heap.size + 1 + 1 + 1 < g2 ∧ g1 ≠ g2 := by omega
      have HG3 := Lib.hid hg3
      clear x0 x1 x2 o0 o1 q0 q1 y0 y1 z0 z1 hsz hi1 hi2 hb3 hg hg3
      obtain ⟨W4, hW4⟩ : ∃ W4, W4 = (W3.alloc (.cells #[.int .i64 water, .slice (some ⟨g1, 0, none⟩) n n] 49)).alloc (.cells #[.int .i64 (wt - water), .slice (some ⟨g2, 0, none⟩) n n] 49) := ⟨_, rfl⟩
      have hb4 : Below W3.heap.size W3 W4 := by rw [hW4]; exact ((Below.refl _ _).alloc (Nat.le_refl _) _).alloc (by simp) _
      have R7 : W4.rowIs W3.heap.size 49 2 (r2 (.int .i64 water) (.slice (some ⟨g1, 0, none⟩) n n)) := by rw [hW4]; exact wrow_below (row2 _ _ _ _) (bel_alloc _ _)
      have R8 : W4.rowIs (W3.heap.size + 1) 49 2 (r2 (.int .i64 (wt - water)) (.slice (some ⟨g2, 0, none⟩) n n)) := by rw [hW4]; exact row2' (by simp) _ _ _
      have HS4 := Lib.hid (HS3.out.below hb4)
      have HW4 := Lib.hid hW4
      have HI14 := Lib.hid (HI1.out.below hb4)
      have HI24 := Lib.hid (HI2.out.below hb4)
      have hs3 : w.heap.size + 1 + 1 + 1 < W3.heap.size := HS3.out.o5.lt
      have hs4 : w.heap.size + 1 + 1 + 1 < W4.heap.size := HS4.out.o5.lt
      clear hW4 hb4
      obtain ⟨⟨x0, x1⟩, _⟩ := row2_cells R7
      obtain ⟨⟨x2, x3⟩, _⟩ := row2_cells R8
      obtain ⟨⟨o0, o1⟩, y0, y1⟩ := row2_cells HS4.out.o4
      obtain ⟨⟨q0, q1⟩, z0, z1⟩ := row2_cells HS4.out.o5
      have l7 : W3.heap.size < W4.heap.size := R7.lt
      have l8 : W3.heap.size + 1 < W4.heap.size := R8.lt
      have d1 : W3.heap.size ≠ w.heap.size + 1 + 1 := by omega
      have d2 : W3.heap.size ≠ w.heap.size + 1 + 1 + 1 := by omega
      have d3 : W3.heap.size + 1 ≠ w.heap.size + 1 + 1 := by omega
      have d4 : W3.heap.size + 1 ≠ w.heap.size + 1 + 1 + 1 := by omega
      clear R7 R8
      go_wp2_with fail
      rw [← HW4.out]
      go_region
      go_wp2_with fail
      obtain ⟨⟨hF1, hF2⟩, hF3⟩ := FIN.out W4 (.int .i64 water) (.slice (some ⟨g1, 0, none⟩) n n) (.int .i64 (wt - water)) (.slice (some ⟨g2, 0, none⟩) n n) HS4.out
      have hg3 := HG3.out
      have e9 : ∀ g, g ≠ w.heap.size + 1 + 1 → g ≠ w.heap.size + 1 + 1 + 1 → ((((W4.setCell ⟨w.heap.size + 1 + 1, 0, none⟩ (.int .i64 water)).setCell ⟨w.heap.size + 1 + 1, 1, none⟩ (.slice (some ⟨g1, 0, none⟩) n n)).setCell ⟨w.heap.size + 1 + 1 + 1, 0, none⟩ (.int .i64 (wt - water))).setCell ⟨w.heap.size + 1 + 1 + 1, 1, none⟩ (.slice (some ⟨g2, 0, none⟩) n n)).drew.heap[g]? = W4.heap[g]? := fun g hg hg2 => (Below.heap_setCell _ ⟨w.heap.size + 1 + 1 + 1, 1, none⟩ _ _ hg2).trans ((Below.heap_setCell _ ⟨w.heap.size + 1 + 1 + 1, 0, none⟩ _ _ hg2).trans ((Below.heap_setCell _ ⟨w.heap.size + 1 + 1, 1, none⟩ _ _ hg).trans (Below.heap_setCell _ ⟨w.heap.size + 1 + 1, 0, none⟩ _ _ hg)))
      refine bodyPost_ret (v := .tuple #[btV water (some ⟨g1, 0, none⟩) n n, btV (wt - water) (some ⟨g2, 0, none⟩) n n, .nilIface]) ?_ rfl ⟨Or.inl ⟨HOK.out, g1, g2, rfl, ⟨by omega, by omega, by omega⟩, HI14.out.block (e9 _ (by omega) (by omega)), HI24.out.block (e9 _ (by omega) (by omega))⟩, hF3.drew⟩
      obtain ⟨⟨a0, a1⟩, _⟩ := row2_cells hF1
      obtain ⟨⟨a2, a3⟩, _⟩ := row2_cells hF2
      simp only [results, Tryd.results86]
      simp [go_sem, a0, a1, a2, a3]
end Go.Proofs.YtoeibcmmpbkbpaaDoor
