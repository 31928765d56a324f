/-
  The contracts of the program's settling of a batch, and of SplitBatch and SettleBatch.
-/
import Derived.Test.YtcjeieagpcphjaaDoorWkSp
namespace Go.Proofs.YtcjeieagpcphjaaDoor
open Go.RowKit Go.Deep

set_option maxRecDepth 100000 in
set_option maxHeartbeats 2000000 in
theorem millsRight_any (a : Option Addr) (m cap : Nat) (f : Nat → Int) (n : Nat) (w : World) (h : IntsAt a m f w) (hm : m ≤ 4194304) :
    Calls Tryd.prog 67 #[.slice a m cap, .int .i64 n] w fun e w' => BoolEnd (m = n ∧ Wk.MillsOk m f) e ∧ w' = w := by
  by_cases hne : m = n
  case neg =>
    have hz : ((m : Int) != (n : Int)) = true := by simp; omega
    clear h
    go_enter Tryd.func67, Tryd.ntmps67
    go_wp2_with fail
    go_ret
    exact ⟨.ff (fun h => hne h.1), rfl⟩
  subst hne
  have H := Lib.hid h
  clear h
  go_enter Tryd.func67, Tryd.ntmps67
  go_wp2_with fail
  go_loopw [13] (fun iv wr => ∃ (i : Nat), i ≤ m ∧ iv = .int .i64 i ∧ wr = w ∧ Hid (∀ j, j < i → 0 ≤ f j ∧ f j ≤ 1000)) (fun iv _ => m - (intOf iv).toNat)
  case atStart => exact ⟨0, Nat.zero_le _, rfl, rfl, fun j hj => absurd hj (Nat.not_lt_zero _)⟩
  case round =>
    obtain ⟨i, hi, rfl, rfl, hP⟩ := hrel
    by_cases hlt : i < m
    · have hltz : (i : Int) < (m : Int) := by omega
      obtain ⟨b, rfl, c0⟩ := H.out.at_ hlt
      obtain ⟨b1, hb1⟩ := bool_of (0 ≤ f i ∧ f i ≤ 1000)
      have K1 := Lib.hid hb1
      clear hb1
      go_wp2_with fail
      refine (within_any _ _ b1 K1.out _).mono ?_
      rintro e w1 ⟨rfl, rfl⟩
      cases b1 with
      | false =>
        go_wp2_with fail
        go_ret
        exact ⟨.ff (fun h => by have := K1.out.2 (h.2 i hlt); cases this), rfl⟩
      | true =>
        go_wp2_with fail
        go_roundw
        case rel =>
          refine ⟨i + 1, by omega, by go_num, by first | rfl | trivial, fun j hj => ?_⟩
          by_cases e : j = i
          · subst e; exact (by have := K1.out; simpa using this)
          · exact hP.out j (by omega)
        case measure => simp [intOf]; omega
    · obtain rfl : i = m := by omega
      go_wp2_with fail
      go_ret
      exact ⟨.tt (by first | exact ⟨rfl, hP.out⟩ | exact ⟨trivial, hP.out⟩), by first | rfl | trivial⟩
set_option maxRecDepth 100000 in
set_option maxHeartbeats 2000000 in
theorem clSettle (i : Nat) (x : Int) (ma : Option Addr) (m mk : Nat) (mi : Nat → Int) (bm : Nat) (w : World) (h0 : w.cell? ⟨bm, 0, none⟩ = some (.slice ma m mk)) (h1 : IntsAt ma m mi w) (hi : i < m) (hx : 0 ≤ x ∧ x ≤ 1000000000) (hm : 0 ≤ mi i ∧ mi i ≤ 1000) :
    Calls Tryd.prog 69 (#[.int .i64 i, .int .i64 x] ++ #[.pointer (some ⟨bm, 0, none⟩)]) w fun e w' => e = .returned (.int .i64 (x * mi i / 1000)) ∧ w' = w := by
  have hiz : (i : Int) < (m : Int) := by omega
  obtain ⟨b, rfl, c0⟩ := h1.at_ hi
  obtain ⟨hm0, hm1⟩ := Wk.mul_le hx.1 hm.1 hx.2 hm.2
  have hm2 : x * mi i ≤ 1000000000000 := by omega
  clear hx hm1 h1
  go_enter Tryd.func69, Tryd.ntmps69
  go_wp2_with fail
  go_ret
  exact ⟨rfl, rfl⟩
/-- How settling ends. -/
def StEnd (lo : Nat) (wt : Int) (n : Nat) (f : Nat → Int) (m : Nat) (mi : Nat → Int) (e : Ending) (W : World) : Prop :=
  (Wk.SettleOk ⟨wt, n, f⟩ m mi ∧ ∃ g1 g2, e = .returned (.tuple #[btV wt (some ⟨g1, 0, none⟩) n n, btV 0 (some ⟨g2, 0, none⟩) n n, .nilIface]) ∧ (lo ≤ g1 ∧ lo ≤ g2 ∧ g1 ≠ g2) ∧ InBlk g1 n (fun j => f j - Wk.sett ⟨wt, n, f⟩ mi j) W ∧ InBlk g2 n (Wk.sett ⟨wt, n, f⟩ mi) W) ∨
  (¬ Wk.SettleOk ⟨wt, n, f⟩ m mi ∧ ∃ er, e = .returned (.tuple #[nilB, nilB, er]) ∧ ErrIs er 1)
set_option maxRecDepth 100000 in
set_option maxHeartbeats 8000000 in
theorem settleB_any (wt : Int) (a : Option Addr) (n k : Nat) (f : Nat → Int) (ma : Option Addr) (m mk : Nat) (mi : Nat → Int) (w : World) (h : IntsAt a n f w) (hn : n ≤ 4194304) (hM : IntsAt ma m mi w) (hm : m ≤ 4194304) :
    Calls Tryd.prog 58 #[btV wt a n k, .slice ma m mk] w fun e w' => StEnd w.heap.size wt n f m mi e w' ∧ Below w.heap.size w w' := by
  obtain ⟨b1, hb1⟩ := bool_of (Wk.OkB wt n f)
  obtain ⟨b2, hb2⟩ := bool_of (m = n ∧ Wk.MillsOk m mi)
  have K1 := Lib.hid hb1
  have K2 := Lib.hid hb2
  obtain ⟨W, hW⟩ : ∃ W, W = (((w.alloc (.cells #[.int .i64 wt, .slice a n k] 28)).alloc (.cells #[.slice ma m mk] 24)).alloc (.cells #[.int .i64 0, .slice none 0 0] 28)).alloc (.cells #[.int .i64 0, .slice none 0 0] 28) := ⟨_, rfl⟩
  have hS : SpB w wt a n k (.slice ma m mk) 24 W := by rw [hW]; exact spB_of w wt a n k _ _
  have HS := Lib.hid hS
  have HW := Lib.hid hW
  have H := Lib.hid h
  have HN := Lib.hid hn
  have HM := Lib.hid hM
  have HMM := Lib.hid hm
  clear hb1 hb2 hW hS h hn hM hm
  go_enter Tryd.func58, Tryd.ntmps58
  go_wp2_with fail
  rw [← HW.out]
  refine ((implBRight_any wt a n k f _ (H.out.below HS.out.bel) HN.out).mono fun e w' ⟨g1, g2⟩ => ⟨g1.eq K1.out, g2⟩ : Calls Tryd.prog 61 #[btV wt a n k] W fun e w' => e = .returned (.bool b1) ∧ Gr W w').mono ?_
  rintro e W1 ⟨rfl, hG⟩
  have HS1 := Lib.hid (HS.out.below hG.bel)
  clear hG HS HW
  obtain ⟨⟨x0, x1⟩, _⟩ := row2_cells HS1.out.box
  have x2 : W1.cell? ⟨w.heap.size + 1, 0, none⟩ = some (.slice ma m mk) := HS1.out.b2.cell (i := 0) (by omega)
  obtain ⟨⟨o0, o1⟩, y0, y1⟩ := row2_cells HS1.out.o4
  obtain ⟨⟨q0, q1⟩, z0, z1⟩ := row2_cells HS1.out.o5
  have hsz : w.heap.size + 1 + 1 + 1 < W1.heap.size := HS1.out.o5.lt
  have hle1 : w.heap.size ≤ w.heap.size + 1 + 1 := by omega
  have hle2 : w.heap.size ≤ w.heap.size + 1 + 1 + 1 := by omega
  have fin : ∀ (W' : World) (u0 u1 u2 u3 : Value), SpB w wt a n k (.slice ma m mk) 24 W' → (((((W'.setCell ⟨w.heap.size + 1 + 1, 0, none⟩ u0).setCell ⟨w.heap.size + 1 + 1, 1, none⟩ u1).setCell ⟨w.heap.size + 1 + 1 + 1, 0, none⟩ u2).setCell ⟨w.heap.size + 1 + 1 + 1, 1, none⟩ u3).rowIs (w.heap.size + 1 + 1) 28 2 (r2 u0 u1) ∧ ((((W'.setCell ⟨w.heap.size + 1 + 1, 0, none⟩ u0).setCell ⟨w.heap.size + 1 + 1, 1, none⟩ u1).setCell ⟨w.heap.size + 1 + 1 + 1, 0, none⟩ u2).setCell ⟨w.heap.size + 1 + 1 + 1, 1, none⟩ u3).rowIs (w.heap.size + 1 + 1 + 1) 28 2 (r2 u2 u3)) ∧ Below w.heap.size w ((((W'.setCell ⟨w.heap.size + 1 + 1, 0, none⟩ u0).setCell ⟨w.heap.size + 1 + 1, 1, none⟩ u1).setCell ⟨w.heap.size + 1 + 1 + 1, 0, none⟩ u2).setCell ⟨w.heap.size + 1 + 1 + 1, 1, none⟩ u3) := by
    intro W' u0 u1 u2 u3 hS
    refine ⟨⟨?_, ?_⟩, (((hS.bel.setCell (p := ⟨w.heap.size + 1 + 1, 0, none⟩) hle1 _).setCell (p := ⟨w.heap.size + 1 + 1, 1, none⟩) hle1 _).setCell (p := ⟨w.heap.size + 1 + 1 + 1, 0, none⟩) hle2 _).setCell (p := ⟨w.heap.size + 1 + 1 + 1, 1, none⟩) hle2 _⟩
    · exact wrow_set (wrow_set (row2_put hS.o4 u0 u1) (p := ⟨w.heap.size + 1 + 1 + 1, 0, none⟩) (by show w.heap.size + 1 + 1 ≠ w.heap.size + 1 + 1 + 1; omega) u2) (p := ⟨w.heap.size + 1 + 1 + 1, 1, none⟩) (by show w.heap.size + 1 + 1 ≠ w.heap.size + 1 + 1 + 1; omega) u3
    · exact row2_put (wrow_set (wrow_set hS.o5 (p := ⟨w.heap.size + 1 + 1, 0, none⟩) (by show w.heap.size + 1 + 1 + 1 ≠ w.heap.size + 1 + 1; omega) u0) (p := ⟨w.heap.size + 1 + 1, 1, none⟩) (by show w.heap.size + 1 + 1 + 1 ≠ w.heap.size + 1 + 1; omega) u1) u2 u3
  have FIN := Lib.hid fin
  clear fin
  cases b1 with
  | false =>
    have hno : Hid (¬ Wk.SettleOk ⟨wt, n, f⟩ m mi) := fun h => by have := K1.out.2 h.1; cases this
    go_wp2_with fail
    obtain ⟨⟨hF1, hF2⟩, hF3⟩ := FIN.out W1 (.int .i64 0) (.slice none 0 0) (.int .i64 0) (.slice none 0 0) HS1.out
    refine bodyPost_ret (v := .tuple #[nilB, nilB, errV ⟨#[97, 32, 98, 97, 116, 99, 104, 32, 116, 111, 32, 115, 101, 116, 116, 108, 101]⟩ 1]) ?_ rfl ⟨Or.inr ⟨hno.out, _, rfl, errIs_one _ _⟩, hF3⟩
    obtain ⟨⟨a0, a1⟩, _⟩ := row2_cells hF1
    obtain ⟨⟨a2, a3⟩, _⟩ := row2_cells hF2
    simp only [results, Tryd.results58]
    simp [go_sem, a0, a1, a2, a3]
  | true =>
    go_wp2_with fail
    refine ((millsRight_any ma m mk mi n _ (HM.out.below HS1.out.bel) HMM.out).mono fun e w' ⟨g1, g2⟩ => ⟨g1.eq K2.out, g2⟩ : Calls Tryd.prog 67 #[.slice ma m mk, .int .i64 n] W1 fun e w' => e = .returned (.bool b2) ∧ w' = W1).mono ?_
    rintro e W2 ⟨rfl, rfl⟩
    cases b2 with
    | false =>
      have hno : Hid (¬ Wk.SettleOk ⟨wt, n, f⟩ m mi) := fun h => by have := K2.out.2 h.2; cases this
      go_wp2_with fail
      obtain ⟨⟨hF1, hF2⟩, hF3⟩ := FIN.out W2 (.int .i64 0) (.slice none 0 0) (.int .i64 0) (.slice none 0 0) HS1.out
      refine bodyPost_ret (v := .tuple #[nilB, nilB, errV ⟨#[109, 105, 108, 108, 115]⟩ 1]) ?_ rfl ⟨Or.inr ⟨hno.out, _, rfl, errIs_one _ _⟩, hF3⟩
      obtain ⟨⟨a0, a1⟩, _⟩ := row2_cells hF1
      obtain ⟨⟨a2, a3⟩, _⟩ := row2_cells hF2
      simp only [results, Tryd.results58]
      simp [go_sem, a0, a1, a2, a3]
    | true =>
      have hok : Wk.SettleOk ⟨wt, n, f⟩ m mi := ⟨(by have := K1.out; simpa using this : Wk.OkB wt n f), by have := K2.out; simpa using this⟩
      have HOK := Lib.hid hok
      clear hok
      go_wp2_with fail
      refine (takeOff_any wt a n k f 0 69 #[.pointer (some ⟨w.heap.size + 1, 0, none⟩)] (Wk.sett ⟨wt, n, f⟩ mi) _ (H.out.below HS1.out.bel) HOK.out.1.2.1 (fun i hi => ⟨HOK.out.1.2.2 i hi, Wk.sett_bounds HOK.out hi⟩) ⟨Int.le_refl _, HOK.out.1.1.1⟩ HOK.out.1.1.2 (enters_of Tryd.func69 (by kernel_rfl) rfl) (fun W' hb i hi => ?_)).mono ?_
      · exact clSettle i (f i) ma m mk mi (w.heap.size + 1) W' ((hb.cell (World.block_lt_of_cell? _ _ x2)).trans x2) ((HM.out.below HS1.out.bel).below hb) (by have e : m = n := HOK.out.2.1; show i < m; omega) (HOK.out.1.2.2 i hi) (HOK.out.2.2 i (by have e : m = n := HOK.out.2.1; show i < m; omega))
      rintro e W3 ⟨⟨g1, g2, rfl, hg, hi1, hi2⟩, hb3⟩
      rw [Int.sub_zero]
      have HS3 := Lib.hid (HS1.out.below hb3)
      have HI1 := Lib.hid hi1
      have HI2 := Lib.hid hi2
      have hg3 : w.heap.size + 1 + 1 + 1 < g1 ∧ w.heap.size + 1 + 1 + 1 < g2 ∧ g1 ≠ g2 := by omega
      have HG3 := Lib.hid hg3
      clear x0 x1 x2 o0 o1 q0 q1 y0 y1 z0 z1 hsz hi1 hi2 hb3 hg hg3
      obtain ⟨W4, hW4⟩ : ∃ W4, W4 = (W3.alloc (.cells #[.int .i64 0, .slice (some ⟨g1, 0, none⟩) n n] 28)).alloc (.cells #[.int .i64 wt, .slice (some ⟨g2, 0, none⟩) n n] 28) := ⟨_, rfl⟩
      have hb4 : Below W3.heap.size W3 W4 := by rw [hW4]; exact ((Below.refl _ _).alloc (Nat.le_refl _) _).alloc (by simp) _
      have R7 : W4.rowIs W3.heap.size 28 2 (r2 (.int .i64 0) (.slice (some ⟨g1, 0, none⟩) n n)) := by rw [hW4]; exact wrow_below (row2 _ _ _ _) (bel_alloc _ _)
      have R8 : W4.rowIs (W3.heap.size + 1) 28 2 (r2 (.int .i64 wt) (.slice (some ⟨g2, 0, none⟩) n n)) := by rw [hW4]; exact row2' (by simp) _ _ _
      have HS4 := Lib.hid (HS3.out.below hb4)
      have HW4 := Lib.hid hW4
      have HI14 := Lib.hid (HI1.out.below hb4)
      have HI24 := Lib.hid (HI2.out.below hb4)
      have hs3 : w.heap.size + 1 + 1 + 1 < W3.heap.size := HS3.out.o5.lt
      have hs4 : w.heap.size + 1 + 1 + 1 < W4.heap.size := HS4.out.o5.lt
      clear hW4 hb4
      obtain ⟨⟨x0, x1⟩, _⟩ := row2_cells R7
      obtain ⟨⟨x2, x3⟩, _⟩ := row2_cells R8
      obtain ⟨⟨o0, o1⟩, y0, y1⟩ := row2_cells HS4.out.o4
      obtain ⟨⟨q0, q1⟩, z0, z1⟩ := row2_cells HS4.out.o5
      have l7 : W3.heap.size < W4.heap.size := R7.lt
      have l8 : W3.heap.size + 1 < W4.heap.size := R8.lt
      have d1 : W3.heap.size ≠ w.heap.size + 1 + 1 := by omega
      have d2 : W3.heap.size ≠ w.heap.size + 1 + 1 + 1 := by omega
      have d3 : W3.heap.size + 1 ≠ w.heap.size + 1 + 1 := by omega
      have d4 : W3.heap.size + 1 ≠ w.heap.size + 1 + 1 + 1 := by omega
      clear R7 R8
      go_wp2_with fail
      rw [← HW4.out]
      go_region
      go_wp2_with fail
      obtain ⟨⟨hF1, hF2⟩, hF3⟩ := FIN.out W4 (.int .i64 wt) (.slice (some ⟨g2, 0, none⟩) n n) (.int .i64 0) (.slice (some ⟨g1, 0, none⟩) n n) HS4.out
      have hg3 := HG3.out
      have e9 : ∀ g, g ≠ w.heap.size + 1 + 1 → g ≠ w.heap.size + 1 + 1 + 1 → ((((W4.setCell ⟨w.heap.size + 1 + 1, 0, none⟩ (.int .i64 wt)).setCell ⟨w.heap.size + 1 + 1, 1, none⟩ (.slice (some ⟨g2, 0, none⟩) n n)).setCell ⟨w.heap.size + 1 + 1 + 1, 0, none⟩ (.int .i64 0)).setCell ⟨w.heap.size + 1 + 1 + 1, 1, none⟩ (.slice (some ⟨g1, 0, none⟩) n n)).drew.heap[g]? = W4.heap[g]? := fun g hg hg2 => (Below.heap_setCell _ ⟨w.heap.size + 1 + 1 + 1, 1, none⟩ _ _ hg2).trans ((Below.heap_setCell _ ⟨w.heap.size + 1 + 1 + 1, 0, none⟩ _ _ hg2).trans ((Below.heap_setCell _ ⟨w.heap.size + 1 + 1, 1, none⟩ _ _ hg).trans (Below.heap_setCell _ ⟨w.heap.size + 1 + 1, 0, none⟩ _ _ hg)))
      refine bodyPost_ret (v := .tuple #[btV wt (some ⟨g2, 0, none⟩) n n, btV 0 (some ⟨g1, 0, none⟩) n n, .nilIface]) ?_ rfl ⟨Or.inl ⟨HOK.out, g2, g1, rfl, ⟨by omega, by omega, by omega⟩, HI24.out.block (e9 _ (by omega) (by omega)), HI14.out.block (e9 _ (by omega) (by omega))⟩, hF3.drew⟩
      obtain ⟨⟨a0, a1⟩, _⟩ := row2_cells hF1
      obtain ⟨⟨a2, a3⟩, _⟩ := row2_cells hF2
      simp only [results, Tryd.results58]
      simp [go_sem, a0, a1, a2, a3]
/-- Five cells of a block, stored. -/
abbrev put5 (w : World) (g : Nat) (x0 x1 x2 x3 x4 : Value) : World := ((((w.setCell ⟨g, 0, none⟩ x0).setCell ⟨g, 1, none⟩ x1).setCell ⟨g, 2, none⟩ x2).setCell ⟨g, 3, none⟩ x3).setCell ⟨g, 4, none⟩ x4
theorem below_put5 {a w : World} (h : Below a.heap.size a w) {g : Nat} (hg : a.heap.size ≤ g) (x0 x1 x2 x3 x4 : Value) : Below a.heap.size a (put5 w g x0 x1 x2 x3 x4) :=
  ((((h.setCell (p := ⟨g, 0, none⟩) hg _).setCell (p := ⟨g, 1, none⟩) hg _).setCell (p := ⟨g, 2, none⟩) hg _).setCell (p := ⟨g, 3, none⟩) hg _).setCell (p := ⟨g, 4, none⟩) hg _
theorem put5_far (w : World) {g k : Nat} (hk : k ≠ g) (x0 x1 x2 x3 x4 : Value) : (put5 w g x0 x1 x2 x3 x4).heap[k]? = w.heap[k]? :=
  (Below.heap_setCell _ ⟨g, 4, none⟩ _ _ hk).trans ((Below.heap_setCell _ ⟨g, 3, none⟩ _ _ hk).trans ((Below.heap_setCell _ ⟨g, 2, none⟩ _ _ hk).trans ((Below.heap_setCell _ ⟨g, 1, none⟩ _ _ hk).trans (Below.heap_setCell _ ⟨g, 0, none⟩ _ _ hk))))
theorem put5_cells {w : World} {g : Nat} {t : TypeId} {F : Nat → Value} (h : w.rowIs g t 5 F) (x0 x1 x2 x3 x4 : Value) : (put5 w g x0 x1 x2 x3 x4).cell? ⟨g, 0, none⟩ = some x0 ∧ (put5 w g x0 x1 x2 x3 x4).cell? ⟨g, 1, none⟩ = some x1 ∧ (put5 w g x0 x1 x2 x3 x4).cell? ⟨g, 2, none⟩ = some x2 ∧ (put5 w g x0 x1 x2 x3 x4).cell? ⟨g, 3, none⟩ = some x3 ∧ (put5 w g x0 x1 x2 x3 x4).cell? ⟨g, 4, none⟩ = some x4 := by
  have hS := ((((h.set 0 x0).set 1 x1).set 2 x2).set 3 x3).set 4 x4
  refine ⟨?_, ?_, ?_, ?_, ?_⟩
  · rw [hS.cell (i := 0) (by omega)]; simp
  · rw [hS.cell (i := 1) (by omega)]; simp
  · rw [hS.cell (i := 2) (by omega)]; simp
  · rw [hS.cell (i := 3) (by omega)]; simp
  · rw [hS.cell (i := 4) (by omega)]; simp
end Go.Proofs.YtcjeieagpcphjaaDoor
