/-
  The contracts of both packages' tests of a batch and of lists of numbers.
-/
import Derived.Test.YtcjeieagpcphjaaDoorWkMath
import Derived.Test.YtcjeieagpcphjaaDoorStI1
namespace Go.Proofs.YtcjeieagpcphjaaDoor
open Go.RowKit Go.Deep

/-- A batch as a value. -/
abbrev btV (wt : Int) (a : Option Addr) (n k : Nat) : Value := .agg #[.int .i64 wt, .slice a n k]
def r2 (a b : Value) : Nat → Value := fun i => if i = 0 then a else b
theorem row2 (w : World) (a b : Value) (t : TypeId) : (w.alloc (.cells #[a, b] t)).rowIs w.heap.size t 2 (r2 a b) := by
  refine ⟨_, blk_alloc_new _ _, rfl, fun i hi => ?_⟩
  have h3 : i = 0 ∨ i = 1 := by omega
  rcases h3 with rfl | rfl <;> rfl
theorem row2_cells {w : World} {g : Nat} {t : TypeId} {a b : Value} (h : w.rowIs g t 2 (r2 a b)) : (w.cell? ⟨g, 0, none⟩ = some a ∧ w.cell? ⟨g, 1, none⟩ = some b) ∧ (w.frozen? ⟨g, 0, none⟩ = false ∧ w.frozen? ⟨g, 1, none⟩ = false) :=
  ⟨⟨h.cell (i := 0) (by omega), h.cell (i := 1) (by omega)⟩, h.frozen 0, h.frozen 1⟩
theorem wrow_below {w w' : World} {g : Nat} {t : TypeId} {m : Nat} {F : Nat → Value} (h : w.rowIs g t m F) (hb : Below w.heap.size w w') : w'.rowIs g t m F := h.of_block (hb.block _ h.lt)
theorem wrow_set {w : World} {g : Nat} {t : TypeId} {m : Nat} {F : Nat → Value} (h : w.rowIs g t m F) {p : Addr} (hp : g ≠ p.block) (u : Value) : (w.setCell p u).rowIs g t m F := h.of_block (Below.heap_setCell _ _ _ _ hp)
theorem row2_set0 {w : World} {g : Nat} {t : TypeId} {a b : Value} (h : w.rowIs g t 2 (r2 a b)) (u : Value) : (w.setCell ⟨g, 0, none⟩ u).rowIs g t 2 (r2 u b) := by
  obtain ⟨cur, h1, h2, h3⟩ := h.set 0 u
  refine ⟨cur, h1, h2, fun i hi => ?_⟩
  rw [h3 i hi]
  have : i = 0 ∨ i = 1 := by omega
  rcases this with rfl | rfl <;> rfl
theorem row2_put {w : World} {g : Nat} {t : TypeId} {a b : Value} (h : w.rowIs g t 2 (r2 a b)) (x y : Value) : ((w.setCell ⟨g, 0, none⟩ x).setCell ⟨g, 1, none⟩ y).rowIs g t 2 (r2 x y) := by
  obtain ⟨cur, h1, h2, h3⟩ := (h.set 0 x).set 1 y
  refine ⟨cur, h1, h2, fun i hi => ?_⟩
  rw [h3 i hi]
  have : i = 0 ∨ i = 1 := by omega
  rcases this with rfl | rfl <;> rfl

set_option maxRecDepth 100000 in
set_option maxHeartbeats 2000000 in
theorem implBRight_any (wt : Int) (a : Option Addr) (n k : Nat) (f : Nat → Int) (w : World) (h : IntsAt a n f w) (hn : n ≤ 4194304) :
    Calls Tryd.prog 61 #[btV wt a n k] w fun e w' => BoolEnd (Wk.OkB wt n f) e ∧ Gr w w' := by
  obtain ⟨b1, hb1⟩ := bool_of (0 ≤ wt ∧ wt ≤ 1000000000)
  have K1 := Lib.hid hb1
  obtain ⟨W, hW⟩ : ∃ W, W = w.alloc (.cells #[.int .i64 wt, .slice a n k] 28) := ⟨_, rfl⟩
  have HG : Hid (Gr w W) := by show Gr _ _; rw [hW]; exact (Gr.refl _).alloc _
  have hR := row2 w (.int .i64 wt) (.slice a n k) 28
  rw [← hW] at hR
  obtain ⟨⟨x0, x1⟩, _⟩ := row2_cells hR
  have HW := Lib.hid hW
  have H := Lib.hid (h.below HG.out.bel)
  clear hb1 h hW hR
  go_enter Tryd.func61, Tryd.ntmps61
  go_wp2_with fail
  rw [← HW.out]
  clear HW
  refine (within_any _ _ b1 K1.out _).mono ?_
  rintro e w1 ⟨rfl, rfl⟩
  cases b1 with
  | false =>
    go_wp2_with fail
    go_ret
    exact ⟨.ff (fun h => by have := K1.out.2 h.1; cases this), HG.out⟩
  | true =>
    by_cases h6 : 6 < n
    · have hz : (6 : Int) < (n : Int) := by omega
      go_wp2_with fail
      go_ret
      exact ⟨.ff (fun h => by have := h.2.1; omega), HG.out⟩
    have hz : ¬ (6 : Int) < (n : Int) := by omega
    go_wp2_with fail
    go_loopw [18] (fun iv wr => ∃ (i : Nat), i ≤ n ∧ iv = .int .i64 i ∧ wr = w1 ∧ Hid (∀ j, j < i → 0 ≤ f j ∧ f j ≤ 1000000000)) (fun iv _ => n - (intOf iv).toNat)
    case atStart => exact ⟨0, Nat.zero_le _, rfl, rfl, fun j hj => absurd hj (Nat.not_lt_zero _)⟩
    case round =>
      obtain ⟨i, hi, rfl, rfl, hP⟩ := hrel
      by_cases hlt : i < n
      · have hltz : (i : Int) < (n : Int) := by omega
        obtain ⟨b, rfl, c0⟩ := H.out.at_ hlt
        obtain ⟨b2, hb2⟩ := bool_of (0 ≤ f i ∧ f i ≤ 1000000000)
        have K2 := Lib.hid hb2
        clear hb2
        go_wp2_with fail
        refine (within_any _ _ b2 K2.out _).mono ?_
        rintro e w2 ⟨rfl, rfl⟩
        cases b2 with
        | false =>
          go_wp2_with fail
          go_ret
          exact ⟨.ff (fun h => by have := K2.out.2 (h.2.2 i hlt); cases this), HG.out⟩
        | true =>
          go_wp2_with fail
          go_roundw
          case rel =>
            refine ⟨i + 1, by omega, by go_num, by first | rfl | trivial, fun j hj => ?_⟩
            by_cases e : j = i
            · subst e; exact (by have := K2.out; simpa using this)
            · exact hP.out j (by omega)
          case measure => simp [intOf]; omega
      · obtain rfl : i = n := by omega
        go_wp2_with fail
        go_ret
        exact ⟨.tt ⟨by have := K1.out; simpa using this, by omega, hP.out⟩, HG.out⟩
set_option maxRecDepth 100000 in
set_option maxHeartbeats 2000000 in
theorem wAll_any (a : Option Addr) (m cap : Nat) (f : Nat → Int) (M : Int) (w : World) (h : IntsAt a m f w) (hm : m ≤ 4194304) :
    Calls Tryd.prog 39 #[.slice a m cap, .int .i64 0, .int .i64 M] w fun e w' => BoolEnd (∀ i, i < m → 0 ≤ f i ∧ f i ≤ M) e ∧ w' = w := by
  have H := Lib.hid h
  clear h
  go_enter Tryd.func39, Tryd.ntmps39
  go_wp2_with fail
  go_loopw [7] (fun iv wr => ∃ (i : Nat), i ≤ m ∧ iv = .int .i64 i ∧ wr = w ∧ Hid (∀ j, j < i → 0 ≤ f j ∧ f j ≤ M)) (fun iv _ => m - (intOf iv).toNat)
  case atStart => exact ⟨0, Nat.zero_le _, rfl, rfl, fun j hj => absurd hj (Nat.not_lt_zero _)⟩
  case round =>
    obtain ⟨i, hi, rfl, rfl, hP⟩ := hrel
    by_cases hlt : i < m
    · have hltz : (i : Int) < (m : Int) := by omega
      obtain ⟨b, rfl, c0⟩ := H.out.at_ hlt
      by_cases h1 : f i < 0
      · go_wp2_with fail
        go_ret
        exact ⟨.ff (fun h => by have := h i hlt; omega), rfl⟩
      by_cases h2 : M < f i
      · go_wp2_with fail
        go_ret
        exact ⟨.ff (fun h => by have := h i hlt; omega), rfl⟩
      go_wp2_with fail
      go_roundw
      case rel =>
        refine ⟨i + 1, by omega, by go_num, by first | rfl | trivial, fun j hj => ?_⟩
        by_cases e : j = i
        · subst e; omega
        · exact hP.out j (by omega)
      case measure => simp [intOf]; omega
    · obtain rfl : i = m := by omega
      go_wp2_with fail
      go_ret
      exact ⟨.tt hP.out, rfl⟩
set_option maxRecDepth 100000 in
set_option maxHeartbeats 2000000 in
theorem sBRight_any (wt : Int) (a : Option Addr) (n k : Nat) (f : Nat → Int) (w : World) (h : IntsAt a n f w) (hn : n ≤ 4194304) :
    Calls Tryd.prog 38 #[btV wt a n k] w fun e w' => BoolEnd (Wk.OkB wt n f) e ∧ Gr w w' := by
  obtain ⟨W, hW⟩ : ∃ W, W = w.alloc (.cells #[.int .i64 wt, .slice a n k] 28) := ⟨_, rfl⟩
  have HG : Hid (Gr w W) := by show Gr _ _; rw [hW]; exact (Gr.refl _).alloc _
  have HW := Lib.hid hW
  have H := Lib.hid (h.below HG.out.bel)
  clear h hW
  by_cases h1 : 0 ≤ wt
  case neg =>
    go_enter Tryd.func38, Tryd.ntmps38
    go_wp2_with fail
    rw [← HW.out]
    go_ret
    exact ⟨.ff (fun h => by have := h.1.1; omega), HG.out⟩
  by_cases h2 : wt ≤ 1000000000
  case neg =>
    go_enter Tryd.func38, Tryd.ntmps38
    go_wp2_with fail
    rw [← HW.out]
    go_ret
    exact ⟨.ff (fun h => by have := h.1.2; omega), HG.out⟩
  by_cases h6 : n ≤ 6
  case neg =>
    have hz : ¬ (n : Int) ≤ 6 := by omega
    go_enter Tryd.func38, Tryd.ntmps38
    go_wp2_with fail
    rw [← HW.out]
    go_ret
    exact ⟨.ff (fun h => by have := h.2.1; omega), HG.out⟩
  have hz : (n : Int) ≤ 6 := by omega
  go_enter Tryd.func38, Tryd.ntmps38
  go_wp2_with fail
  rw [← HW.out]
  clear HW
  refine (wAll_any a n k f 1000000000 _ H.out hn).mono ?_
  rintro e w1 ⟨⟨b, rfl, hb⟩, rfl⟩
  have HB := Lib.hid hb
  clear hb
  cases b with
  | false =>
    go_wp2_with fail
    go_ret
    exact ⟨.ff (fun h => by have := HB.out.2 h.2.2; cases this), HG.out⟩
  | true =>
    go_wp2_with fail
    go_ret
    exact ⟨.tt ⟨⟨h1, h2⟩, h6, by simpa using HB.out⟩, HG.out⟩
end Go.Proofs.YtcjeieagpcphjaaDoor
