/-
  The laws' conversions, comparisons and marks of tariffs and bills.
-/
import Derived.Test.YtnbnfifgajfomaaBiEx1
import Derived.Test.YtnbnfifgajfomaaBiLs
import Derived.Test.YtnbnfifgajfomaaBiQx
namespace Go.Proofs.Ytnbnfifgajfomaa
open Go.RowKit Go.Deep

/-- What is left: below nought, or the list is small. -/
def SzTariff (l n : Nat) (e : Ending) : Prop := (∃ z : Int, e = .returned (.int .i64 z) ∧ z < 0) ∨ (n ≤ l ∧ e = .returned (.int .i64 ((l - n : Nat) : Int)))
set_option maxRecDepth 100000 in
set_option maxHeartbeats 2000000 in
theorem szTariff_any (t : Bi.T) (a : Option Addr) (k l : Nat) (w : World) (hl : l ≤ 1048576) (hm : t.bn ≤ 9223372036854775807) :
    Calls Try.prog 10 #[tfV t a k, .int .i64 l] w fun e w' => SzTariff l t.bn e ∧ Below w.heap.size w w' := by
  have hB := Lib.hid ((Below.refl w.heap.size w).alloc (Nat.le_refl _) (.cells #[.int .i64 t.day, .slice a t.bn k, .int .i64 t.sew, .int .i64 t.tax] 31))
  by_cases h1 : t.bn ≤ l
  · have hz : ¬ ((l - t.bn : Nat) : Int) < 0 := by omega
    go_enter Try.func10, Try.ntmps10
    go_wp2_with fail
    refine (nszBlock_in a t.bn k l _ h1 hl).mono ?_
    rintro e w1 ⟨rfl, rfl⟩
    go_wp2_with fail
    go_ret
    exact ⟨Or.inr ⟨h1, rfl⟩, hB.out⟩
  · go_enter Try.func10, Try.ntmps10
    go_wp2_with fail
    refine (nszBlock_over a t.bn k l _ (by omega) hl hm).mono ?_
    rintro e w1 ⟨rfl, rfl⟩
    go_wp2_with fail
    go_ret
    exact ⟨Or.inl ⟨_, rfl, by omega⟩, hB.out⟩
set_option maxRecDepth 100000 in
set_option maxHeartbeats 4000000 in
theorem toTariff_any (t : Bi.T) (a : Option Addr) (k : Nat) (w : World) (h1 : IsIn a (t.bn * 2) t.B w) (hn : t.bn ≤ 1048576) :
    Calls Try.prog 12 #[tfV t a k] w fun e w' => (∃ g, e = .returned (tfV t (some ⟨g, 0, none⟩) t.bn) ∧ w.heap.size ≤ g ∧ IsBlk 52 g (t.bn * 2) t.B w') ∧ Below w.heap.size w w' := by
  obtain ⟨W, hW⟩ : ∃ W, W = ((w.alloc (.cells #[.int .i64 t.day, .slice a t.bn k, .int .i64 t.sew, .int .i64 t.tax] 31)).alloc (.cells #[.int .i64 0, .slice none 0 0, .int .i64 0, .int .i64 0] 36)).alloc (.cells #[.int .i64 t.day, .slice none 0 0, .int .i64 0, .int .i64 0] 36) := ⟨_, rfl⟩
  have hsz : W.heap.size = w.heap.size + 3 := by rw [hW]; simp
  have hB : Below w.heap.size w W := by rw [hW]; exact (((Below.refl _ _).alloc (Nat.le_refl _) _).alloc (by simp) _).alloc (by simp; omega) _
  have RA : W.rowIs w.heap.size 31 4 (rowN [.int .i64 t.day, .slice a t.bn k, .int .i64 t.sew, .int .i64 t.tax]) := by
    rw [hW]; exact nrow_below (nrow_below (rowN_alloc w _ _) (nbel_alloc _ _)) (nbel_alloc _ _)
  have RO : W.rowIs (w.heap.size + 1) 36 4 (rowN [.int .i64 0, .slice none 0 0, .int .i64 0, .int .i64 0]) := by
    rw [hW]; exact nrow_below (rowN_alloc' (by simp) _ _) (nbel_alloc _ _)
  have RP : W.rowIs (w.heap.size + 1 + 1) 36 4 (rowN [.int .i64 t.day, .slice none 0 0, .int .i64 0, .int .i64 0]) := by
    rw [hW]; exact rowN_alloc' (by simp) _ _
  have HW := Lib.hid hW
  have HB := Lib.hid hB
  have H1 := Lib.hid h1
  have HRA := Lib.hid RA
  have HRO := Lib.hid RO
  have HRP := Lib.hid RP
  have HSZ := Lib.hid hsz
  clear hW hB h1 RA RO RP hsz
  go_enter Try.func12, Try.ntmps12
  go_wp2_with fail
  rw [← HW.out]
  refine (ntoBlockS_any a t.bn k t.B _ (H1.out.below HB.out) hn).mono ?_
  rintro e w1 ⟨⟨rfl, hk1⟩, hb1⟩
  have RA1 := nrow_below HRA.out hb1
  have RP1 := nrow_below HRP.out hb1
  have RO1 := nrow_below HRO.out hb1
  have HB1 : Hid (Below w.heap.size w w1) := HB.out.trans (hb1.mono HB.out.size)
  have HK1 := Lib.hid hk1
  obtain ⟨⟨a0, a1, a2, a3⟩, _⟩ := rowN4 RA1
  obtain ⟨⟨p0, p1, p2, p3⟩, z0, z1, z2, z3⟩ := rowN4 RP1
  obtain ⟨⟨o0, o1, o2, o3⟩, y0, y1, y2, y3⟩ := rowN4 RO1
  have HRO1 := Lib.hid RO1
  have hl1 : w.heap.size + 1 + 1 < w1.heap.size := RP1.lt
  have HS3 := Lib.hid HSZ.out
  clear RA1 RP1 RO1 hb1 hk1
  go_wp2_with fail
  have s3 := HS3.out
  refine bodyPost_ret (v := tfV t (some ⟨W.heap.size, 0, none⟩) t.bn) ?_ rfl ⟨⟨W.heap.size, rfl, by omega, HK1.out.block ?_⟩, ?_⟩
  · obtain ⟨⟨x0, x1, x2, x3⟩, _⟩ := rowN4 (rowN_put (rowN_put (rowN_put (rowN_put (nrow_set (nrow_set (nrow_set HRO1.out (p := ⟨w.heap.size + 1 + 1, 1, none⟩) (by show w.heap.size + 1 ≠ w.heap.size + 1 + 1; omega) (.slice (some ⟨W.heap.size, 0, none⟩) t.bn t.bn)) (p := ⟨w.heap.size + 1 + 1, 2, none⟩) (by show w.heap.size + 1 ≠ w.heap.size + 1 + 1; omega) (.int .i64 t.sew)) (p := ⟨w.heap.size + 1 + 1, 3, none⟩) (by show w.heap.size + 1 ≠ w.heap.size + 1 + 1; omega) (.int .i64 t.tax)) 0 (.int .i64 t.day) (by simp)) 1 (.slice (some ⟨W.heap.size, 0, none⟩) t.bn t.bn) (by simp)) 2 (.int .i64 t.sew) (by simp)) 3 (.int .i64 t.tax) (by simp))
    simp only [results, Try.results12]
    simp [go_sem, x0, x1, x2, x3]
  · repeat rw [bihs _ _ _ (by omega)]
  · exact (((((((HB1.out.setCell (p := ⟨w.heap.size + 1 + 1, 1, none⟩) (by show w.heap.size ≤ w.heap.size + 1 + 1; omega) _).setCell (p := ⟨w.heap.size + 1 + 1, 2, none⟩) (by show w.heap.size ≤ w.heap.size + 1 + 1; omega) _).setCell (p := ⟨w.heap.size + 1 + 1, 3, none⟩) (by show w.heap.size ≤ w.heap.size + 1 + 1; omega) _).setCell (p := ⟨w.heap.size + 1, 0, none⟩) (by show w.heap.size ≤ w.heap.size + 1; omega) _).setCell (p := ⟨w.heap.size + 1, 1, none⟩) (by show w.heap.size ≤ w.heap.size + 1; omega) _).setCell (p := ⟨w.heap.size + 1, 2, none⟩) (by show w.heap.size ≤ w.heap.size + 1; omega) _).setCell (p := ⟨w.heap.size + 1, 3, none⟩) (by show w.heap.size ≤ w.heap.size + 1; omega) _)
set_option maxRecDepth 100000 in
set_option maxHeartbeats 4000000 in
theorem eqTariff_same (t : Bi.T) (a b : Option Addr) (ka kb : Nat) (w : World) (h1 : IsAt a (t.bn * 2) t.B w) (h2 : IsAt b (t.bn * 2) t.B w) (hn : t.bn ≤ 1048576) :
    Calls Try.prog 14 #[tfV t a ka, tfV t b kb] w fun e w' => e = .returned (.bool true) ∧ Below w.heap.size w w' := by
  obtain ⟨W, hW⟩ : ∃ W, W = (w.alloc (.cells #[.int .i64 t.day, .slice a t.bn ka, .int .i64 t.sew, .int .i64 t.tax] 36)).alloc (.cells #[.int .i64 t.day, .slice b t.bn kb, .int .i64 t.sew, .int .i64 t.tax] 36) := ⟨_, rfl⟩
  have hB : Below w.heap.size w W := by rw [hW]; exact ((Below.refl _ _).alloc (Nat.le_refl _) _).alloc (by simp) _
  have RA : W.rowIs w.heap.size 36 4 (rowN [.int .i64 t.day, .slice a t.bn ka, .int .i64 t.sew, .int .i64 t.tax]) := by rw [hW]; exact nrow_below (rowN_alloc w _ _) (nbel_alloc _ _)
  have RO : W.rowIs (w.heap.size + 1) 36 4 (rowN [.int .i64 t.day, .slice b t.bn kb, .int .i64 t.sew, .int .i64 t.tax]) := by rw [hW]; exact rowN_alloc' (by simp) _ _
  have HW := Lib.hid hW
  have HB := Lib.hid hB
  have H1 := Lib.hid h1
  have H2 := Lib.hid h2
  have HRA := Lib.hid RA
  have HRO := Lib.hid RO
  clear hW hB h1 h2 RA RO
  go_enter Try.func14, Try.ntmps14
  go_wp2_with fail
  rw [← HW.out]
  refine (neqBlockS_same a b t.bn ka kb t.B _ (H1.out.below HB.out) (H2.out.below HB.out) hn).mono ?_
  rintro e w1 ⟨rfl, hb1⟩
  obtain ⟨⟨x0, x1, x2, x3⟩, _⟩ := rowN4 (nrow_below HRA.out hb1)
  obtain ⟨⟨y0, y1, y2, y3⟩, _⟩ := rowN4 (nrow_below HRO.out hb1)
  have HB1 : Hid (Below w.heap.size w w1) := HB.out.trans (hb1.mono HB.out.size)
  clear hb1
  go_wp2_with fail
  go_ret
  exact ⟨rfl, HB1.out⟩
end Go.Proofs.Ytnbnfifgajfomaa
