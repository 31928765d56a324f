/-
  The laws' conversions, comparisons and marks of tariffs and bills.
-/
import Derived.Test.YtnbnfifgajfomaaDoorBiEx1
import Derived.Test.YtnbnfifgajfomaaDoorBiLs
import Derived.Test.YtnbnfifgajfomaaDoorBiQx
namespace Go.Proofs.YtnbnfifgajfomaaDoor
open Go.RowKit Go.Deep

/-- What is left: below nought, or the list is small. -/
def SzTariff (l n : Nat) (e : Ending) : Prop := (∃ z : Int, e = .returned (.int .i64 z) ∧ z < 0) ∨ (n ≤ l ∧ e = .returned (.int .i64 ((l - n : Nat) : Int)))
set_option maxRecDepth 100000 in
set_option maxHeartbeats 2000000 in
theorem szTariff_any (t : Bi.T) (a : Option Addr) (k l : Nat) (w : World) (hl : l ≤ 1048576) (hm : t.bn ≤ 9223372036854775807) :
    Calls Tryd.prog 16 #[tfV t a k, .int .i64 l] w fun e w' => SzTariff l t.bn e ∧ Below w.heap.size w w' := by
  have hB := Lib.hid ((Below.refl w.heap.size w).alloc (Nat.le_refl _) (.cells #[.int .i64 t.day, .slice a t.bn k, .int .i64 t.sew, .int .i64 t.tax] 44))
  by_cases h1 : t.bn ≤ l
  · have hz : ¬ ((l - t.bn : Nat) : Int) < 0 := by omega
    go_enter Tryd.func16, Tryd.ntmps16
    go_wp2_with fail
    refine (nszBlock_in a t.bn k l _ h1 hl).mono ?_
    rintro e w1 ⟨rfl, rfl⟩
    go_wp2_with fail
    go_ret
    exact ⟨Or.inr ⟨h1, rfl⟩, hB.out⟩
  · go_enter Tryd.func16, Tryd.ntmps16
    go_wp2_with fail
    refine (nszBlock_over a t.bn k l _ (by omega) hl hm).mono ?_
    rintro e w1 ⟨rfl, rfl⟩
    go_wp2_with fail
    go_ret
    exact ⟨Or.inl ⟨_, rfl, by omega⟩, hB.out⟩
set_option maxRecDepth 100000 in
set_option maxHeartbeats 4000000 in
theorem toTariff_any (t : Bi.T) (a : Option Addr) (k : Nat) (w : World) (h1 : IsIn a (t.bn * 2) t.B w) (hn : t.bn ≤ 1048576) :
    Calls Tryd.prog 17 #[tfV t a k] w fun e w' => (∃ g, e = .returned (tfV t (some ⟨g, 0, none⟩) t.bn) ∧ w.heap.size ≤ g ∧ IsBlk 73 g (t.bn * 2) t.B w') ∧ Below w.heap.size w w' := by
  obtain ⟨W, hW⟩ : ∃ W, W = ((w.alloc (.cells #[.int .i64 t.day, .slice a t.bn k, .int .i64 t.sew, .int .i64 t.tax] 44)).alloc (.cells #[.int .i64 0, .slice none 0 0, .int .i64 0, .int .i64 0] 25)).alloc (.cells #[.int .i64 t.day, .slice none 0 0, .int .i64 0, .int .i64 0] 25) := ⟨_, rfl⟩
  have hsz : W.heap.size = w.heap.size + 3 := by rw [hW]; simp
  have hB : Below w.heap.size w W := by rw [hW]; exact (((Below.refl _ _).alloc (Nat.le_refl _) _).alloc (by simp) _).alloc (by simp; omega) _
  have RA : W.rowIs w.heap.size 44 4 (rowN [.int .i64 t.day, .slice a t.bn k, .int .i64 t.sew, .int .i64 t.tax]) := by
    rw [hW]; exact nrow_below (nrow_below (rowN_alloc w _ _) (nbel_alloc _ _)) (nbel_alloc _ _)
  have RO : W.rowIs (w.heap.size + 1) 25 4 (rowN [.int .i64 0, .slice none 0 0, .int .i64 0, .int .i64 0]) := by
    rw [hW]; exact nrow_below (rowN_alloc' (by simp) _ _) (nbel_alloc _ _)
  have RP : W.rowIs (w.heap.size + 1 + 1) 25 4 (rowN [.int .i64 t.day, .slice none 0 0, .int .i64 0, .int .i64 0]) := by
    rw [hW]; exact rowN_alloc' (by simp) _ _
  have HW := Lib.hid hW
  have HB := Lib.hid hB
  have H1 := Lib.hid h1
  have HRA := Lib.hid RA
  have HRO := Lib.hid RO
  have HRP := Lib.hid RP
  have HSZ := Lib.hid hsz
  clear hW hB h1 RA RO RP hsz
  go_enter Tryd.func17, Tryd.ntmps17
  go_wp2_with fail
  rw [← HW.out]
  refine (ntoBlockS_any a t.bn k t.B _ (H1.out.below HB.out) hn).mono ?_
  rintro e w1 ⟨⟨rfl, hk1⟩, hb1⟩
  have RA1 := nrow_below HRA.out hb1
  have RP1 := nrow_below HRP.out hb1
  have RO1 := nrow_below HRO.out hb1
  have HB1 : Hid (Below w.heap.size w w1) := HB.out.trans (hb1.mono HB.out.size)
  have HK1 := Lib.hid hk1
  obtain ⟨⟨a0, a1, a2, a3⟩, _⟩ := rowN4 RA1
  obtain ⟨⟨p0, p1, p2, p3⟩, z0, z1, z2, z3⟩ := rowN4 RP1
  obtain ⟨⟨o0, o1, o2, o3⟩, y0, y1, y2, y3⟩ := rowN4 RO1
  have HRO1 := Lib.hid RO1
  have hl1 : w.heap.size + 1 + 1 < w1.heap.size := RP1.lt
  have HS3 := Lib.hid HSZ.out
  clear RA1 RP1 RO1 hb1 hk1
  go_wp2_with fail
  have s3 := HS3.out
  refine bodyPost_ret (v := tfV t (some ⟨W.heap.size, 0, none⟩) t.bn) ?_ rfl ⟨⟨W.heap.size, rfl, by omega, HK1.out.block ?_⟩, ?_⟩
  · obtain ⟨⟨x0, x1, x2, x3⟩, _⟩ := rowN4 (rowN_put (rowN_put (rowN_put (rowN_put (nrow_set (nrow_set (nrow_set HRO1.out (p := ⟨w.heap.size + 1 + 1, 1, none⟩) (by show w.heap.size + 1 ≠ w.heap.size + 1 + 1; omega) (.slice (some ⟨W.heap.size, 0, none⟩) t.bn t.bn)) (p := ⟨w.heap.size + 1 + 1, 2, none⟩) (by show w.heap.size + 1 ≠ w.heap.size + 1 + 1; omega) (.int .i64 t.sew)) (p := ⟨w.heap.size + 1 + 1, 3, none⟩) (by show w.heap.size + 1 ≠ w.heap.size + 1 + 1; omega) (.int .i64 t.tax)) 0 (.int .i64 t.day) (by simp)) 1 (.slice (some ⟨W.heap.size, 0, none⟩) t.bn t.bn) (by simp)) 2 (.int .i64 t.sew) (by simp)) 3 (.int .i64 t.tax) (by simp))
    simp only [results, Tryd.results17]
    simp [go_sem, x0, x1, x2, x3]
  · repeat rw [bihs _ _ _ (by omega)]
  · exact (((((((HB1.out.setCell (p := ⟨w.heap.size + 1 + 1, 1, none⟩) (by show w.heap.size ≤ w.heap.size + 1 + 1; omega) _).setCell (p := ⟨w.heap.size + 1 + 1, 2, none⟩) (by show w.heap.size ≤ w.heap.size + 1 + 1; omega) _).setCell (p := ⟨w.heap.size + 1 + 1, 3, none⟩) (by show w.heap.size ≤ w.heap.size + 1 + 1; omega) _).setCell (p := ⟨w.heap.size + 1, 0, none⟩) (by show w.heap.size ≤ w.heap.size + 1; omega) _).setCell (p := ⟨w.heap.size + 1, 1, none⟩) (by show w.heap.size ≤ w.heap.size + 1; omega) _).setCell (p := ⟨w.heap.size + 1, 2, none⟩) (by show w.heap.size ≤ w.heap.size + 1; omega) _).setCell (p := ⟨w.heap.size + 1, 3, none⟩) (by show w.heap.size ≤ w.heap.size + 1; omega) _)
set_option maxRecDepth 100000 in
set_option maxHeartbeats 4000000 in
theorem eqTariff_same (t : Bi.T) (a b : Option Addr) (ka kb : Nat) (w : World) (h1 : IsAt a (t.bn * 2) t.B w) (h2 : IsAt b (t.bn * 2) t.B w) (hn : t.bn ≤ 1048576) :
    Calls Tryd.prog 19 #[tfV t a ka, tfV t b kb] w fun e w' => e = .returned (.bool true) ∧ Below w.heap.size w w' := by
  obtain ⟨W, hW⟩ : ∃ W, W = (w.alloc (.cells #[.int .i64 t.day, .slice a t.bn ka, .int .i64 t.sew, .int .i64 t.tax] 25)).alloc (.cells #[.int .i64 t.day, .slice b t.bn kb, .int .i64 t.sew, .int .i64 t.tax] 25) := ⟨_, rfl⟩
  have hB : Below w.heap.size w W := by rw [hW]; exact ((Below.refl _ _).alloc (Nat.le_refl _) _).alloc (by simp) _
  have RA : W.rowIs w.heap.size 25 4 (rowN [.int .i64 t.day, .slice a t.bn ka, .int .i64 t.sew, .int .i64 t.tax]) := by rw [hW]; exact nrow_below (rowN_alloc w _ _) (nbel_alloc _ _)
  have RO : W.rowIs (w.heap.size + 1) 25 4 (rowN [.int .i64 t.day, .slice b t.bn kb, .int .i64 t.sew, .int .i64 t.tax]) := by rw [hW]; exact rowN_alloc' (by simp) _ _
  have HW := Lib.hid hW
  have HB := Lib.hid hB
  have H1 := Lib.hid h1
  have H2 := Lib.hid h2
  have HRA := Lib.hid RA
  have HRO := Lib.hid RO
  clear hW hB h1 h2 RA RO
  go_enter Tryd.func19, Tryd.ntmps19
  go_wp2_with fail
  rw [← HW.out]
  refine (neqBlockS_same a b t.bn ka kb t.B _ (H1.out.below HB.out) (H2.out.below HB.out) hn).mono ?_
  rintro e w1 ⟨rfl, hb1⟩
  obtain ⟨⟨x0, x1, x2, x3⟩, _⟩ := rowN4 (nrow_below HRA.out hb1)
  obtain ⟨⟨y0, y1, y2, y3⟩, _⟩ := rowN4 (nrow_below HRO.out hb1)
  have HB1 : Hid (Below w.heap.size w w1) := HB.out.trans (hb1.mono HB.out.size)
  clear hb1
  go_wp2_with fail
  go_ret
  exact ⟨rfl, HB1.out⟩
/-- What is left: below nought, or the list is small. -/
def SzBill (l n : Nat) (e : Ending) : Prop := (∃ z : Int, e = .returned (.int .i64 z) ∧ z < 0) ∨ (n ≤ l ∧ e = .returned (.int .i64 ((l - n : Nat) : Int)))
set_option maxRecDepth 100000 in
set_option maxHeartbeats 2000000 in
theorem szBill_any (X : Bi.Bl) (n : Nat) (a : Option Addr) (k l : Nat) (w : World) (hl : l ≤ 1048576) (hm : n ≤ 9223372036854775807) :
    Calls Tryd.prog 23 #[blV X n a k, .int .i64 l] w fun e w' => SzBill l n e ∧ Below w.heap.size w w' := by
  have hB := Lib.hid ((Below.refl w.heap.size w).alloc (Nat.le_refl _) (.cells #[.int .i64 X.days, .slice a n k, .int .i64 X.sew, .int .i64 X.net, .int .i64 X.tax, .int .i64 X.gross, .int .i64 X.code] 52))
  by_cases h1 : n ≤ l
  · have hz : ¬ ((l - n : Nat) : Int) < 0 := by omega
    go_enter Tryd.func23, Tryd.ntmps23
    go_wp2_with fail
    refine (nszInt64_in a n k l _ h1 hl).mono ?_
    rintro e w1 ⟨rfl, rfl⟩
    go_wp2_with fail
    go_ret
    exact ⟨Or.inr ⟨h1, rfl⟩, hB.out⟩
  · go_enter Tryd.func23, Tryd.ntmps23
    go_wp2_with fail
    refine (nszInt64_over a n k l _ (by omega) hl hm).mono ?_
    rintro e w1 ⟨rfl, rfl⟩
    go_wp2_with fail
    go_ret
    exact ⟨Or.inl ⟨_, rfl, by omega⟩, hB.out⟩
set_option maxRecDepth 100000 in
set_option maxHeartbeats 4000000 in
theorem toBill_any (X : Bi.Bl) (n : Nat) (L : Nat → Int) (a : Option Addr) (k : Nat) (w : World) (h1 : IsIn a n L w) (hn : n ≤ 1048576) :
    Calls Tryd.prog 25 #[blV X n a k] w fun e w' => (∃ g, e = .returned (blV X n (some ⟨g, 0, none⟩) n) ∧ w.heap.size ≤ g ∧ IsBlk 2 g n L w') ∧ Below w.heap.size w w' := by
  obtain ⟨W, hW⟩ : ∃ W, W = ((w.alloc (.cells #[.int .i64 X.days, .slice a n k, .int .i64 X.sew, .int .i64 X.net, .int .i64 X.tax, .int .i64 X.gross, .int .i64 X.code] 52)).alloc (.cells #[.int .i64 0, .slice none 0 0, .int .i64 0, .int .i64 0, .int .i64 0, .int .i64 0, .int .i64 0] 30)).alloc (.cells #[.int .i64 X.days, .slice none 0 0, .int .i64 0, .int .i64 0, .int .i64 0, .int .i64 0, .int .i64 0] 30) := ⟨_, rfl⟩
  have hsz : W.heap.size = w.heap.size + 3 := by rw [hW]; simp
  have hB : Below w.heap.size w W := by rw [hW]; exact (((Below.refl _ _).alloc (Nat.le_refl _) _).alloc (by simp) _).alloc (by simp; omega) _
  have RA : W.rowIs w.heap.size 52 7 (rowN [.int .i64 X.days, .slice a n k, .int .i64 X.sew, .int .i64 X.net, .int .i64 X.tax, .int .i64 X.gross, .int .i64 X.code]) := by
    rw [hW]; exact nrow_below (nrow_below (rowN_alloc w _ _) (nbel_alloc _ _)) (nbel_alloc _ _)
  have RO : W.rowIs (w.heap.size + 1) 30 7 (rowN [.int .i64 0, .slice none 0 0, .int .i64 0, .int .i64 0, .int .i64 0, .int .i64 0, .int .i64 0]) := by
    rw [hW]; exact nrow_below (rowN_alloc' (by simp) _ _) (nbel_alloc _ _)
  have RP : W.rowIs (w.heap.size + 1 + 1) 30 7 (rowN [.int .i64 X.days, .slice none 0 0, .int .i64 0, .int .i64 0, .int .i64 0, .int .i64 0, .int .i64 0]) := by
    rw [hW]; exact rowN_alloc' (by simp) _ _
  have HW := Lib.hid hW
  have HB := Lib.hid hB
  have H1 := Lib.hid h1
  have HRA := Lib.hid RA
  have HRO := Lib.hid RO
  have HRP := Lib.hid RP
  have HSZ := Lib.hid hsz
  clear hW hB h1 RA RO RP hsz
  go_enter Tryd.func25, Tryd.ntmps25
  go_wp2_with fail
  rw [← HW.out]
  refine (ntoInt64S_any a n k L _ (H1.out.below HB.out) hn).mono ?_
  rintro e w1 ⟨⟨rfl, hk1⟩, hb1⟩
  have RA1 := nrow_below HRA.out hb1
  have RP1 := nrow_below HRP.out hb1
  have RO1 := nrow_below HRO.out hb1
  have HB1 : Hid (Below w.heap.size w w1) := HB.out.trans (hb1.mono HB.out.size)
  have HK1 := Lib.hid hk1
  obtain ⟨⟨a0, a1, a2, a3, a4, a5, a6⟩, _⟩ := rowN7 RA1
  obtain ⟨⟨p0, p1, p2, p3, p4, p5, p6⟩, z0, z1, z2, z3, z4, z5, z6⟩ := rowN7 RP1
  obtain ⟨⟨o0, o1, o2, o3, o4, o5, o6⟩, y0, y1, y2, y3, y4, y5, y6⟩ := rowN7 RO1
  have HRO1 := Lib.hid RO1
  have hl1 : w.heap.size + 1 + 1 < w1.heap.size := RP1.lt
  have HS3 := Lib.hid HSZ.out
  clear RA1 RP1 RO1 hb1 hk1
  go_wp2_with fail
  have s3 := HS3.out
  refine bodyPost_ret (v := blV X n (some ⟨W.heap.size, 0, none⟩) n) ?_ rfl ⟨⟨W.heap.size, rfl, by omega, HK1.out.block ?_⟩, ?_⟩
  · obtain ⟨⟨x0, x1, x2, x3, x4, x5, x6⟩, _⟩ := rowN7 (rowN_put (rowN_put (rowN_put (rowN_put (rowN_put (rowN_put (rowN_put (nrow_set (nrow_set (nrow_set (nrow_set (nrow_set (nrow_set HRO1.out (p := ⟨w.heap.size + 1 + 1, 1, none⟩) (by show w.heap.size + 1 ≠ w.heap.size + 1 + 1; omega) (.slice (some ⟨W.heap.size, 0, none⟩) n n)) (p := ⟨w.heap.size + 1 + 1, 2, none⟩) (by show w.heap.size + 1 ≠ w.heap.size + 1 + 1; omega) (.int .i64 X.sew)) (p := ⟨w.heap.size + 1 + 1, 3, none⟩) (by show w.heap.size + 1 ≠ w.heap.size + 1 + 1; omega) (.int .i64 X.net)) (p := ⟨w.heap.size + 1 + 1, 4, none⟩) (by show w.heap.size + 1 ≠ w.heap.size + 1 + 1; omega) (.int .i64 X.tax)) (p := ⟨w.heap.size + 1 + 1, 5, none⟩) (by show w.heap.size + 1 ≠ w.heap.size + 1 + 1; omega) (.int .i64 X.gross)) (p := ⟨w.heap.size + 1 + 1, 6, none⟩) (by show w.heap.size + 1 ≠ w.heap.size + 1 + 1; omega) (.int .i64 X.code)) 0 (.int .i64 X.days) (by simp)) 1 (.slice (some ⟨W.heap.size, 0, none⟩) n n) (by simp)) 2 (.int .i64 X.sew) (by simp)) 3 (.int .i64 X.net) (by simp)) 4 (.int .i64 X.tax) (by simp)) 5 (.int .i64 X.gross) (by simp)) 6 (.int .i64 X.code) (by simp))
    simp only [results, Tryd.results25]
    simp [go_sem, x0, x1, x2, x3, x4, x5, x6]
  · repeat rw [bihs _ _ _ (by omega)]
  · exact (((((((((((((HB1.out.setCell (p := ⟨w.heap.size + 1 + 1, 1, none⟩) (by show w.heap.size ≤ w.heap.size + 1 + 1; omega) _).setCell (p := ⟨w.heap.size + 1 + 1, 2, none⟩) (by show w.heap.size ≤ w.heap.size + 1 + 1; omega) _).setCell (p := ⟨w.heap.size + 1 + 1, 3, none⟩) (by show w.heap.size ≤ w.heap.size + 1 + 1; omega) _).setCell (p := ⟨w.heap.size + 1 + 1, 4, none⟩) (by show w.heap.size ≤ w.heap.size + 1 + 1; omega) _).setCell (p := ⟨w.heap.size + 1 + 1, 5, none⟩) (by show w.heap.size ≤ w.heap.size + 1 + 1; omega) _).setCell (p := ⟨w.heap.size + 1 + 1, 6, none⟩) (by show w.heap.size ≤ w.heap.size + 1 + 1; omega) _).setCell (p := ⟨w.heap.size + 1, 0, none⟩) (by show w.heap.size ≤ w.heap.size + 1; omega) _).setCell (p := ⟨w.heap.size + 1, 1, none⟩) (by show w.heap.size ≤ w.heap.size + 1; omega) _).setCell (p := ⟨w.heap.size + 1, 2, none⟩) (by show w.heap.size ≤ w.heap.size + 1; omega) _).setCell (p := ⟨w.heap.size + 1, 3, none⟩) (by show w.heap.size ≤ w.heap.size + 1; omega) _).setCell (p := ⟨w.heap.size + 1, 4, none⟩) (by show w.heap.size ≤ w.heap.size + 1; omega) _).setCell (p := ⟨w.heap.size + 1, 5, none⟩) (by show w.heap.size ≤ w.heap.size + 1; omega) _).setCell (p := ⟨w.heap.size + 1, 6, none⟩) (by show w.heap.size ≤ w.heap.size + 1; omega) _)
set_option maxRecDepth 100000 in
set_option maxHeartbeats 4000000 in
theorem eqBill_same (X : Bi.Bl) (n : Nat) (L : Nat → Int) (a b : Option Addr) (ka kb : Nat) (w : World) (h1 : IsIn a n L w) (h2 : IsIn b n L w) (hn : n ≤ 1048576) :
    Calls Tryd.prog 18 #[blV X n a ka, blV X n b kb] w fun e w' => e = .returned (.bool true) ∧ Below w.heap.size w w' := by
  obtain ⟨W, hW⟩ : ∃ W, W = (w.alloc (.cells #[.int .i64 X.days, .slice a n ka, .int .i64 X.sew, .int .i64 X.net, .int .i64 X.tax, .int .i64 X.gross, .int .i64 X.code] 30)).alloc (.cells #[.int .i64 X.days, .slice b n kb, .int .i64 X.sew, .int .i64 X.net, .int .i64 X.tax, .int .i64 X.gross, .int .i64 X.code] 30) := ⟨_, rfl⟩
  have hB : Below w.heap.size w W := by rw [hW]; exact ((Below.refl _ _).alloc (Nat.le_refl _) _).alloc (by simp) _
  have RA : W.rowIs w.heap.size 30 7 (rowN [.int .i64 X.days, .slice a n ka, .int .i64 X.sew, .int .i64 X.net, .int .i64 X.tax, .int .i64 X.gross, .int .i64 X.code]) := by rw [hW]; exact nrow_below (rowN_alloc w _ _) (nbel_alloc _ _)
  have RO : W.rowIs (w.heap.size + 1) 30 7 (rowN [.int .i64 X.days, .slice b n kb, .int .i64 X.sew, .int .i64 X.net, .int .i64 X.tax, .int .i64 X.gross, .int .i64 X.code]) := by rw [hW]; exact rowN_alloc' (by simp) _ _
  have HW := Lib.hid hW
  have HB := Lib.hid hB
  have H1 := Lib.hid h1
  have H2 := Lib.hid h2
  have HRA := Lib.hid RA
  have HRO := Lib.hid RO
  clear hW hB h1 h2 RA RO
  go_enter Tryd.func18, Tryd.ntmps18
  go_wp2_with fail
  rw [← HW.out]
  refine (qeqInt64S_same a b n ka kb L _ (H1.out.below HB.out) (H2.out.below HB.out) hn).mono ?_
  rintro e w1 ⟨rfl, hb1⟩
  obtain ⟨⟨x0, x1, x2, x3, x4, x5, x6⟩, _⟩ := rowN7 (nrow_below HRA.out hb1)
  obtain ⟨⟨y0, y1, y2, y3, y4, y5, y6⟩, _⟩ := rowN7 (nrow_below HRO.out hb1)
  have HB1 : Hid (Below w.heap.size w w1) := HB.out.trans (hb1.mono HB.out.size)
  clear hb1
  go_wp2_with fail
  go_ret
  exact ⟨rfl, HB1.out⟩
theorem bmarkLs {B N c : Nat} {a : Option Addr} {f : Nat → Int} (w : World) (h : LsOwn 73 2 B N a c f w) (hn : N ≤ 1048576) :
    Calls Tryd.prog 53 #[.slice a N c, .int .i64 1] w fun e w' => e = .returned (.int .i64 ((1 + N * 2 : Nat) : Int)) ∧ LsOwn 73 2 B N a c (mk1 1) w' ∧ (∀ k, k < w.heap.size → a ≠ some ⟨k, 0, none⟩ → w'.heap[k]? = w.heap[k]?) ∧ w'.os = w.os ∧ w'.tape = w.tape ∧ w'.output = w.output ∧ w.heap.size ≤ w'.heap.size := by
  rcases h with ⟨rfl, rfl, rfl⟩ | ⟨g, rfl, h1, h2⟩
  · refine (nmarkBlockS_nil 1 w).mono ?_
    rintro e w' ⟨rfl, rfl⟩
    exact ⟨rfl, Or.inl ⟨rfl, rfl, rfl⟩, fun _ _ _ => rfl, rfl, rfl, rfl, Nat.le_refl _⟩
  · refine (nmarkBlockS_any g N c 1 f w h2 hn (by omega)).mono ?_
    rintro e w' ⟨rfl, hm, ho⟩
    exact ⟨rfl, Or.inr ⟨g, rfl, h1, hm⟩, fun k hk hne => ho.block k hk (fun e => hne (by rw [e])), ho.os, ho.tape, ho.output, ho.size⟩
set_option maxRecDepth 100000 in
set_option maxHeartbeats 2000000 in
theorem markBill_any (X : Bi.Bl) (n : Nat) {B c : Nat} {a : Option Addr} {f : Nat → Int} (w : World) (h : QsOwn B n a c f w) (hn : n ≤ 1048576) :
    Calls Tryd.prog 21 #[blV X n a c, .int .i64 1] w fun e w' => e = .returned (.int .i64 ((1 + n : Nat) : Int)) ∧ QsOwn B n a c (mk1 1) w' ∧ (∀ k, k < w.heap.size → (Value.slice a n c).ownBlock ≠ some k → w'.heap[k]? = w.heap[k]?) ∧ w'.os = w.os ∧ w'.tape = w.tape ∧ w'.output = w.output ∧ w.heap.size ≤ w'.heap.size := by
  obtain ⟨W, hW⟩ : ∃ W, W = w.alloc (.cells #[.int .i64 X.days, .slice a n c, .int .i64 X.sew, .int .i64 X.net, .int .i64 X.tax, .int .i64 X.gross, .int .i64 X.code] 30) := ⟨_, rfl⟩
  have HB : Hid (Below w.heap.size w W) := by show Below _ _ _; rw [hW]; exact nbel_alloc _ _
  have H := Lib.hid (h.below HB.out)
  have HW := Lib.hid hW
  clear hW h
  go_enter Tryd.func21, Tryd.ntmps21
  go_wp2_with fail
  rw [← HW.out]
  clear HW
  refine (qmark _ H.out hn).mono ?_
  rintro e w1 ⟨rfl, hm, hk, h1, h2, h3, h4⟩
  have HM := Lib.hid hm
  have HP : Hid ((∀ k, k < w.heap.size → (Value.slice a n c).ownBlock ≠ some k → w1.heap[k]? = w.heap[k]?) ∧ w1.os = w.os ∧ w1.tape = w.tape ∧ w1.output = w.output ∧ w.heap.size ≤ w1.heap.size) := by
    have b := HB.out
    exact ⟨fun k hkk hne => (hk k (Nat.lt_of_lt_of_le hkk b.size) hne).trans (b.block k hkk), h1.trans b.os, h2.trans b.tape, h3.trans b.output, Nat.le_trans b.size h4⟩
  clear hm hk h1 h2 h3 h4
  obtain ⟨Q, hQ⟩ : ∃ Q : Nat, Q = 1 + n := ⟨_, rfl⟩
  rw [← hQ]
  have HQ := Lib.hid hQ
  clear hQ
  go_wp2_with fail
  go_ret
  exact ⟨by rw [← HQ.out]; rfl, HM.out, HP.out⟩
set_option maxRecDepth 100000 in
set_option maxHeartbeats 2000000 in
theorem heldBill_any (X : Bi.Bl) (n : Nat) {B c : Nat} {a : Option Addr} (w : World) (h : QsOwn B n a c (mk1 1) w) (hn : n ≤ 1048576) :
    Calls Tryd.prog 22 #[blV X n a c, .int .i64 1] w fun e w' => e = .returned (.int .i64 ((1 + n : Nat) : Int)) ∧ Below w.heap.size w w' := by
  obtain ⟨W, hW⟩ : ∃ W, W = w.alloc (.cells #[.int .i64 X.days, .slice a n c, .int .i64 X.sew, .int .i64 X.net, .int .i64 X.tax, .int .i64 X.gross, .int .i64 X.code] 30) := ⟨_, rfl⟩
  have HB : Hid (Below w.heap.size w W) := by show Below _ _ _; rw [hW]; exact nbel_alloc _ _
  have H := Lib.hid (h.below HB.out)
  have HW := Lib.hid hW
  clear hW h
  go_enter Tryd.func22, Tryd.ntmps22
  go_wp2_with fail
  rw [← HW.out]
  clear HW
  refine (qheld _ H.out hn).mono ?_
  rintro e w1 ⟨rfl, rfl⟩
  obtain ⟨Q, hQ⟩ : ∃ Q : Nat, Q = 1 + n := ⟨_, rfl⟩
  rw [← hQ]
  have hQ0 : ¬ (Q : Int) < 0 := by omega
  have HQ := Lib.hid hQ
  clear hQ
  go_wp2_with fail
  go_ret
  exact ⟨by rw [← HQ.out]; rfl, HB.out⟩
set_option maxRecDepth 100000 in
set_option maxHeartbeats 2000000 in
theorem markAccount_any (cr pd cd : Int) (n : Nat) {B c : Nat} {a : Option Addr} {f : Nat → Int} (w : World) (h : QsOwn B n a c f w) (hn : n ≤ 1048576) :
    Calls Tryd.prog 31 #[acV cr pd cd n a c, .int .i64 1] w fun e w' => e = .returned (.int .i64 ((1 + n : Nat) : Int)) ∧ QsOwn B n a c (mk1 1) w' ∧ (∀ k, k < w.heap.size → (Value.slice a n c).ownBlock ≠ some k → w'.heap[k]? = w.heap[k]?) ∧ w'.os = w.os ∧ w'.tape = w.tape ∧ w'.output = w.output ∧ w.heap.size ≤ w'.heap.size := by
  obtain ⟨W, hW⟩ : ∃ W, W = w.alloc (.cells #[.slice a n c, .int .i64 cr, .int .i64 pd, .int .i64 cd] 38) := ⟨_, rfl⟩
  have HB : Hid (Below w.heap.size w W) := by show Below _ _ _; rw [hW]; exact nbel_alloc _ _
  have H := Lib.hid (h.below HB.out)
  have HW := Lib.hid hW
  clear hW h
  go_enter Tryd.func31, Tryd.ntmps31
  go_wp2_with fail
  rw [← HW.out]
  clear HW
  refine (qmark _ H.out hn).mono ?_
  rintro e w1 ⟨rfl, hm, hk, h1, h2, h3, h4⟩
  have HM := Lib.hid hm
  have HP : Hid ((∀ k, k < w.heap.size → (Value.slice a n c).ownBlock ≠ some k → w1.heap[k]? = w.heap[k]?) ∧ w1.os = w.os ∧ w1.tape = w.tape ∧ w1.output = w.output ∧ w.heap.size ≤ w1.heap.size) := by
    have b := HB.out
    exact ⟨fun k hkk hne => (hk k (Nat.lt_of_lt_of_le hkk b.size) hne).trans (b.block k hkk), h1.trans b.os, h2.trans b.tape, h3.trans b.output, Nat.le_trans b.size h4⟩
  clear hm hk h1 h2 h3 h4
  obtain ⟨Q, hQ⟩ : ∃ Q : Nat, Q = 1 + n := ⟨_, rfl⟩
  rw [← hQ]
  have HQ := Lib.hid hQ
  clear hQ
  go_wp2_with fail
  go_ret
  exact ⟨by rw [← HQ.out]; rfl, HM.out, HP.out⟩
set_option maxRecDepth 100000 in
set_option maxHeartbeats 2000000 in
theorem heldAccount_any (cr pd cd : Int) (n : Nat) {B c : Nat} {a : Option Addr} (w : World) (h : QsOwn B n a c (mk1 1) w) (hn : n ≤ 1048576) :
    Calls Tryd.prog 32 #[acV cr pd cd n a c, .int .i64 1] w fun e w' => e = .returned (.int .i64 ((1 + n : Nat) : Int)) ∧ Below w.heap.size w w' := by
  obtain ⟨W, hW⟩ : ∃ W, W = w.alloc (.cells #[.slice a n c, .int .i64 cr, .int .i64 pd, .int .i64 cd] 38) := ⟨_, rfl⟩
  have HB : Hid (Below w.heap.size w W) := by show Below _ _ _; rw [hW]; exact nbel_alloc _ _
  have H := Lib.hid (h.below HB.out)
  have HW := Lib.hid hW
  clear hW h
  go_enter Tryd.func32, Tryd.ntmps32
  go_wp2_with fail
  rw [← HW.out]
  clear HW
  refine (qheld _ H.out hn).mono ?_
  rintro e w1 ⟨rfl, rfl⟩
  obtain ⟨Q, hQ⟩ : ∃ Q : Nat, Q = 1 + n := ⟨_, rfl⟩
  rw [← hQ]
  have hQ0 : ¬ (Q : Int) < 0 := by omega
  have HQ := Lib.hid hQ
  clear hQ
  go_wp2_with fail
  go_ret
  exact ⟨by rw [← HQ.out]; rfl, HB.out⟩
set_option maxRecDepth 100000 in
set_option maxHeartbeats 4000000 in
theorem eqAccount_same (cr pd cd : Int) (n : Nat) (L : Nat → Int) (a b : Option Addr) (ka kb : Nat) (w : World) (h1 : IsIn a n L w) (h2 : IsIn b n L w) (hn : n ≤ 1048576) :
    Calls Tryd.prog 28 #[acV cr pd cd n a ka, acV cr pd cd n b kb] w fun e w' => e = .returned (.bool true) ∧ Below w.heap.size w w' := by
  obtain ⟨W, hW⟩ : ∃ W, W = (w.alloc (.cells #[.slice a n ka, .int .i64 cr, .int .i64 pd, .int .i64 cd] 38)).alloc (.cells #[.slice b n kb, .int .i64 cr, .int .i64 pd, .int .i64 cd] 38) := ⟨_, rfl⟩
  have hB : Below w.heap.size w W := by rw [hW]; exact ((Below.refl _ _).alloc (Nat.le_refl _) _).alloc (by simp) _
  have RA : W.rowIs w.heap.size 38 4 (rowN [.slice a n ka, .int .i64 cr, .int .i64 pd, .int .i64 cd]) := by rw [hW]; exact nrow_below (rowN_alloc w _ _) (nbel_alloc _ _)
  have RO : W.rowIs (w.heap.size + 1) 38 4 (rowN [.slice b n kb, .int .i64 cr, .int .i64 pd, .int .i64 cd]) := by rw [hW]; exact rowN_alloc' (by simp) _ _
  have HW := Lib.hid hW
  have HB := Lib.hid hB
  have H1 := Lib.hid h1
  have H2 := Lib.hid h2
  have HRA := Lib.hid RA
  have HRO := Lib.hid RO
  clear hW hB h1 h2 RA RO
  go_enter Tryd.func28, Tryd.ntmps28
  go_wp2_with fail
  rw [← HW.out]
  refine (qeqInt64S_same a b n ka kb L _ (H1.out.below HB.out) (H2.out.below HB.out) hn).mono ?_
  rintro e w1 ⟨rfl, hb1⟩
  obtain ⟨⟨x0, x1, x2, x3⟩, _⟩ := rowN4 (nrow_below HRA.out hb1)
  obtain ⟨⟨y0, y1, y2, y3⟩, _⟩ := rowN4 (nrow_below HRO.out hb1)
  have HB1 : Hid (Below w.heap.size w w1) := HB.out.trans (hb1.mono HB.out.size)
  clear hb1
  go_wp2_with fail
  go_ret
  exact ⟨rfl, HB1.out⟩
set_option maxRecDepth 100000 in
set_option maxHeartbeats 2000000 in
theorem markTariff_any (t : Bi.T) {B c : Nat} {a : Option Addr} {f : Nat → Int} (w : World) (h : LsOwn 73 2 B t.bn a c f w) (hn : t.bn ≤ 1048576) :
    Calls Tryd.prog 20 #[tfV t a c, .int .i64 1] w fun e w' => e = .returned (.int .i64 ((1 + t.bn * 2 : Nat) : Int)) ∧ LsOwn 73 2 B t.bn a c (mk1 1) w' ∧ (∀ k, k < w.heap.size → a ≠ some ⟨k, 0, none⟩ → w'.heap[k]? = w.heap[k]?) ∧ w'.os = w.os ∧ w'.tape = w.tape ∧ w'.output = w.output ∧ w.heap.size ≤ w'.heap.size := by
  obtain ⟨W, hW⟩ : ∃ W, W = w.alloc (.cells #[.int .i64 t.day, .slice a t.bn c, .int .i64 t.sew, .int .i64 t.tax] 25) := ⟨_, rfl⟩
  have HB : Hid (Below w.heap.size w W) := by show Below _ _ _; rw [hW]; exact nbel_alloc _ _
  have H := Lib.hid (h.below HB.out)
  have HW := Lib.hid hW
  clear hW h
  go_enter Tryd.func20, Tryd.ntmps20
  go_wp2_with fail
  rw [← HW.out]
  clear HW
  refine (bmarkLs _ H.out hn).mono ?_
  rintro e w1 ⟨rfl, hm, hk, h1, h2, h3, h4⟩
  have HM := Lib.hid hm
  have HP : Hid ((∀ k, k < w.heap.size → a ≠ some ⟨k, 0, none⟩ → w1.heap[k]? = w.heap[k]?) ∧ w1.os = w.os ∧ w1.tape = w.tape ∧ w1.output = w.output ∧ w.heap.size ≤ w1.heap.size) := by
    have b := HB.out
    exact ⟨fun k hkk hne => (hk k (Nat.lt_of_lt_of_le hkk b.size) hne).trans (b.block k hkk), h1.trans b.os, h2.trans b.tape, h3.trans b.output, Nat.le_trans b.size h4⟩
  clear hm hk h1 h2 h3 h4
  obtain ⟨Q, hQ⟩ : ∃ Q : Nat, Q = 1 + t.bn * 2 := ⟨_, rfl⟩
  rw [← hQ]
  have HQ := Lib.hid hQ
  clear hQ
  go_wp2_with fail
  go_ret
  exact ⟨by rw [← HQ.out]; rfl, HM.out, HP.out⟩
end Go.Proofs.YtnbnfifgajfomaaDoor
