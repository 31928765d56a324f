/-
  The laws' conversions and comparisons of batches.
-/
import Derived.Test.YtcjeieagpcphjaaDoorWkI1
import Derived.Test.YtcjeieagpcphjaaDoorStEx1
namespace Go.Proofs.YtcjeieagpcphjaaDoor
open Go.RowKit Go.Deep

theorem szInts_in (a : Option Addr) (n cap : Nat) (l : Nat) (w : World) (hn : n ≤ l) (hl : l ≤ 1048576) :
    Calls Tryd.prog 37 #[.slice a n cap, .int .i64 l] w fun e w' => e = .returned (.int .i64 ((l - n : Nat) : Int)) ∧ w' = w := by
  have h1 : ¬ ((l : Int) - (n : Int)) < 0 := by omega
  have h2 : ((l : Int) - (n : Int)) = ((l - n : Nat) : Int) := by omega
  have h3 : ¬ (((l - n : Nat) : Int)) < 0 := by omega
  have h4 : ((l - n : Nat) : Int) ≤ 1048576 := by omega
  have h5 : 0 ≤ ((l - n : Nat) : Int) := by omega
  have h6 : (n : Int) ≤ 1048576 := by omega
  have h7 : (l : Int) ≤ 1048576 := by omega
  go_enter Tryd.func37, Tryd.ntmps37
  go_wp2_with fail
  go_ret
  exact ⟨ret_int (by omega), rfl⟩
theorem szInts_over (a : Option Addr) (n cap : Nat) (l : Nat) (w : World) (hn : l < n) (hl : l ≤ 1048576) (hm : n ≤ 9223372036854775807) :
    Calls Tryd.prog 37 #[.slice a n cap, .int .i64 l] w fun e w' => e = .returned (.int .i64 (-1)) ∧ w' = w := by
  have h1 : ((l : Int) - (n : Int)) < 0 := by omega
  have h7 : (l : Int) ≤ 1048576 := by omega
  have h8 : (n : Int) ≤ 9223372036854775807 := by omega
  go_enter Tryd.func37, Tryd.ntmps37
  go_wp2_with fail
  go_ret
  exact ⟨rfl, rfl⟩
/-- What is left: below nought, or all is small. -/
def SzB (l n : Nat) (e : Ending) : Prop := (∃ z : Int, e = .returned (.int .i64 z) ∧ z < 0) ∨ (n ≤ l ∧ e = .returned (.int .i64 ((l - n : Nat) : Int)))
set_option maxRecDepth 100000 in
set_option maxHeartbeats 2000000 in
theorem szBatch_any (wt : Int) (a : Option Addr) (n k l : Nat) (w : World) (hl : l ≤ 1048576) (hm : n ≤ 9223372036854775807) :
    Calls Tryd.prog 20 #[btV wt a n k, .int .i64 l] w fun e w' => SzB l n e ∧ Below w.heap.size w w' := by
  have hB := Lib.hid ((Below.refl w.heap.size w).alloc (Nat.le_refl _) (.cells #[.int .i64 wt, .slice a n k] 49))
  by_cases h1 : n ≤ l
  · have hz : ¬ ((l - n : Nat) : Int) < 0 := by omega
    go_enter Tryd.func20, Tryd.ntmps20
    go_wp2_with fail
    refine (szInts_in a n k l _ h1 hl).mono ?_
    rintro e w1 ⟨rfl, rfl⟩
    go_wp2_with fail
    go_ret
    exact ⟨Or.inr ⟨h1, rfl⟩, hB.out⟩
  · go_enter Tryd.func20, Tryd.ntmps20
    go_wp2_with fail
    refine (szInts_over a n k l _ (by omega) hl hm).mono ?_
    rintro e w1 ⟨rfl, rfl⟩
    go_wp2_with fail
    go_ret
    exact ⟨Or.inl ⟨_, rfl, by omega⟩, hB.out⟩
set_option maxRecDepth 100000 in
set_option maxHeartbeats 4000000 in
theorem toBatch_any (wt : Int) (a : Option Addr) (n k : Nat) (f : Nat → Int) (w : World) (h1 : IntsIn a n f w) (hn : n ≤ 1048576) :
    Calls Tryd.prog 24 #[btV wt a n k] w fun e w' => (∃ g, e = .returned (btV wt (some ⟨g, 0, none⟩) n n) ∧ w.heap.size ≤ g ∧ InBlk g n f w') ∧ Below w.heap.size w w' := by
  obtain ⟨W, hW⟩ : ∃ W, W = ((w.alloc (.cells #[.int .i64 wt, .slice a n k] 49)).alloc (.cells #[.int .i64 0, .slice none 0 0] 28)).alloc (.cells #[.int .i64 wt, .slice none 0 0] 28) := ⟨_, rfl⟩
  have hsz : W.heap.size = w.heap.size + 3 := by rw [hW]; simp
  have hB : Below w.heap.size w W := by rw [hW]; exact (((Below.refl _ _).alloc (Nat.le_refl _) _).alloc (by simp) _).alloc (by simp; omega) _
  have RA : W.rowIs w.heap.size 49 2 (r2 (.int .i64 wt) (.slice a n k)) := by
    rw [hW]; exact wrow_below (wrow_below (row2 w _ _ _) ((Below.refl _ _).alloc (Nat.le_refl _) _)) ((Below.refl _ _).alloc (Nat.le_refl _) _)
  have RO : W.rowIs (w.heap.size + 1) 28 2 (r2 (.int .i64 0) (.slice none 0 0)) := by
    rw [hW]
    have := row2 (w.alloc (.cells #[.int .i64 wt, .slice a n k] 49)) (.int .i64 0) (.slice none 0 0) 28
    rw [World.size_alloc] at this
    exact wrow_below this ((Below.refl _ _).alloc (Nat.le_refl _) _)
  have RP : W.rowIs (w.heap.size + 1 + 1) 28 2 (r2 (.int .i64 wt) (.slice none 0 0)) := by
    rw [hW]
    have := row2 ((w.alloc (.cells #[.int .i64 wt, .slice a n k] 49)).alloc (.cells #[.int .i64 0, .slice none 0 0] 28)) (.int .i64 wt) (.slice none 0 0) 28
    rwa [World.size_alloc, World.size_alloc] at this
  have HW := Lib.hid hW
  have HB := Lib.hid hB
  have H1 := Lib.hid h1
  have HRA := Lib.hid RA
  have HRO := Lib.hid RO
  have HRP := Lib.hid RP
  have HSZ := Lib.hid hsz
  clear hW hB h1 RA RO RP hsz
  go_enter Tryd.func24, Tryd.ntmps24
  go_wp2_with fail
  rw [← HW.out]
  refine (toInt64S_any a n k f _ (H1.out.below HB.out) hn).mono ?_
  rintro e w1 ⟨⟨rfl, hk1⟩, hb1⟩
  have RP1 := wrow_below HRP.out hb1
  have RO1 := wrow_below HRO.out hb1
  have HB1 : Hid (Below w.heap.size w w1) := HB.out.trans (hb1.mono HB.out.size)
  have HK1 := Lib.hid hk1
  obtain ⟨⟨p0, p1⟩, z0, z1⟩ := row2_cells RP1
  obtain ⟨⟨o0, o1⟩, y0, y1⟩ := row2_cells RO1
  have HRO1 := Lib.hid RO1
  have hl1 : w.heap.size + 1 + 1 < w1.heap.size := RP1.lt
  have s3 := HSZ.out
  have HS3 := Lib.hid s3
  clear RP1 RO1 hb1 hk1 s3
  go_wp2_with fail
  have s3 := HS3.out
  refine bodyPost_ret (v := btV wt (some ⟨W.heap.size, 0, none⟩) n n) ?_ rfl ⟨⟨W.heap.size, rfl, by omega, ?_⟩, ?_⟩
  · obtain ⟨⟨x0, x1⟩, _⟩ := row2_cells (row2_put (wrow_set HRO1.out (p := ⟨w.heap.size + 1 + 1, 1, none⟩) (by show w.heap.size + 1 ≠ w.heap.size + 1 + 1; omega) (.slice (some ⟨W.heap.size, 0, none⟩) n n)) (.int .i64 wt) (.slice (some ⟨W.heap.size, 0, none⟩) n n))
    simp only [results, Tryd.results24]
    simp [go_sem, x0, x1]
  · exact ((HK1.out.block (Below.heap_setCell _ ⟨w.heap.size + 1 + 1, 1, none⟩ _ _ (by show W.heap.size ≠ w.heap.size + 1 + 1; omega))).block (Below.heap_setCell _ ⟨w.heap.size + 1, 0, none⟩ _ _ (by show W.heap.size ≠ w.heap.size + 1; omega))).block (Below.heap_setCell _ ⟨w.heap.size + 1, 1, none⟩ _ _ (by show W.heap.size ≠ w.heap.size + 1; omega))
  · exact ((HB1.out.setCell (p := ⟨w.heap.size + 1 + 1, 1, none⟩) (by show w.heap.size ≤ w.heap.size + 1 + 1; omega) _).setCell (p := ⟨w.heap.size + 1, 0, none⟩) (by show w.heap.size ≤ w.heap.size + 1; omega) _).setCell (p := ⟨w.heap.size + 1, 1, none⟩) (by show w.heap.size ≤ w.heap.size + 1; omega) _
set_option maxRecDepth 100000 in
set_option maxHeartbeats 4000000 in
theorem eqBatch_same (wt : Int) (a b : Option Addr) (n ka kb : Nat) (f : Nat → Int) (w : World) (h1 : IntsAt a n f w) (h2 : IntsAt b n f w) (hn : n ≤ 1048576) :
    Calls Tryd.prog 27 #[btV wt a n ka, btV wt b n kb] w fun e w' => e = .returned (.bool true) ∧ Below w.heap.size w w' := by
  obtain ⟨W, hW⟩ : ∃ W, W = (w.alloc (.cells #[.int .i64 wt, .slice a n ka] 28)).alloc (.cells #[.int .i64 wt, .slice b n kb] 28) := ⟨_, rfl⟩
  have hB : Below w.heap.size w W := by rw [hW]; exact ((Below.refl _ _).alloc (Nat.le_refl _) _).alloc (by simp) _
  have HW := Lib.hid hW
  have HB := Lib.hid hB
  have H1 := Lib.hid h1
  have H2 := Lib.hid h2
  clear hW hB h1 h2
  go_enter Tryd.func27, Tryd.ntmps27
  go_wp2_with fail
  rw [← HW.out]
  refine (eqInt64S_same a b n ka kb f _ (H1.out.below HB.out) (H2.out.below HB.out) hn).mono ?_
  rintro e w1 ⟨rfl, hb1⟩
  have HB1 : Hid (Below w.heap.size w w1) := HB.out.trans (hb1.mono HB.out.size)
  clear hb1
  go_wp2_with fail
  go_ret
  exact ⟨rfl, HB1.out⟩
end Go.Proofs.YtcjeieagpcphjaaDoor
