/-
  The laws' conversions, comparisons and marks of stations and masters.
-/
import Derived.Test.YtmphjkpiookioaaDoorLnEx1
namespace Go.Proofs.YtmphjkpiookioaaDoor
open Go.RowKit Go.Deep
/-- What is left: below nought, or the list is small. -/
def SzStation (l n : Nat) (e : Ending) : Prop := (∃ z : Int, e = .returned (.int .i64 z) ∧ z < 0) ∨ (n ≤ l ∧ e = .returned (.int .i64 ((l - n : Nat) : Int)))
set_option maxRecDepth 100000 in
set_option maxHeartbeats 2000000 in
theorem szStation_any (s : Ln.S) (a : Option Addr) (k l : Nat) (w : World) (hl : l ≤ 1048576) (hm : s.wait.length ≤ 9223372036854775807) :
    Calls Tryd.prog 5 #[stV s a k, .int .i64 l] w fun e w' => SzStation l s.wait.length e ∧ Below w.heap.size w w' := by
  have hB := Lib.hid ((Below.refl w.heap.size w).alloc (Nat.le_refl _) (.cells #[.int .i64 s.unit, .int .i64 s.band, .bool s.seen, .int .i64 s.last, .int .i64 s.next, .slice a s.wait.length k, .int .i64 s.drops] 24))
  by_cases h1 : s.wait.length ≤ l
  · have hz : ¬ ((l - s.wait.length : Nat) : Int) < 0 := by omega
    go_enter Tryd.func5, Tryd.ntmps5
    go_wp2_with fail
    refine (nszNote_in a s.wait.length k l _ h1 hl).mono ?_
    rintro e w1 ⟨rfl, rfl⟩
    go_wp2_with fail
    go_ret
    exact ⟨Or.inr ⟨h1, rfl⟩, hB.out⟩
  · go_enter Tryd.func5, Tryd.ntmps5
    go_wp2_with fail
    refine (nszNote_over a s.wait.length k l _ (by omega) hl hm).mono ?_
    rintro e w1 ⟨rfl, rfl⟩
    go_wp2_with fail
    go_ret
    exact ⟨Or.inl ⟨_, rfl, by omega⟩, hB.out⟩
set_option maxRecDepth 100000 in
set_option maxHeartbeats 4000000 in
theorem toStation_any (s : Ln.S) (a : Option Addr) (k : Nat) (w : World) (h1 : IsIn a (s.wait.length * 2) (Ln.fl s.wait) w) (hn : s.wait.length ≤ 1048576) :
    Calls Tryd.prog 7 #[stV s a k] w fun e w' => (∃ g, e = .returned (stV s (some ⟨g, 0, none⟩) s.wait.length) ∧ w.heap.size ≤ g ∧ IsBlk 47 g (s.wait.length * 2) (Ln.fl s.wait) w') ∧ Below w.heap.size w w' := by
  obtain ⟨W, hW⟩ : ∃ W, W = ((w.alloc (.cells #[.int .i64 s.unit, .int .i64 s.band, .bool s.seen, .int .i64 s.last, .int .i64 s.next, .slice a s.wait.length k, .int .i64 s.drops] 24)).alloc (.cells #[.int .i64 0, .int .i64 0, .bool false, .int .i64 0, .int .i64 0, .slice none 0 0, .int .i64 0] 29)).alloc (.cells #[.int .i64 s.unit, .int .i64 s.band, .bool s.seen, .int .i64 s.last, .int .i64 s.next, .slice none 0 0, .int .i64 0] 29) := ⟨_, rfl⟩
  have hsz : W.heap.size = w.heap.size + 3 := by rw [hW]; simp
  have hB : Below w.heap.size w W := by rw [hW]; exact (((Below.refl _ _).alloc (Nat.le_refl _) _).alloc (by simp) _).alloc (by simp; omega) _
  have RA : W.rowIs w.heap.size 24 7 (rowN [.int .i64 s.unit, .int .i64 s.band, .bool s.seen, .int .i64 s.last, .int .i64 s.next, .slice a s.wait.length k, .int .i64 s.drops]) := by
    rw [hW]; exact nrow_below (nrow_below (rowN_alloc w _ _) (nbel_alloc _ _)) (nbel_alloc _ _)
  have RO : W.rowIs (w.heap.size + 1) 29 7 (rowN [.int .i64 0, .int .i64 0, .bool false, .int .i64 0, .int .i64 0, .slice none 0 0, .int .i64 0]) := by
    rw [hW]; exact nrow_below (rowN_alloc' (by simp) _ _) (nbel_alloc _ _)
  have RP : W.rowIs (w.heap.size + 1 + 1) 29 7 (rowN [.int .i64 s.unit, .int .i64 s.band, .bool s.seen, .int .i64 s.last, .int .i64 s.next, .slice none 0 0, .int .i64 0]) := by
    rw [hW]; exact rowN_alloc' (by simp) _ _
  have HW := Lib.hid hW
  have HB := Lib.hid hB
  have H1 := Lib.hid h1
  have HRA := Lib.hid RA
  have HRO := Lib.hid RO
  have HRP := Lib.hid RP
  have HSZ := Lib.hid hsz
  clear hW hB h1 RA RO RP hsz
  go_enter Tryd.func7, Tryd.ntmps7
  go_wp2_with fail
  rw [← HW.out]
  refine (ntoNoteS_any a s.wait.length k (Ln.fl s.wait) _ (H1.out.below HB.out) hn).mono ?_
  rintro e w1 ⟨⟨rfl, hk1⟩, hb1⟩
  have RA1 := nrow_below HRA.out hb1
  have RP1 := nrow_below HRP.out hb1
  have RO1 := nrow_below HRO.out hb1
  have HB1 : Hid (Below w.heap.size w w1) := HB.out.trans (hb1.mono HB.out.size)
  have HK1 := Lib.hid hk1
  obtain ⟨⟨a0, a1, a2, a3, a4, a5, a6⟩, _⟩ := rowN7 RA1
  obtain ⟨⟨p0, p1, p2, p3, p4, p5, p6⟩, z0, z1, z2, z3, z4, z5, z6⟩ := rowN7 RP1
  obtain ⟨⟨o0, o1, o2, o3, o4, o5, o6⟩, y0, y1, y2, y3, y4, y5, y6⟩ := rowN7 RO1
  have HRO1 := Lib.hid RO1
  have hl1 : w.heap.size + 1 + 1 < w1.heap.size := RP1.lt
  have HS3 := Lib.hid HSZ.out
  clear RA1 RP1 RO1 hb1 hk1
  go_wp2_with fail
  have s3 := HS3.out
  refine bodyPost_ret (v := stV s (some ⟨W.heap.size, 0, none⟩) s.wait.length) ?_ rfl ⟨⟨W.heap.size, rfl, by omega, HK1.out.block ?_⟩, ?_⟩
  · obtain ⟨⟨x0, x1, x2, x3, x4, x5, x6⟩, _⟩ := rowN7 (rowN_put (rowN_put (rowN_put (rowN_put (rowN_put (rowN_put (rowN_put (nrow_set (nrow_set HRO1.out (p := ⟨w.heap.size + 1 + 1, 5, none⟩) (by show w.heap.size + 1 ≠ w.heap.size + 1 + 1; omega) (.slice (some ⟨W.heap.size, 0, none⟩) s.wait.length s.wait.length)) (p := ⟨w.heap.size + 1 + 1, 6, none⟩) (by show w.heap.size + 1 ≠ w.heap.size + 1 + 1; omega) (.int .i64 s.drops)) 0 (.int .i64 s.unit) (by simp)) 1 (.int .i64 s.band) (by simp)) 2 (.bool s.seen) (by simp)) 3 (.int .i64 s.last) (by simp)) 4 (.int .i64 s.next) (by simp)) 5 (.slice (some ⟨W.heap.size, 0, none⟩) s.wait.length s.wait.length) (by simp)) 6 (.int .i64 s.drops) (by simp))
    simp only [results, Tryd.results7]
    simp [go_sem, x0, x1, x2, x3, x4, x5, x6]
  · repeat rw [bihs _ _ _ (by omega)]
  · exact (((((((((HB1.out.setCell (p := ⟨w.heap.size + 1 + 1, 5, none⟩) (by show w.heap.size ≤ w.heap.size + 1 + 1; omega) _).setCell (p := ⟨w.heap.size + 1 + 1, 6, none⟩) (by show w.heap.size ≤ w.heap.size + 1 + 1; omega) _).setCell (p := ⟨w.heap.size + 1, 0, none⟩) (by show w.heap.size ≤ w.heap.size + 1; omega) _).setCell (p := ⟨w.heap.size + 1, 1, none⟩) (by show w.heap.size ≤ w.heap.size + 1; omega) _).setCell (p := ⟨w.heap.size + 1, 2, none⟩) (by show w.heap.size ≤ w.heap.size + 1; omega) _).setCell (p := ⟨w.heap.size + 1, 3, none⟩) (by show w.heap.size ≤ w.heap.size + 1; omega) _).setCell (p := ⟨w.heap.size + 1, 4, none⟩) (by show w.heap.size ≤ w.heap.size + 1; omega) _).setCell (p := ⟨w.heap.size + 1, 5, none⟩) (by show w.heap.size ≤ w.heap.size + 1; omega) _).setCell (p := ⟨w.heap.size + 1, 6, none⟩) (by show w.heap.size ≤ w.heap.size + 1; omega) _)
set_option maxRecDepth 100000 in
set_option maxHeartbeats 4000000 in
theorem eqStation_same (s : Ln.S) (a b : Option Addr) (ka kb : Nat) (w : World) (h1 : IsIn a (s.wait.length * 2) (Ln.fl s.wait) w) (h2 : IsIn b (s.wait.length * 2) (Ln.fl s.wait) w) (hn : s.wait.length ≤ 1048576) :
    Calls Tryd.prog 9 #[stV s a ka, stV s b kb] w fun e w' => e = .returned (.bool true) ∧ Below w.heap.size w w' := by
  obtain ⟨W, hW⟩ : ∃ W, W = (w.alloc (.cells #[.int .i64 s.unit, .int .i64 s.band, .bool s.seen, .int .i64 s.last, .int .i64 s.next, .slice a s.wait.length ka, .int .i64 s.drops] 29)).alloc (.cells #[.int .i64 s.unit, .int .i64 s.band, .bool s.seen, .int .i64 s.last, .int .i64 s.next, .slice b s.wait.length kb, .int .i64 s.drops] 29) := ⟨_, rfl⟩
  have hB : Below w.heap.size w W := by rw [hW]; exact ((Below.refl _ _).alloc (Nat.le_refl _) _).alloc (by simp) _
  have RA : W.rowIs w.heap.size 29 7 (rowN [.int .i64 s.unit, .int .i64 s.band, .bool s.seen, .int .i64 s.last, .int .i64 s.next, .slice a s.wait.length ka, .int .i64 s.drops]) := by rw [hW]; exact nrow_below (rowN_alloc w _ _) (nbel_alloc _ _)
  have RO : W.rowIs (w.heap.size + 1) 29 7 (rowN [.int .i64 s.unit, .int .i64 s.band, .bool s.seen, .int .i64 s.last, .int .i64 s.next, .slice b s.wait.length kb, .int .i64 s.drops]) := by rw [hW]; exact rowN_alloc' (by simp) _ _
  have HW := Lib.hid hW
  have HB := Lib.hid hB
  have H1 := Lib.hid h1
  have H2 := Lib.hid h2
  have HRA := Lib.hid RA
  have HRO := Lib.hid RO
  clear hW hB h1 h2 RA RO
  go_enter Tryd.func9, Tryd.ntmps9
  go_wp2_with fail
  rw [← HW.out]
  refine (neqNoteS_same a b s.wait.length ka kb (Ln.fl s.wait) _ (H1.out.below HB.out) (H2.out.below HB.out) hn).mono ?_
  rintro e w1 ⟨rfl, hb1⟩
  obtain ⟨⟨x0, x1, x2, x3, x4, x5, x6⟩, _⟩ := rowN7 (nrow_below HRA.out hb1)
  obtain ⟨⟨y0, y1, y2, y3, y4, y5, y6⟩, _⟩ := rowN7 (nrow_below HRO.out hb1)
  have HB1 : Hid (Below w.heap.size w w1) := HB.out.trans (hb1.mono HB.out.size)
  clear hb1
  go_wp2_with fail
  go_ret
  exact ⟨rfl, HB1.out⟩
/-- What is left: below nought, or the list is small. -/
def SzMaster (l n : Nat) (e : Ending) : Prop := (∃ z : Int, e = .returned (.int .i64 z) ∧ z < 0) ∨ (n ≤ l ∧ e = .returned (.int .i64 ((l - n : Nat) : Int)))
set_option maxRecDepth 100000 in
set_option maxHeartbeats 2000000 in
theorem szMaster_any (m : Ln.M) (a : Option Addr) (k l : Nat) (w : World) (hl : l ≤ 1048576) (hm : m.notes.length ≤ 9223372036854775807) :
    Calls Tryd.prog 10 #[maV m a k, .int .i64 l] w fun e w' => SzMaster l m.notes.length e ∧ Below w.heap.size w w' := by
  have hB := Lib.hid ((Below.refl w.heap.size w).alloc (Nat.le_refl _) (.cells #[.int .i64 m.seq, .slice a m.notes.length k, .int .i64 m.gaps] 34))
  by_cases h1 : m.notes.length ≤ l
  · have hz : ¬ ((l - m.notes.length : Nat) : Int) < 0 := by omega
    go_enter Tryd.func10, Tryd.ntmps10
    go_wp2_with fail
    refine (nszNote_in a m.notes.length k l _ h1 hl).mono ?_
    rintro e w1 ⟨rfl, rfl⟩
    go_wp2_with fail
    go_ret
    exact ⟨Or.inr ⟨h1, rfl⟩, hB.out⟩
  · go_enter Tryd.func10, Tryd.ntmps10
    go_wp2_with fail
    refine (nszNote_over a m.notes.length k l _ (by omega) hl hm).mono ?_
    rintro e w1 ⟨rfl, rfl⟩
    go_wp2_with fail
    go_ret
    exact ⟨Or.inl ⟨_, rfl, by omega⟩, hB.out⟩
set_option maxRecDepth 100000 in
set_option maxHeartbeats 4000000 in
theorem toMaster_any (m : Ln.M) (a : Option Addr) (k : Nat) (w : World) (h1 : IsIn a (m.notes.length * 2) (Ln.fl m.notes) w) (hn : m.notes.length ≤ 1048576) :
    Calls Tryd.prog 12 #[maV m a k] w fun e w' => (∃ g, e = .returned (maV m (some ⟨g, 0, none⟩) m.notes.length) ∧ w.heap.size ≤ g ∧ IsBlk 47 g (m.notes.length * 2) (Ln.fl m.notes) w') ∧ Below w.heap.size w w' := by
  obtain ⟨W, hW⟩ : ∃ W, W = ((w.alloc (.cells #[.int .i64 m.seq, .slice a m.notes.length k, .int .i64 m.gaps] 34)).alloc (.cells #[.int .i64 0, .slice none 0 0, .int .i64 0] 37)).alloc (.cells #[.int .i64 m.seq, .slice none 0 0, .int .i64 0] 37) := ⟨_, rfl⟩
  have hsz : W.heap.size = w.heap.size + 3 := by rw [hW]; simp
  have hB : Below w.heap.size w W := by rw [hW]; exact (((Below.refl _ _).alloc (Nat.le_refl _) _).alloc (by simp) _).alloc (by simp; omega) _
  have RA : W.rowIs w.heap.size 34 3 (rowN [.int .i64 m.seq, .slice a m.notes.length k, .int .i64 m.gaps]) := by
    rw [hW]; exact nrow_below (nrow_below (rowN_alloc w _ _) (nbel_alloc _ _)) (nbel_alloc _ _)
  have RO : W.rowIs (w.heap.size + 1) 37 3 (rowN [.int .i64 0, .slice none 0 0, .int .i64 0]) := by
    rw [hW]; exact nrow_below (rowN_alloc' (by simp) _ _) (nbel_alloc _ _)
  have RP : W.rowIs (w.heap.size + 1 + 1) 37 3 (rowN [.int .i64 m.seq, .slice none 0 0, .int .i64 0]) := by
    rw [hW]; exact rowN_alloc' (by simp) _ _
  have HW := Lib.hid hW
  have HB := Lib.hid hB
  have H1 := Lib.hid h1
  have HRA := Lib.hid RA
  have HRO := Lib.hid RO
  have HRP := Lib.hid RP
  have HSZ := Lib.hid hsz
  clear hW hB h1 RA RO RP hsz
  go_enter Tryd.func12, Tryd.ntmps12
  go_wp2_with fail
  rw [← HW.out]
  refine (ntoNoteS_any a m.notes.length k (Ln.fl m.notes) _ (H1.out.below HB.out) hn).mono ?_
  rintro e w1 ⟨⟨rfl, hk1⟩, hb1⟩
  have RA1 := nrow_below HRA.out hb1
  have RP1 := nrow_below HRP.out hb1
  have RO1 := nrow_below HRO.out hb1
  have HB1 : Hid (Below w.heap.size w w1) := HB.out.trans (hb1.mono HB.out.size)
  have HK1 := Lib.hid hk1
  obtain ⟨⟨a0, a1, a2⟩, _⟩ := rowN3 RA1
  obtain ⟨⟨p0, p1, p2⟩, z0, z1, z2⟩ := rowN3 RP1
  obtain ⟨⟨o0, o1, o2⟩, y0, y1, y2⟩ := rowN3 RO1
  have HRO1 := Lib.hid RO1
  have hl1 : w.heap.size + 1 + 1 < w1.heap.size := RP1.lt
  have HS3 := Lib.hid HSZ.out
  clear RA1 RP1 RO1 hb1 hk1
  go_wp2_with fail
  have s3 := HS3.out
  refine bodyPost_ret (v := maV m (some ⟨W.heap.size, 0, none⟩) m.notes.length) ?_ rfl ⟨⟨W.heap.size, rfl, by omega, HK1.out.block ?_⟩, ?_⟩
  · obtain ⟨⟨x0, x1, x2⟩, _⟩ := rowN3 (rowN_put (rowN_put (rowN_put (nrow_set (nrow_set HRO1.out (p := ⟨w.heap.size + 1 + 1, 1, none⟩) (by show w.heap.size + 1 ≠ w.heap.size + 1 + 1; omega) (.slice (some ⟨W.heap.size, 0, none⟩) m.notes.length m.notes.length)) (p := ⟨w.heap.size + 1 + 1, 2, none⟩) (by show w.heap.size + 1 ≠ w.heap.size + 1 + 1; omega) (.int .i64 m.gaps)) 0 (.int .i64 m.seq) (by simp)) 1 (.slice (some ⟨W.heap.size, 0, none⟩) m.notes.length m.notes.length) (by simp)) 2 (.int .i64 m.gaps) (by simp))
    simp only [results, Tryd.results12]
    simp [go_sem, x0, x1, x2]
  · repeat rw [bihs _ _ _ (by omega)]
  · exact (((((HB1.out.setCell (p := ⟨w.heap.size + 1 + 1, 1, none⟩) (by show w.heap.size ≤ w.heap.size + 1 + 1; omega) _).setCell (p := ⟨w.heap.size + 1 + 1, 2, none⟩) (by show w.heap.size ≤ w.heap.size + 1 + 1; omega) _).setCell (p := ⟨w.heap.size + 1, 0, none⟩) (by show w.heap.size ≤ w.heap.size + 1; omega) _).setCell (p := ⟨w.heap.size + 1, 1, none⟩) (by show w.heap.size ≤ w.heap.size + 1; omega) _).setCell (p := ⟨w.heap.size + 1, 2, none⟩) (by show w.heap.size ≤ w.heap.size + 1; omega) _)
set_option maxRecDepth 100000 in
set_option maxHeartbeats 4000000 in
theorem eqMaster_same (m : Ln.M) (a b : Option Addr) (ka kb : Nat) (w : World) (h1 : IsIn a (m.notes.length * 2) (Ln.fl m.notes) w) (h2 : IsIn b (m.notes.length * 2) (Ln.fl m.notes) w) (hn : m.notes.length ≤ 1048576) :
    Calls Tryd.prog 14 #[maV m a ka, maV m b kb] w fun e w' => e = .returned (.bool true) ∧ Below w.heap.size w w' := by
  obtain ⟨W, hW⟩ : ∃ W, W = (w.alloc (.cells #[.int .i64 m.seq, .slice a m.notes.length ka, .int .i64 m.gaps] 37)).alloc (.cells #[.int .i64 m.seq, .slice b m.notes.length kb, .int .i64 m.gaps] 37) := ⟨_, rfl⟩
  have hB : Below w.heap.size w W := by rw [hW]; exact ((Below.refl _ _).alloc (Nat.le_refl _) _).alloc (by simp) _
  have RA : W.rowIs w.heap.size 37 3 (rowN [.int .i64 m.seq, .slice a m.notes.length ka, .int .i64 m.gaps]) := by rw [hW]; exact nrow_below (rowN_alloc w _ _) (nbel_alloc _ _)
  have RO : W.rowIs (w.heap.size + 1) 37 3 (rowN [.int .i64 m.seq, .slice b m.notes.length kb, .int .i64 m.gaps]) := by rw [hW]; exact rowN_alloc' (by simp) _ _
  have HW := Lib.hid hW
  have HB := Lib.hid hB
  have H1 := Lib.hid h1
  have H2 := Lib.hid h2
  have HRA := Lib.hid RA
  have HRO := Lib.hid RO
  clear hW hB h1 h2 RA RO
  go_enter Tryd.func14, Tryd.ntmps14
  go_wp2_with fail
  rw [← HW.out]
  refine (neqNoteS_same a b m.notes.length ka kb (Ln.fl m.notes) _ (H1.out.below HB.out) (H2.out.below HB.out) hn).mono ?_
  rintro e w1 ⟨rfl, hb1⟩
  obtain ⟨⟨x0, x1, x2⟩, _⟩ := rowN3 (nrow_below HRA.out hb1)
  obtain ⟨⟨y0, y1, y2⟩, _⟩ := rowN3 (nrow_below HRO.out hb1)
  have HB1 : Hid (Below w.heap.size w w1) := HB.out.trans (hb1.mono HB.out.size)
  clear hb1
  go_wp2_with fail
  go_ret
  exact ⟨rfl, HB1.out⟩
set_option maxRecDepth 100000 in
set_option maxHeartbeats 2000000 in
theorem markMaster_any (m : Ln.M) {B c : Nat} {a : Option Addr} {f : Nat → Int} (k : Nat) (w : World) (h : NqOwn 47 B m.notes.length a f w) (hn : m.notes.length ≤ 1048576) (hk : k ≤ 4194304) (hB : B ≤ w.heap.size) :
    Calls Tryd.prog 15 #[maV m a c, .int .i64 k] w fun e w' => e = .returned (.int .i64 ((k + m.notes.length * 2 : Nat) : Int)) ∧ NqOwn 47 B m.notes.length a (mk1 k) w' ∧ Below B w w' ∧ (∀ j T n F, w.rowIs j T n F → 47 ≠ T → w'.rowIs j T n F) ∧ (∀ j, j < w.heap.size → (m.notes.length ≠ 0 → ∀ o, a ≠ some ⟨j, o, none⟩) → w'.heap[j]? = w.heap[j]?) := by
  obtain ⟨W, hW⟩ : ∃ W, W = w.alloc (.cells #[.int .i64 m.seq, .slice a m.notes.length c, .int .i64 m.gaps] 37) := ⟨_, rfl⟩
  have HB : Hid (Below w.heap.size w W) := by show Below _ _ _; rw [hW]; exact nbel_alloc _ _
  have H := Lib.hid (h.below HB.out)
  have HW := Lib.hid hW
  have HBB := Lib.hid hB
  clear hW h
  go_enter Tryd.func15, Tryd.ntmps15
  go_wp2_with fail
  rw [← HW.out]
  clear HW
  refine (markNs _ H.out hn (by omega) (Nat.le_trans HBB.out HB.out.size)).mono ?_
  rintro e w1 ⟨rfl, hm, hb, hr, hj⟩
  have HM := Lib.hid hm
  have HP : Hid (Below B w w1 ∧ (∀ j T n F, w.rowIs j T n F → 47 ≠ T → w1.rowIs j T n F) ∧ (∀ j, j < w.heap.size → (m.notes.length ≠ 0 → ∀ o, a ≠ some ⟨j, o, none⟩) → w1.heap[j]? = w.heap[j]?)) := by
    have b := HB.out
    exact ⟨(b.mono HBB.out).trans hb, fun j T n F h1 h2 => hr j T n F (nrow_below h1 b) h2, fun j h1 h2 => (hj j (Nat.lt_of_lt_of_le h1 b.size) h2).trans (b.block j h1)⟩
  clear hm hb hr hj
  obtain ⟨Q, hQ⟩ : ∃ Q : Nat, Q = k + m.notes.length * 2 := ⟨_, rfl⟩
  rw [← hQ]
  have HQ := Lib.hid hQ
  clear hQ
  go_wp2_with fail
  go_ret
  exact ⟨by rw [← HQ.out]; rfl, HM.out, HP.out⟩
set_option maxRecDepth 100000 in
set_option maxHeartbeats 2000000 in
theorem heldMaster_any (m : Ln.M) {B c : Nat} {a : Option Addr} (k : Nat) (w : World) (h : NqOwn 47 B m.notes.length a (mk1 k) w) (hn : m.notes.length ≤ 1048576) (hk : k ≤ 4194304) :
    Calls Tryd.prog 16 #[maV m a c, .int .i64 k] w fun e w' => e = .returned (.int .i64 ((k + m.notes.length * 2 : Nat) : Int)) ∧ Below w.heap.size w w' := by
  obtain ⟨W, hW⟩ : ∃ W, W = w.alloc (.cells #[.int .i64 m.seq, .slice a m.notes.length c, .int .i64 m.gaps] 37) := ⟨_, rfl⟩
  have HB : Hid (Below w.heap.size w W) := by show Below _ _ _; rw [hW]; exact nbel_alloc _ _
  have H := Lib.hid (h.below HB.out)
  have HW := Lib.hid hW
  clear hW h
  go_enter Tryd.func16, Tryd.ntmps16
  go_wp2_with fail
  rw [← HW.out]
  clear HW
  refine (heldNs _ H.out hn (by omega)).mono ?_
  rintro e w1 ⟨rfl, rfl⟩
  obtain ⟨Q, hQ⟩ : ∃ Q : Nat, Q = k + m.notes.length * 2 := ⟨_, rfl⟩
  rw [← hQ]
  have hQ0 : ¬ (Q : Int) < 0 := by omega
  have HQ := Lib.hid hQ
  clear hQ
  go_wp2_with fail
  go_ret
  exact ⟨by rw [← HQ.out]; rfl, HB.out⟩
end Go.Proofs.YtmphjkpiookioaaDoor
