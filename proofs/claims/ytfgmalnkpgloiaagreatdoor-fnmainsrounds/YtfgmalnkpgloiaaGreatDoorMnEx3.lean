/-
  The laws' conversions, comparisons and marks of mains and of answers of them.
-/
import Derived.Test.YtfgmalnkpgloiaaGreatDoorMnEx2
namespace Go.Proofs.YtfgmalnkpgloiaaGreatDoor
open Go.RowKit Go.Deep

theorem mhs (w : World) (p g : Nat) (hp : g ≠ p) (i : Nat) (a : Value) : (w.setCell ⟨p, i, none⟩ a).heap[g]? = w.heap[g]? := Below.heap_setCell _ _ _ _ hp
theorem TSS.block {B n i : Nat} {LN : Nat → Nat} {L : Nat → Nat → Int} {w wr : World} (h : TSS B n i LN L w) (hE : ∀ k, B ≤ k → wr.heap[k]? = w.heap[k]?) : TSS B n i LN L wr := by
  obtain ⟨F, h, h1, h2, h3⟩ := h
  exact ⟨F, h, h1.of_block (hE _ (Nat.le_refl _)), fun j hj => ⟨(h2 j hj).1, (h2 j hj).2.1.block (hE _ (by have := (h2 j hj).2.2; omega)), (h2 j hj).2.2⟩, h3⟩
set_option maxRecDepth 100000 in
set_option maxHeartbeats 8000000 in
theorem toMains_any (m : Mn.Mains) (pa : Option Addr) (pk : Nat) (la : Option Addr) (lk : Nat) (wa : Option Addr) (wk : Nat) (w : World) (h : MnIn m pa la wa w) (hs : MnSmall m) :
    Calls Tryz.prog 19 #[mnV m pa pk la lk wa wk] w fun e w' => (∃ gp gl hh gw, e = .returned (mnV m (some ⟨gp, 0, none⟩) m.pn (some ⟨gl, 0, none⟩) m.ln (some ⟨gw, 0, none⟩) m.wn) ∧ MnBlk m w.heap.size w'.heap.size gp gl hh gw w') ∧ Below w.heap.size w w' := by
  obtain ⟨W, hW⟩ : ∃ W, W = ((w.alloc (.cells #[.int .i64 m.nodes, .int .i64 m.head, .slice pa m.pn pk, .slice la m.ln lk, .slice wa m.wn wk] 45)).alloc (.cells #[.int .i64 0, .int .i64 0, .slice none 0 0, .slice none 0 0, .slice none 0 0] 27)).alloc (.cells #[.int .i64 m.nodes, .int .i64 m.head, .slice none 0 0, .slice none 0 0, .slice none 0 0] 27) := ⟨_, rfl⟩
  have hsz : W.heap.size = w.heap.size + 3 := by rw [hW]; simp
  have hB : Below w.heap.size w W := by rw [hW]; exact (((Below.refl _ _).alloc (Nat.le_refl _) _).alloc (by simp) _).alloc (by simp; omega) _
  have RA : W.rowIs w.heap.size 45 5 (rowN (mnL m pa pk la lk wa wk)) := by
    rw [hW]; exact nrow_below (nrow_below (rowN_alloc w _ _) (nbel_alloc _ _)) (nbel_alloc _ _)
  have RO : W.rowIs (w.heap.size + 1) 27 5 (rowN [.int .i64 0, .int .i64 0, .slice none 0 0, .slice none 0 0, .slice none 0 0]) := by
    rw [hW]; exact nrow_below (rowN_alloc' (by simp) _ _) (nbel_alloc _ _)
  have RP : W.rowIs (w.heap.size + 1 + 1) 27 5 (rowN [.int .i64 m.nodes, .int .i64 m.head, .slice none 0 0, .slice none 0 0, .slice none 0 0]) := by
    rw [hW]; exact rowN_alloc' (by simp) _ _
  have HW := Lib.hid hW
  have HB := Lib.hid hB
  have H := Lib.hid h
  have HS := Lib.hid hs
  have HRA := Lib.hid RA
  have HRO := Lib.hid RO
  have HRP := Lib.hid RP
  have HSZ := Lib.hid hsz
  clear hW hB h hs RA RO RP hsz
  go_enter Tryz.func19, Tryz.ntmps19
  go_wp2_with fail
  rw [← HW.out]
  refine (ntoPipeS_any pa m.pn pk m.P _ (H.out.p.below HB.out) HS.out.1).mono ?_
  rintro e w1 ⟨⟨rfl, hk1⟩, hb1⟩
  have RA1 := nrow_below HRA.out hb1
  have RO1 := nrow_below HRO.out hb1
  have RP1 := nrow_below HRP.out hb1
  have HB1 : Hid (Below w.heap.size w w1) := HB.out.trans (hb1.mono HB.out.size)
  have HK1 := Lib.hid hk1
  obtain ⟨⟨a0, a1, a2, a3, a4⟩, _⟩ := rowN5 RA1
  obtain ⟨⟨p0, p1, p2, p3, p4⟩, z0, z1, z2, z3, z4⟩ := rowN5 RP1
  have hl1 : w.heap.size + 1 + 1 < w1.heap.size := RP1.lt
  obtain ⟨W2, hW2⟩ : ∃ W2, W2 = w1.setCell ⟨w.heap.size + 1 + 1, 2, none⟩ (.slice (some ⟨W.heap.size, 0, none⟩) m.pn m.pn) := ⟨_, rfl⟩
  have HW2 := Lib.hid hW2
  have HRA2 : Hid (W2.rowIs w.heap.size 45 5 (rowN (mnL m pa pk la lk wa wk))) := by
    show W2.rowIs _ _ _ _
    rw [hW2]; exact nrow_set RA1 (p := ⟨w.heap.size + 1 + 1, 2, none⟩) (by show w.heap.size ≠ w.heap.size + 1 + 1; omega) _
  have HRO2 : Hid (W2.rowIs (w.heap.size + 1) 27 5 (rowN [.int .i64 0, .int .i64 0, .slice none 0 0, .slice none 0 0, .slice none 0 0])) := by
    show W2.rowIs _ _ _ _
    rw [hW2]; exact nrow_set RO1 (p := ⟨w.heap.size + 1 + 1, 2, none⟩) (by show w.heap.size + 1 ≠ w.heap.size + 1 + 1; omega) _
  have HRP2 : Hid (W2.rowIs (w.heap.size + 1 + 1) 27 5 (rowN [.int .i64 m.nodes, .int .i64 m.head, .slice (some ⟨W.heap.size, 0, none⟩) m.pn m.pn, .slice none 0 0, .slice none 0 0])) := by
    show W2.rowIs _ _ _ _
    rw [hW2]; exact rowN_put RP1 2 _ (by simp)
  have HB2 : Hid (Below w.heap.size w W2) := by
    show Below _ _ _
    rw [hW2]; exact HB1.out.setCell (p := ⟨w.heap.size + 1 + 1, 2, none⟩) (by show w.heap.size ≤ w.heap.size + 1 + 1; omega) _
  have HK2 : Hid (IsBlk 36 W.heap.size (m.pn * 5) m.P W2) := by
    show IsBlk _ _ _ _ _
    rw [hW2]; exact HK1.out.block (mhs _ _ _ (by have := HSZ.out; omega) _ _)
  clear hW2 RA1 RO1 RP1 hb1 hk1 HK1 HB1
  go_wp2_with fail
  rw [← HW2.out]
  refine (mtoSS_any la m.ln lk m.LN m.L _ (H.out.l.below HB2.out) HS.out.2.1 (fun i hi => HS.out.one hi)).mono ?_
  rintro e w2 ⟨⟨rfl, hk2⟩, hb2⟩
  clear a0 a1 a2 a3 a4 p0 p1 p2 p3 p4 z0 z1 z2 z3 z4 hl1
  have RA1 := nrow_below HRA2.out hb2
  have RO1 := nrow_below HRO2.out hb2
  have RP1 := nrow_below HRP2.out hb2
  have HB3 : Hid (Below w.heap.size w w2) := HB2.out.trans (hb2.mono HB2.out.size)
  have HKA : Hid (IsBlk 36 W.heap.size (m.pn * 5) m.P w2) := HK2.out.below hb2
  have HKB := Lib.hid hk2
  have HLW : Hid (W.heap.size < W2.heap.size) := HK2.out.lt
  obtain ⟨⟨a0, a1, a2, a3, a4⟩, _⟩ := rowN5 RA1
  obtain ⟨⟨p0, p1, p2, p3, p4⟩, z0, z1, z2, z3, z4⟩ := rowN5 RP1
  have hl1 : w.heap.size + 1 + 1 < w2.heap.size := RP1.lt
  obtain ⟨W3, hW3⟩ : ∃ W3, W3 = w2.setCell ⟨w.heap.size + 1 + 1, 3, none⟩ (.slice (some ⟨W2.heap.size, 0, none⟩) m.ln m.ln) := ⟨_, rfl⟩
  have HW3 := Lib.hid hW3
  have HRA3 : Hid (W3.rowIs w.heap.size 45 5 (rowN (mnL m pa pk la lk wa wk))) := by
    show W3.rowIs _ _ _ _
    rw [hW3]; exact nrow_set RA1 (p := ⟨w.heap.size + 1 + 1, 3, none⟩) (by show w.heap.size ≠ w.heap.size + 1 + 1; omega) _
  have HRO3 : Hid (W3.rowIs (w.heap.size + 1) 27 5 (rowN [.int .i64 0, .int .i64 0, .slice none 0 0, .slice none 0 0, .slice none 0 0])) := by
    show W3.rowIs _ _ _ _
    rw [hW3]; exact nrow_set RO1 (p := ⟨w.heap.size + 1 + 1, 3, none⟩) (by show w.heap.size + 1 ≠ w.heap.size + 1 + 1; omega) _
  have HRP3 : Hid (W3.rowIs (w.heap.size + 1 + 1) 27 5 (rowN [.int .i64 m.nodes, .int .i64 m.head, .slice (some ⟨W.heap.size, 0, none⟩) m.pn m.pn, .slice (some ⟨W2.heap.size, 0, none⟩) m.ln m.ln, .slice none 0 0])) := by
    show W3.rowIs _ _ _ _
    rw [hW3]; exact rowN_put RP1 3 _ (by simp)
  have HB4 : Hid (Below w.heap.size w W3) := by
    show Below _ _ _
    rw [hW3]; exact HB3.out.setCell (p := ⟨w.heap.size + 1 + 1, 3, none⟩) (by show w.heap.size ≤ w.heap.size + 1 + 1; omega) _
  have HKA3 : Hid (IsBlk 36 W.heap.size (m.pn * 5) m.P W3) := by
    show IsBlk _ _ _ _ _
    rw [hW3]; exact HKA.out.block (mhs _ _ _ (by have := HSZ.out; omega) _ _)
  have HKB3 : Hid (TSS W2.heap.size m.ln m.ln m.LN m.L W3) := by
    show TSS _ _ _ _ _ _
    rw [hW3]; exact HKB.out.block (fun k hk => mhs _ _ _ (by have := HSZ.out; have := HLW.out; omega) _ _)
  clear hW3 RA1 RO1 RP1 hb2 hk2 HK2 HB2 HKA HKB HB3 HRA2 HRO2 HRP2
  go_wp2_with fail
  rw [← HW3.out]
  refine (ntoInt64S_any wa m.wn wk m.W _ (H.out.w.below HB4.out) HS.out.2.2.2).mono ?_
  rintro e w3 ⟨⟨rfl, hk3⟩, hb3⟩
  clear a0 a1 a2 a3 a4 p0 p1 p2 p3 p4 z0 z1 z2 z3 z4 hl1
  have RO1 := nrow_below HRO3.out hb3
  have RP1 := nrow_below HRP3.out hb3
  have HB5 : Hid (Below w.heap.size w w3) := HB4.out.trans (hb3.mono HB4.out.size)
  have HKA5 := Lib.hid (HKA3.out.below hb3)
  have HKB5 := Lib.hid (HKB3.out.below hb3)
  have HKB4 := HKB3
  have HKC5 := Lib.hid hk3
  have HLW2 : Hid (W2.heap.size < W3.heap.size) := HKB3.out.lt
  obtain ⟨⟨p0, p1, p2, p3, p4⟩, z0, z1, z2, z3, z4⟩ := rowN5 RP1
  obtain ⟨⟨o0, o1, o2, o3, o4⟩, y0, y1, y2, y3, y4⟩ := rowN5 RO1
  have hl2 : w.heap.size + 1 + 1 < w3.heap.size := RP1.lt
  have HRO5 := Lib.hid RO1
  have HLW3 : Hid (W3.heap.size < w3.heap.size) := hk3.lt
  have HLT : Hid (∀ (F : Nat → Value) (h : Nat → Nat), (∀ j, j < m.ln → F j = .slice (some ⟨h j, 0, none⟩) (m.LN j) (m.LN j) ∧ IsBlk 2 (h j) (m.LN j) (m.L j) W3 ∧ W2.heap.size < h j) → ∀ j, j < m.ln → h j < W3.heap.size) := fun F h q j hj => (q j hj).2.1.lt
  clear RO1 RP1 hk3 HKA3 HB4 HRA3 HRO3 HRP3 HKB5 HKB3
  have HB6 := Lib.hid hb3
  clear hb3
  go_wp2_with fail
  have s3 := HSZ.out
  have s4 := HLW.out
  have s5 := HLW2.out
  have s6 := HLW3.out
  obtain ⟨F, hh, k1, k2, k3⟩ := HKB4.out
  have k4 := HLT.out F hh k2
  have k1' := nrow_below k1 HB6.out
  have k2' : ∀ j, j < m.ln → IsBlk 2 (hh j) (m.LN j) (m.L j) w3 := fun j hj => (k2 j hj).2.1.below HB6.out
  refine bodyPost_ret (v := mnV m (some ⟨W.heap.size, 0, none⟩) m.pn (some ⟨W2.heap.size, 0, none⟩) m.ln (some ⟨W3.heap.size, 0, none⟩) m.wn) ?_ rfl ⟨⟨_, _, hh, _, rfl, ⟨HKA5.out.block ?_, ?_, fun j hj => (k2' j hj).block ?_, HKC5.out.block ?_, ⟨by omega, by omega, by omega, by simp; omega⟩, fun j hj => ⟨(k2 j hj).2.2, k4 j hj⟩, k3, Nat.le_refl _⟩⟩, ?_⟩
  · obtain ⟨⟨x0, x1, x2, x3, x4⟩, _⟩ := rowN5 (rowN_put (rowN_put (rowN_put (rowN_put (rowN_put (nrow_set HRO5.out (p := ⟨w.heap.size + 1 + 1, 4, none⟩) (by show w.heap.size + 1 ≠ w.heap.size + 1 + 1; omega) (.slice (some ⟨W3.heap.size, 0, none⟩) m.wn m.wn)) 0 (.int .i64 m.nodes) (by simp)) 1 (.int .i64 m.head) (by simp)) 2 (.slice (some ⟨W.heap.size, 0, none⟩) m.pn m.pn) (by simp)) 3 (.slice (some ⟨W2.heap.size, 0, none⟩) m.ln m.ln) (by simp)) 4 (.slice (some ⟨W3.heap.size, 0, none⟩) m.wn m.wn) (by simp))
    simp only [results, Tryz.results19]
    simp [go_sem, x0, x1, x2, x3, x4]
  · repeat rw [mhs _ _ _ (by omega)]
  · have k5 : w3.rowIs W2.heap.size 25 m.ln (fun i => .slice (some ⟨hh i, 0, none⟩) (m.LN i) (m.LN i)) := by
      obtain ⟨cs, q1, q2, q3⟩ := k1'
      exact ⟨cs, q1, q2, fun i hi => by rw [q3 i hi, (k2 i hi).1]⟩
    refine k5.of_block ?_
    repeat rw [mhs _ _ _ (by omega)]
  · have q := (k2 j hj).2.2
    repeat rw [mhs _ _ _ (by omega)]
  · repeat rw [mhs _ _ _ (by omega)]
  · exact (((((HB5.out.setCell (p := ⟨w.heap.size + 1 + 1, 4, none⟩) (by show w.heap.size ≤ w.heap.size + 1 + 1; omega) _).setCell (p := ⟨w.heap.size + 1, 0, none⟩) (by show w.heap.size ≤ w.heap.size + 1; omega) _).setCell (p := ⟨w.heap.size + 1, 1, none⟩) (by show w.heap.size ≤ w.heap.size + 1; omega) _).setCell (p := ⟨w.heap.size + 1, 2, none⟩) (by show w.heap.size ≤ w.heap.size + 1; omega) _).setCell (p := ⟨w.heap.size + 1, 3, none⟩) (by show w.heap.size ≤ w.heap.size + 1; omega) _).setCell (p := ⟨w.heap.size + 1, 4, none⟩) (by show w.heap.size ≤ w.heap.size + 1; omega) _
set_option maxRecDepth 100000 in
set_option maxHeartbeats 4000000 in
theorem eqMains_same (m : Mn.Mains) (pa la wa pa' la' wa' : Option Addr) (pk lk wk pk' lk' wk' : Nat) (w : World) (h1 : MnAt m pa la wa w) (h2 : MnAt m pa' la' wa' w) (hs : MnSmall m) :
    Calls Tryz.prog 22 #[mnV m pa pk la lk wa wk, mnV m pa' pk' la' lk' wa' wk'] w fun e w' => e = .returned (.bool true) ∧ Below w.heap.size w w' := by
  obtain ⟨W, hW⟩ : ∃ W, W = (w.alloc (.cells #[.int .i64 m.nodes, .int .i64 m.head, .slice pa m.pn pk, .slice la m.ln lk, .slice wa m.wn wk] 27)).alloc (.cells #[.int .i64 m.nodes, .int .i64 m.head, .slice pa' m.pn pk', .slice la' m.ln lk', .slice wa' m.wn wk'] 27) := ⟨_, rfl⟩
  have hB : Below w.heap.size w W := by rw [hW]; exact ((Below.refl _ _).alloc (Nat.le_refl _) _).alloc (by simp) _
  have RA : W.rowIs w.heap.size 27 5 (rowN (mnL m pa pk la lk wa wk)) := by
    rw [hW]; exact nrow_below (rowN_alloc w _ _) (nbel_alloc _ _)
  have RO : W.rowIs (w.heap.size + 1) 27 5 (rowN (mnL m pa' pk' la' lk' wa' wk')) := by
    rw [hW]; exact rowN_alloc' (by simp) _ _
  have n1 : (m.nodes != m.nodes) = false := by simp
  have n2 : (m.head != m.head) = false := by simp
  have HW := Lib.hid hW
  have HB := Lib.hid hB
  have H1 := Lib.hid h1
  have H2 := Lib.hid h2
  have HS := Lib.hid hs
  have HRA := Lib.hid RA
  have HRO := Lib.hid RO
  clear hW hB h1 h2 hs RA RO
  go_enter Tryz.func22, Tryz.ntmps22
  go_wp2_with fail
  rw [← HW.out]
  refine (neqPipeS_same pa pa' m.pn pk pk' m.P _ (H1.out.below HB.out).p (H2.out.below HB.out).p HS.out.1).mono ?_
  rintro e w1 ⟨rfl, hb1⟩
  obtain ⟨⟨x0, x1, x2, x3, x4⟩, _⟩ := rowN5 (nrow_below HRA.out hb1)
  obtain ⟨⟨y0, y1, y2, y3, y4⟩, _⟩ := rowN5 (nrow_below HRO.out hb1)
  have HB1 : Hid (Below w.heap.size w w1) := HB.out.trans (hb1.mono HB.out.size)
  have HRA1 := Lib.hid (nrow_below HRA.out hb1)
  have HRO1 := Lib.hid (nrow_below HRO.out hb1)
  clear hb1 HRA HRO
  go_wp2_with fail
  refine (meqSS_same la la' m.ln lk lk' m.LN m.L _ (H1.out.below HB1.out).l (H2.out.below HB1.out).l HS.out.2.1 (fun i hi => HS.out.one hi)).mono ?_
  rintro e w2 ⟨rfl, hb2⟩
  clear x0 x1 x2 x3 x4 y0 y1 y2 y3 y4
  obtain ⟨⟨x0, x1, x2, x3, x4⟩, _⟩ := rowN5 (nrow_below HRA1.out hb2)
  obtain ⟨⟨y0, y1, y2, y3, y4⟩, _⟩ := rowN5 (nrow_below HRO1.out hb2)
  have HB2 : Hid (Below w.heap.size w w2) := HB1.out.trans (hb2.mono HB1.out.size)
  clear hb2
  go_wp2_with fail
  refine (neqInt64S_same wa wa' m.wn wk wk' m.W _ (H1.out.below HB2.out).w (H2.out.below HB2.out).w HS.out.2.2.2).mono ?_
  rintro e w3 ⟨rfl, hb3⟩
  have HB3 : Hid (Below w.heap.size w w3) := HB2.out.trans (hb3.mono HB2.out.size)
  clear x0 x1 x2 x3 x4 y0 y1 y2 y3 y4 hb3
  go_wp2_with fail
  go_ret
  exact ⟨rfl, HB3.out⟩
/-- What is left: below nought, or all is small. -/
def MnSz (m : Mn.Mains) (e : Ending) : Prop := ∃ z : Int, e = .returned (.int .i64 z) ∧ (z < 0 ∨ ((0 ≤ z ∧ z ≤ 1048576) ∧ MnSmall m))
set_option maxRecDepth 100000 in
set_option maxHeartbeats 2000000 in
theorem szMains_any (m : Mn.Mains) (pa : Option Addr) (pk : Nat) (la : Option Addr) (lk : Nat) (wa : Option Addr) (wk : Nat) (w : World) (hi : MnIn m pa la wa w) (h : MnLens m) :
    Calls Tryz.prog 17 #[mnV m pa pk la lk wa wk, .int .i64 1048576] w fun e w' => MnSz m e ∧ Below w.heap.size w w' := by
  have hB := Lib.hid (nbel_alloc w (.cells #[.int .i64 m.nodes, .int .i64 m.head, .slice pa m.pn pk, .slice la m.ln lk, .slice wa m.wn wk] 45))
  have HI := Lib.hid (hi.below hB.out)
  have HL := Lib.hid h
  clear hi h
  by_cases k1 : m.pn ≤ 1048576
  · have z1 : ¬ ((1048576 - m.pn : Nat) : Int) < 0 := by omega
    go_enter Tryz.func17, Tryz.ntmps17
    go_wp2_with fail
    refine (nszPipe_in pa m.pn pk 1048576 _ k1 (by omega)).mono ?_
    rintro e w1 ⟨rfl, rfl⟩
    go_wp2_with fail
    refine (mszSS_any la m.ln lk m.LN m.L (1048576 - m.pn) _ HI.out.l HL.out.2.1 (by omega) HL.out.2.2.1).mono ?_
    rintro e w1 ⟨⟨z, rfl, hz⟩, rfl⟩
    have HZ := Lib.hid hz
    rcases hz with hz | ⟨hq, hz⟩
    · go_wp2_with fail
      go_ret
      exact ⟨⟨_, rfl, Or.inl (by omega)⟩, hB.out⟩
    · obtain ⟨q, hqq⟩ : ∃ q : Nat, q = 1048576 - m.pn - (m.ln + Mn.tot m.LN m.ln) := ⟨_, rfl⟩
      rw [← hqq] at hz
      subst hz
      have z2 : ¬ ((q : Nat) : Int) < 0 := by omega
      have HQ : Hid (m.ln + Mn.tot m.LN m.ln ≤ 1048576 - m.pn) := hq
      have z4 : q ≤ 1048576 := by omega
      clear hq hqq HZ
      by_cases k3 : m.wn ≤ q
      · have z3 : ¬ ((q - m.wn : Nat) : Int) < 0 := by omega
        go_wp2_with fail
        refine (nszInt64_in wa m.wn wk q _ k3 (by omega)).mono ?_
        rintro e w1 ⟨rfl, rfl⟩
        go_wp2_with fail
        go_ret
        have := HQ.out
        exact ⟨⟨_, rfl, Or.inr ⟨by omega, k1, by omega, by omega, by omega⟩⟩, hB.out⟩
      · go_wp2_with fail
        refine (nszInt64_over wa m.wn wk q _ (by omega) (by omega) HL.out.2.2.2).mono ?_
        rintro e w1 ⟨rfl, rfl⟩
        go_wp2_with fail
        go_ret
        exact ⟨⟨_, rfl, Or.inl (by omega)⟩, hB.out⟩
  · go_enter Tryz.func17, Tryz.ntmps17
    go_wp2_with fail
    refine (nszPipe_over pa m.pn pk 1048576 _ (by omega) (by omega) HL.out.1).mono ?_
    rintro e w1 ⟨rfl, rfl⟩
    go_wp2_with fail
    go_ret
    exact ⟨⟨_, rfl, Or.inl (by omega)⟩, hB.out⟩
set_option maxRecDepth 100000 in
set_option maxHeartbeats 2000000 in
theorem markMains_any (m : Mn.Mains) (B E gp gl : Nat) (hh : Nat → Nat) (gw pk lk wk : Nat) (w : World) (h : MnBlk m B E gp gl hh gw w) (hs : MnSmall m) :
    Calls Tryz.prog 24 #[mnV m (some ⟨gp, 0, none⟩) pk (some ⟨gl, 0, none⟩) lk (some ⟨gw, 0, none⟩) wk, .int .i64 1] w fun e w' => (∃ M : Nat, e = .returned (.int .i64 M) ∧ M ≤ 8388608) ∧ OnlyR B E w w' := by
  obtain ⟨W, hW⟩ : ∃ W, W = w.alloc (.cells #[.int .i64 m.nodes, .int .i64 m.head, .slice (some ⟨gp, 0, none⟩) m.pn pk, .slice (some ⟨gl, 0, none⟩) m.ln lk, .slice (some ⟨gw, 0, none⟩) m.wn wk] 27) := ⟨_, rfl⟩
  have RA : W.rowIs w.heap.size 27 5 (rowN (mnL m (some ⟨gp, 0, none⟩) pk (some ⟨gl, 0, none⟩) lk (some ⟨gw, 0, none⟩) wk)) := by rw [hW]; exact rowN_alloc w _ _
  have hB : Below w.heap.size w W := by rw [hW]; exact nbel_alloc _ _
  have HW := Lib.hid hW
  have HE : Hid (E ≤ w.heap.size) := h.e
  have H := Lib.hid (h.below hB)
  have HB := Lib.hid hB
  have HS := Lib.hid hs
  have HRA := Lib.hid RA
  clear hW h hs RA hB
  go_enter Tryz.func24, Tryz.ntmps24
  go_wp2_with fail
  rw [← HW.out]
  refine (nmarkPipeS_any gp m.pn pk 1 m.P _ H.out.p HS.out.1 (by omega)).mono ?_
  rintro e w1 ⟨rfl, _, ho1⟩
  have q1 := H.out.o1
  have q2 := H.out.o2
  have RA1 : w1.rowIs w.heap.size 27 5 _ := HRA.out.of_block (ho1.block _ HRA.out.lt (by have := HE.out; omega))
  have K1 : Hid (w1.rowIs gl 25 m.ln (fun i => .slice (some ⟨hh i, 0, none⟩) (m.LN i) (m.LN i))) := H.out.l.of_block (ho1.block _ H.out.l.lt (by omega))
  have K2 : Hid (∀ i, i < m.ln → IsBlk 2 (hh i) (m.LN i) (m.L i) w1) := fun i hi => (H.out.li i hi).block (ho1.block _ (H.out.li i hi).lt (by have := q2 i hi; omega))
  have K3 : Hid (IsBlk 2 gw m.wn m.W w1) := H.out.wb.block (ho1.block _ H.out.wb.lt (by omega))
  have HO1 : Hid (OnlyR B E W w1) := ho1.r (by omega) (by omega)
  obtain ⟨⟨x0, x1, x2, x3, x4⟩, _⟩ := rowN5 RA1
  have HRA1 := Lib.hid RA1
  clear ho1 RA1 q1 q2
  obtain ⟨M1, hM1⟩ : ∃ M : Nat, M = 1 + m.pn * 5 := ⟨_, rfl⟩
  rw [← hM1]
  have q1 : M1 ≤ 5242881 := by have := HS.out.1; omega
  clear hM1
  go_wp2_with fail
  refine (mmarkSS_any gl m.ln lk M1 gw hh m.LN m.L _ K1.out K2.out H.out.o2 H.out.o3 HS.out.2.1 (by omega) HS.out.2.2.1).mono ?_
  rintro e w2 ⟨rfl, ho2⟩
  have q3 := H.out.o1
  have RA2 : w2.rowIs w.heap.size 27 5 _ := HRA1.out.of_block (ho2.block _ HRA1.out.lt (Or.inr (by have := HE.out; omega)))
  have K4 : Hid (IsBlk 2 gw m.wn m.W w2) := K3.out.block (ho2.block _ K3.out.lt (Or.inr (Nat.le_refl _)))
  have HO2 : Hid (OnlyR B E w1 w2) := ho2.mono (by omega) (by omega)
  clear x0 x1 x2 x3 x4
  obtain ⟨⟨x0, x1, x2, x3, x4⟩, _⟩ := rowN5 RA2
  clear ho2 RA2 K1 K2 K3 q3
  obtain ⟨M2, hM2⟩ : ∃ M : Nat, M = M1 + Mn.tot m.LN m.ln := ⟨_, rfl⟩
  rw [← hM2]
  have q2 : M2 ≤ 6291457 := by have := HS.out.2.2.1; omega
  clear hM2
  go_wp2_with fail
  refine (nmarkInt64S_any gw m.wn wk M2 m.W _ K4.out HS.out.2.2.2 (by omega)).mono ?_
  rintro e w3 ⟨rfl, _, ho3⟩
  have HO3 : Hid (OnlyR B E w2 w3) := ho3.r (by have := H.out.o1; omega) (by have := H.out.o1; omega)
  clear ho3 K4 x0 x1 x2 x3 x4
  go_wp2_with fail
  go_ret
  exact ⟨⟨_, rfl, by have := HS.out.2.2.2; omega⟩, (((OnlyR.of_below HB.out).trans HO1.out).trans HO2.out).trans HO3.out⟩
end Go.Proofs.YtfgmalnkpgloiaaGreatDoor
