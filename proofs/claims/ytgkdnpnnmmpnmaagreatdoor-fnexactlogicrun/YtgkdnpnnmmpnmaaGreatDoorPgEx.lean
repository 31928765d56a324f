/-
  The laws' conversions, comparisons and marks of programs.
-/
import Derived.Test.YtgkdnpnnmmpnmaaGreatDoorPgEx1
namespace Go.Proofs.YtgkdnpnnmmpnmaaGreatDoor
open Go.RowKit Go.Deep

theorem pghs (w : World) (p g : Nat) (hp : g ≠ p) (i : Nat) (a : Value) : (w.setCell ⟨p, i, none⟩ a).heap[g]? = w.heap[g]? := Below.heap_setCell _ _ _ _ hp
set_option maxRecDepth 100000 in
set_option maxHeartbeats 8000000 in
theorem toProg_any (n : Pg.Prog) (la : Option Addr) (lk : Nat) (fa : Option Addr) (fk : Nat) (wa : Option Addr) (wk : Nat) (w : World) (h : PgIn n la fa wa w) (hs : PgSmall n) :
    Calls Tryz.prog 26 #[pgV n la lk fa fk wa wk] w fun e w' => (∃ gl gf gw, e = .returned (pgV n (some ⟨gl, 0, none⟩) n.bn (some ⟨gf, 0, none⟩) n.on (some ⟨gw, 0, none⟩) n.nn) ∧ PgBlk n w.heap.size gl gf gw w') ∧ Below w.heap.size w w' := by
  obtain ⟨W, hW⟩ : ∃ W, W = ((w.alloc (.cells #[.slice la n.bn lk, .slice fa n.on fk, .slice wa n.nn wk] 56)).alloc (.cells #[.slice none 0 0, .slice none 0 0, .slice none 0 0] 27)).alloc (.cells #[.slice none 0 0, .slice none 0 0, .slice none 0 0] 27) := ⟨_, rfl⟩
  have hsz : W.heap.size = w.heap.size + 3 := by rw [hW]; simp
  have hB : Below w.heap.size w W := by rw [hW]; exact (((Below.refl _ _).alloc (Nat.le_refl _) _).alloc (by simp) _).alloc (by simp; omega) _
  have RA : W.rowIs w.heap.size 56 3 (rowN (pgL n la lk fa fk wa wk)) := by
    rw [hW]; exact nrow_below (nrow_below (rowN_alloc w _ _) (nbel_alloc _ _)) (nbel_alloc _ _)
  have RO : W.rowIs (w.heap.size + 1) 27 3 (rowN [.slice none 0 0, .slice none 0 0, .slice none 0 0]) := by
    rw [hW]; exact nrow_below (rowN_alloc' (by simp) _ _) (nbel_alloc _ _)
  have RP : W.rowIs (w.heap.size + 1 + 1) 27 3 (rowN [.slice none 0 0, .slice none 0 0, .slice none 0 0]) := by
    rw [hW]; exact rowN_alloc' (by simp) _ _
  have HW := Lib.hid hW
  have HB := Lib.hid hB
  have H := Lib.hid h
  have HS := Lib.hid hs
  have HRA := Lib.hid RA
  have HRO := Lib.hid RO
  have HRP := Lib.hid RP
  have HSZ := Lib.hid hsz
  clear hW hB h hs RA RO RP hsz
  go_enter Tryz.func26, Tryz.ntmps26
  go_wp2_with fail
  rw [← HW.out]
  refine (ntoLogicBlockS_any la n.bn lk n.B _ (H.out.l.below HB.out) HS.out.1.1).mono ?_
  rintro e w1 ⟨⟨rfl, hk1⟩, hb1⟩
  have RA1 := nrow_below HRA.out hb1
  have RO1 := nrow_below HRO.out hb1
  have RP1 := nrow_below HRP.out hb1
  have HB1 : Hid (Below w.heap.size w w1) := HB.out.trans (hb1.mono HB.out.size)
  have HK1 := Lib.hid hk1
  obtain ⟨⟨a0, a1, a2⟩, _⟩ := rowN3 RA1
  obtain ⟨⟨p0, p1, p2⟩, z0, z1, z2⟩ := rowN3 RP1
  have hl1 : w.heap.size + 1 + 1 < w1.heap.size := RP1.lt
  obtain ⟨W2, hW2⟩ : ∃ W2, W2 = w1.setCell ⟨w.heap.size + 1 + 1, 0, none⟩ (.slice (some ⟨W.heap.size, 0, none⟩) n.bn n.bn) := ⟨_, rfl⟩
  have HW2 := Lib.hid hW2
  have HRA2 : Hid (W2.rowIs w.heap.size 56 3 (rowN (pgL n la lk fa fk wa wk))) := by
    show W2.rowIs _ _ _ _
    rw [hW2]; exact nrow_set RA1 (p := ⟨w.heap.size + 1 + 1, 0, none⟩) (by show w.heap.size ≠ w.heap.size + 1 + 1; omega) _
  have HRO2 : Hid (W2.rowIs (w.heap.size + 1) 27 3 (rowN [.slice none 0 0, .slice none 0 0, .slice none 0 0])) := by
    show W2.rowIs _ _ _ _
    rw [hW2]; exact nrow_set RO1 (p := ⟨w.heap.size + 1 + 1, 0, none⟩) (by show w.heap.size + 1 ≠ w.heap.size + 1 + 1; omega) _
  have HRP2 : Hid (W2.rowIs (w.heap.size + 1 + 1) 27 3 (rowN [.slice (some ⟨W.heap.size, 0, none⟩) n.bn n.bn, .slice none 0 0, .slice none 0 0])) := by
    show W2.rowIs _ _ _ _
    rw [hW2]; exact rowN_put RP1 0 _ (by simp)
  have HB2 : Hid (Below w.heap.size w W2) := by
    show Below _ _ _
    rw [hW2]; exact HB1.out.setCell (p := ⟨w.heap.size + 1 + 1, 0, none⟩) (by show w.heap.size ≤ w.heap.size + 1 + 1; omega) _
  have HK2 : Hid (VsBlk 85 W.heap.size (n.bn * 4) (bkF n.B) W2) := by
    show VsBlk _ _ _ _ _
    rw [hW2]; exact HK1.out.block (pghs _ _ _ (by have := HSZ.out; omega) _ _)
  clear hW2 RA1 RO1 RP1 hb1 hk1 HK1 HB1
  go_wp2_with fail
  rw [← HW2.out]
  refine (ntoInt64S_any fa n.on fk n.O _ (H.out.f.below HB2.out) HS.out.2.1).mono ?_
  rintro e w2 ⟨⟨rfl, hk2⟩, hb2⟩
  clear a0 a1 a2 p0 p1 p2 z0 z1 z2 hl1
  have RA1 := nrow_below HRA2.out hb2
  have RO1 := nrow_below HRO2.out hb2
  have RP1 := nrow_below HRP2.out hb2
  have HB3 : Hid (Below w.heap.size w w2) := HB2.out.trans (hb2.mono HB2.out.size)
  have HKA : Hid (VsBlk 85 W.heap.size (n.bn * 4) (bkF n.B) w2) := HK2.out.below hb2
  have HKB := Lib.hid hk2
  have HLW : Hid (W.heap.size < W2.heap.size) := HK2.out.lt
  obtain ⟨⟨a0, a1, a2⟩, _⟩ := rowN3 RA1
  obtain ⟨⟨p0, p1, p2⟩, z0, z1, z2⟩ := rowN3 RP1
  have hl1 : w.heap.size + 1 + 1 < w2.heap.size := RP1.lt
  obtain ⟨W3, hW3⟩ : ∃ W3, W3 = w2.setCell ⟨w.heap.size + 1 + 1, 1, none⟩ (.slice (some ⟨W2.heap.size, 0, none⟩) n.on n.on) := ⟨_, rfl⟩
  have HW3 := Lib.hid hW3
  have HRA3 : Hid (W3.rowIs w.heap.size 56 3 (rowN (pgL n la lk fa fk wa wk))) := by
    show W3.rowIs _ _ _ _
    rw [hW3]; exact nrow_set RA1 (p := ⟨w.heap.size + 1 + 1, 1, none⟩) (by show w.heap.size ≠ w.heap.size + 1 + 1; omega) _
  have HRO3 : Hid (W3.rowIs (w.heap.size + 1) 27 3 (rowN [.slice none 0 0, .slice none 0 0, .slice none 0 0])) := by
    show W3.rowIs _ _ _ _
    rw [hW3]; exact nrow_set RO1 (p := ⟨w.heap.size + 1 + 1, 1, none⟩) (by show w.heap.size + 1 ≠ w.heap.size + 1 + 1; omega) _
  have HRP3 : Hid (W3.rowIs (w.heap.size + 1 + 1) 27 3 (rowN [.slice (some ⟨W.heap.size, 0, none⟩) n.bn n.bn, .slice (some ⟨W2.heap.size, 0, none⟩) n.on n.on, .slice none 0 0])) := by
    show W3.rowIs _ _ _ _
    rw [hW3]; exact rowN_put RP1 1 _ (by simp)
  have HB4 : Hid (Below w.heap.size w W3) := by
    show Below _ _ _
    rw [hW3]; exact HB3.out.setCell (p := ⟨w.heap.size + 1 + 1, 1, none⟩) (by show w.heap.size ≤ w.heap.size + 1 + 1; omega) _
  have HKA3 : Hid (VsBlk 85 W.heap.size (n.bn * 4) (bkF n.B) W3) := by
    show VsBlk _ _ _ _ _
    rw [hW3]; exact HKA.out.block (pghs _ _ _ (by have := HSZ.out; omega) _ _)
  have HKB3 : Hid (IsBlk 2 W2.heap.size (n.on) n.O W3) := by
    show IsBlk _ _ _ _ _
    rw [hW3]; exact HKB.out.block (pghs _ _ _ (by have := HSZ.out; have := HLW.out; omega) _ _)
  clear hW3 RA1 RO1 RP1 hb2 hk2 HK2 HB2 HKA HKB HB3 HRA2 HRO2 HRP2
  go_wp2_with fail
  rw [← HW3.out]
  refine (ntoPairS_any wa n.nn wk n.N _ (H.out.w.below HB4.out) HS.out.2.2).mono ?_
  rintro e w3 ⟨⟨rfl, hk3⟩, hb3⟩
  clear a0 a1 a2 p0 p1 p2 z0 z1 z2 hl1
  have RO1 := nrow_below HRO3.out hb3
  have RP1 := nrow_below HRP3.out hb3
  have HB5 : Hid (Below w.heap.size w w3) := HB4.out.trans (hb3.mono HB4.out.size)
  have HKA5 := Lib.hid (HKA3.out.below hb3)
  have HKB5 := Lib.hid (HKB3.out.below hb3)
  have HKC5 := Lib.hid hk3
  have HLW2 : Hid (W2.heap.size < W3.heap.size) := HKB3.out.lt
  obtain ⟨⟨p0, p1, p2⟩, z0, z1, z2⟩ := rowN3 RP1
  obtain ⟨⟨o0, o1, o2⟩, y0, y1, y2⟩ := rowN3 RO1
  have hl2 : w.heap.size + 1 + 1 < w3.heap.size := RP1.lt
  have HRO5 := Lib.hid RO1
  clear RO1 RP1 hb3 hk3 HKA3 HKB3 HB4 HRA3 HRO3 HRP3
  go_wp2_with fail
  have s3 := HSZ.out
  have s4 := HLW.out
  have s5 := HLW2.out
  refine bodyPost_ret (v := pgV n (some ⟨W.heap.size, 0, none⟩) n.bn (some ⟨W2.heap.size, 0, none⟩) n.on (some ⟨W3.heap.size, 0, none⟩) n.nn) ?_ rfl ⟨⟨_, _, _, rfl, ⟨HKA5.out.block ?_, HKB5.out.block ?_, HKC5.out.block ?_, ⟨by omega, by omega, by omega⟩, by omega, by omega, by omega⟩⟩, ?_⟩
  · obtain ⟨⟨x0, x1, x2⟩, _⟩ := rowN3 (rowN_put (rowN_put (rowN_put (nrow_set HRO5.out (p := ⟨w.heap.size + 1 + 1, 2, none⟩) (by show w.heap.size + 1 ≠ w.heap.size + 1 + 1; omega) (.slice (some ⟨W3.heap.size, 0, none⟩) n.nn n.nn)) 0 (.slice (some ⟨W.heap.size, 0, none⟩) n.bn n.bn) (by simp)) 1 (.slice (some ⟨W2.heap.size, 0, none⟩) n.on n.on) (by simp)) 2 (.slice (some ⟨W3.heap.size, 0, none⟩) n.nn n.nn) (by simp))
    simp only [results, Tryz.results26]
    simp [go_sem, x0, x1, x2]
  · repeat rw [pghs _ _ _ (by omega)]
  · repeat rw [pghs _ _ _ (by omega)]
  · repeat rw [pghs _ _ _ (by omega)]
  · exact (((HB5.out.setCell (p := ⟨w.heap.size + 1 + 1, 2, none⟩) (by show w.heap.size ≤ w.heap.size + 1 + 1; omega) _).setCell (p := ⟨w.heap.size + 1, 0, none⟩) (by show w.heap.size ≤ w.heap.size + 1; omega) _).setCell (p := ⟨w.heap.size + 1, 1, none⟩) (by show w.heap.size ≤ w.heap.size + 1; omega) _).setCell (p := ⟨w.heap.size + 1, 2, none⟩) (by show w.heap.size ≤ w.heap.size + 1; omega) _
set_option maxRecDepth 100000 in
set_option maxHeartbeats 4000000 in
theorem eqProg_same (n : Pg.Prog) (la fa wa la' fa' wa' : Option Addr) (lk fk wk lk' fk' wk' : Nat) (w : World) (h1 : PgAt n la fa wa w) (h2 : PgAt n la' fa' wa' w) (hs : PgSmall n) :
    Calls Tryz.prog 30 #[pgV n la lk fa fk wa wk, pgV n la' lk' fa' fk' wa' wk'] w fun e w' => e = .returned (.bool true) ∧ Below w.heap.size w w' := by
  obtain ⟨W, hW⟩ : ∃ W, W = (w.alloc (.cells #[.slice la n.bn lk, .slice fa n.on fk, .slice wa n.nn wk] 27)).alloc (.cells #[.slice la' n.bn lk', .slice fa' n.on fk', .slice wa' n.nn wk'] 27) := ⟨_, rfl⟩
  have hB : Below w.heap.size w W := by rw [hW]; exact ((Below.refl _ _).alloc (Nat.le_refl _) _).alloc (by simp) _
  have RA : W.rowIs w.heap.size 27 3 (rowN (pgL n la lk fa fk wa wk)) := by
    rw [hW]; exact nrow_below (rowN_alloc w _ _) (nbel_alloc _ _)
  have RO : W.rowIs (w.heap.size + 1) 27 3 (rowN (pgL n la' lk' fa' fk' wa' wk')) := by
    rw [hW]; exact rowN_alloc' (by simp) _ _
  have HW := Lib.hid hW
  have HB := Lib.hid hB
  have H1 := Lib.hid h1
  have H2 := Lib.hid h2
  have HS := Lib.hid hs
  have HRA := Lib.hid RA
  have HRO := Lib.hid RO
  clear hW hB h1 h2 hs RA RO
  go_enter Tryz.func30, Tryz.ntmps30
  go_wp2_with fail
  rw [← HW.out]
  refine (neqLogicBlockS_same la la' n.bn lk lk' n.B _ (H1.out.below HB.out).l (H2.out.below HB.out).l HS.out.1.1).mono ?_
  rintro e w1 ⟨rfl, hb1⟩
  obtain ⟨⟨x0, x1, x2⟩, _⟩ := rowN3 (nrow_below HRA.out hb1)
  obtain ⟨⟨y0, y1, y2⟩, _⟩ := rowN3 (nrow_below HRO.out hb1)
  have HB1 : Hid (Below w.heap.size w w1) := HB.out.trans (hb1.mono HB.out.size)
  have HRA1 := Lib.hid (nrow_below HRA.out hb1)
  have HRO1 := Lib.hid (nrow_below HRO.out hb1)
  clear hb1 HRA HRO
  go_wp2_with fail
  refine (neqInt64S_same fa fa' n.on fk fk' n.O _ (H1.out.below HB1.out).f (H2.out.below HB1.out).f HS.out.2.1).mono ?_
  rintro e w2 ⟨rfl, hb2⟩
  clear x0 x1 x2 y0 y1 y2
  obtain ⟨⟨x0, x1, x2⟩, _⟩ := rowN3 (nrow_below HRA1.out hb2)
  obtain ⟨⟨y0, y1, y2⟩, _⟩ := rowN3 (nrow_below HRO1.out hb2)
  have HB2 : Hid (Below w.heap.size w w2) := HB1.out.trans (hb2.mono HB1.out.size)
  clear hb2
  go_wp2_with fail
  refine (neqPairS_same wa wa' n.nn wk wk' n.N _ (H1.out.below HB2.out).w (H2.out.below HB2.out).w HS.out.2.2).mono ?_
  rintro e w3 ⟨rfl, hb3⟩
  have HB3 : Hid (Below w.heap.size w w3) := HB2.out.trans (hb3.mono HB2.out.size)
  clear x0 x1 x2 y0 y1 y2 hb3
  go_wp2_with fail
  go_ret
  exact ⟨rfl, HB3.out⟩
/-- What is left: below nought, or all is small. -/
def PgSz (n : Pg.Prog) (e : Ending) : Prop := ∃ z : Int, e = .returned (.int .i64 z) ∧ (z < 0 ∨ ((0 ≤ z ∧ z ≤ 1048576) ∧ PgSmall n))
set_option maxRecDepth 100000 in
set_option maxHeartbeats 2000000 in
theorem szProg_any (n : Pg.Prog) (la : Option Addr) (lk : Nat) (fa : Option Addr) (fk : Nat) (wa : Option Addr) (wk : Nat) (w : World) (h : PgIn n la fa wa w) (hl : PgLens n) :
    Calls Tryz.prog 23 #[pgV n la lk fa fk wa wk, .int .i64 1048576] w fun e w' => PgSz n e ∧ Below w.heap.size w w' := by
  obtain ⟨W, hW⟩ : ∃ W, W = w.alloc (.cells #[.slice la n.bn lk, .slice fa n.on fk, .slice wa n.nn wk] 56) := ⟨_, rfl⟩
  have RA : W.rowIs w.heap.size 56 3 (rowN (pgL n la lk fa fk wa wk)) := by rw [hW]; exact rowN_alloc w _ _
  have hB : Below w.heap.size w W := by rw [hW]; exact nbel_alloc _ _
  have HW := Lib.hid hW
  have H := Lib.hid (h.below hB)
  have HB := Lib.hid hB
  have HL := Lib.hid hl
  have HRA := Lib.hid RA
  clear hW h hl RA hB
  go_enter Tryz.func23, Tryz.ntmps23
  go_wp2_with fail
  rw [← HW.out]
  refine (nszBlocks_any la n.bn lk n.B 1048576 _ H.out.l HL.out.1.2 HL.out.1.1 (by omega)).mono ?_
  rintro e w1 ⟨he, hb⟩
  have HB1 : Hid (Below w.heap.size w w1) := HB.out.trans (hb.mono HB.out.size)
  obtain ⟨⟨x0, x1, x2⟩, _⟩ := rowN3 (nrow_below HRA.out hb)
  clear hb
  rcases he with ⟨z, rfl, hz⟩ | ⟨m, rfl, hm, hbn, hnm⟩
  · go_wp2_with fail
    go_ret
    exact ⟨⟨_, rfl, Or.inl (by omega)⟩, HB1.out⟩
  · have z1 : ¬ ((m : Nat) : Int) < 0 := by omega
    have HN := Lib.hid hnm
    clear hnm
    by_cases k2 : n.on ≤ m
    · have z2 : ¬ ((m - n.on : Nat) : Int) < 0 := by omega
      go_wp2_with fail
      refine (nszInt64_in fa n.on fk m _ k2 (by omega)).mono ?_
      rintro e w2 ⟨rfl, rfl⟩
      by_cases k3 : n.nn ≤ m - n.on
      · have z3 : ¬ ((m - n.on - n.nn : Nat) : Int) < 0 := by omega
        go_wp2_with fail
        refine (nszPair_in wa n.nn wk (m - n.on) _ k3 (by omega)).mono ?_
        rintro e w3 ⟨rfl, rfl⟩
        go_wp2_with fail
        go_ret
        exact ⟨⟨_, rfl, Or.inr ⟨by omega, ⟨by omega, HN.out⟩, by omega, by omega⟩⟩, HB1.out⟩
      · have := HL.out.2.2
        go_wp2_with fail
        refine (nszPair_over wa n.nn wk (m - n.on) _ (by omega) (by omega) this).mono ?_
        rintro e w3 ⟨rfl, rfl⟩
        go_wp2_with fail
        go_ret
        exact ⟨⟨_, rfl, Or.inl (by omega)⟩, HB1.out⟩
    · have := HL.out.2.1
      go_wp2_with fail
      refine (nszInt64_over fa n.on fk m _ (by omega) (by omega) this).mono ?_
      rintro e w2 ⟨rfl, rfl⟩
      go_wp2_with fail
      go_ret
      exact ⟨⟨_, rfl, Or.inl (by omega)⟩, HB1.out⟩
/-- Three blocks alone may have changed. -/
structure OnlyG (gl gf gw : Nat) (w w' : World) : Prop where
  os : w'.os = w.os
  tape : w'.tape = w.tape
  output : w'.output = w.output
  size : w.heap.size ≤ w'.heap.size
  block : ∀ k, k < w.heap.size → k ≠ gl → k ≠ gf → k ≠ gw → w'.heap[k]? = w.heap[k]?
set_option maxRecDepth 100000 in
set_option maxHeartbeats 2000000 in
theorem markProg_any (n : Pg.Prog) (B gl gf gw : Nat) (lk fk wk : Nat) (w : World) (h : PgBlk n B gl gf gw w) (hs : PgSmall n) :
    Calls Tryz.prog 33 #[pgV n (some ⟨gl, 0, none⟩) lk (some ⟨gf, 0, none⟩) fk (some ⟨gw, 0, none⟩) wk, .int .i64 1] w fun e w' => (∃ M : Nat, e = .returned (.int .i64 M) ∧ M ≤ 16777216) ∧ OnlyG gl gf gw w w' := by
  obtain ⟨W, hW⟩ : ∃ W, W = w.alloc (.cells #[.slice (some ⟨gl, 0, none⟩) n.bn lk, .slice (some ⟨gf, 0, none⟩) n.on fk, .slice (some ⟨gw, 0, none⟩) n.nn wk] 27) := ⟨_, rfl⟩
  have RA : W.rowIs w.heap.size 27 3 (rowN (pgL n (some ⟨gl, 0, none⟩) lk (some ⟨gf, 0, none⟩) fk (some ⟨gw, 0, none⟩) wk)) := by rw [hW]; exact rowN_alloc w _ _
  have hB : Below w.heap.size w W := by rw [hW]; exact nbel_alloc _ _
  have HW := Lib.hid hW
  have H0 := Lib.hid h
  have H := Lib.hid (h.below hB)
  have HB := Lib.hid hB
  have HS := Lib.hid hs
  have HRA := Lib.hid RA
  clear hW h hs RA hB
  go_enter Tryz.func33, Tryz.ntmps33
  go_wp2_with fail
  rw [← HW.out]
  refine (nmarkBlocks_any gl n.bn lk 1 n.B _ H.out.l HS.out.1.1 (by omega)).mono ?_
  rintro e w1 ⟨rfl, _, ho1⟩
  have RA1 : w1.rowIs w.heap.size 27 3 _ := HRA.out.of_block (ho1.block _ HRA.out.lt (by have := H0.out.l.lt; omega))
  have K1 : Hid (IsBlk 2 gf (n.on) n.O w1) := H.out.f.block (ho1.block _ H.out.f.lt (Ne.symm H.out.ne.1))
  have K2 : Hid (IsBlk 50 gw (n.nn * 2) n.N w1) := H.out.w.block (ho1.block _ H.out.w.lt (Ne.symm H.out.ne.2.1))
  have HO1 := Lib.hid ho1
  obtain ⟨⟨x0, x1, x2⟩, _⟩ := rowN3 RA1
  have HRA1 := Lib.hid RA1
  clear ho1 RA1
  obtain ⟨M1, hM1⟩ : ∃ M : Nat, M = 1 + n.bn * 4 := ⟨_, rfl⟩
  rw [← hM1]
  have q1 : M1 ≤ 4194305 := by have := HS.out.1.1; omega
  clear hM1
  go_wp2_with fail
  refine (nmarkInt64S_any gf n.on fk M1 n.O _ K1.out HS.out.2.1 (by omega)).mono ?_
  rintro e w2 ⟨rfl, _, ho2⟩
  have RA2 : w2.rowIs w.heap.size 27 3 _ := HRA1.out.of_block (ho2.block _ HRA1.out.lt (by have := H0.out.f.lt; omega))
  have K3 : Hid (IsBlk 50 gw (n.nn * 2) n.N w2) := K2.out.block (ho2.block _ K2.out.lt (Ne.symm H.out.ne.2.2))
  have HO2 := Lib.hid ho2
  clear x0 x1 x2
  obtain ⟨⟨x0, x1, x2⟩, _⟩ := rowN3 RA2
  clear ho2 RA2 K1 K2
  obtain ⟨M2, hM2⟩ : ∃ M : Nat, M = M1 + n.on := ⟨_, rfl⟩
  rw [← hM2]
  have q2 : M2 ≤ 8388608 := by have := HS.out.2.1; omega
  clear hM2
  go_wp2_with fail
  refine (nmarkPairS_any gw n.nn wk M2 n.N _ K3.out HS.out.2.2 (by omega)).mono ?_
  rintro e w3 ⟨rfl, _, ho3⟩
  have HO3 := Lib.hid ho3
  clear ho3 K3 x0 x1 x2
  go_wp2_with fail
  go_ret
  have o1 := HO1.out
  have o2 := HO2.out
  have o3 := HO3.out
  have b0 := HB.out
  refine ⟨⟨_, rfl, by have := HS.out.2.2; show M2 + n.nn * 2 ≤ 16777216; omega⟩, o3.os.trans (o2.os.trans (o1.os.trans b0.os)), o3.tape.trans (o2.tape.trans (o1.tape.trans b0.tape)), o3.output.trans (o2.output.trans (o1.output.trans b0.output)), Nat.le_trans b0.size (Nat.le_trans o1.size (Nat.le_trans o2.size o3.size)), fun k hk e1 e2 e3 => ?_⟩
  have s0 := b0.size
  have s1 := o1.size
  have s2 := o2.size
  rw [o3.block k (by omega) e3, o2.block k (by omega) e2, o1.block k (by omega) e1, b0.block k hk]
end Go.Proofs.YtgkdnpnnmmpnmaaGreatDoor
