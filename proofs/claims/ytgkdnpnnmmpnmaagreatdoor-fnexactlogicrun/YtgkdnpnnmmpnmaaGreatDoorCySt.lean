/-
  The start of a program's cycles: the program's and the model's.
-/
import Derived.Test.YtgkdnpnnmmpnmaaGreatDoorCyMem
import Derived.Test.YtgkdnpnnmmpnmaaGreatDoorPgI5
import Derived.Test.YtgkdnpnnmmpnmaaGreatDoorPgS2
import Derived.Test.YtgkdnpnnmmpnmaaGreatDoorNtEx1
namespace Go.Proofs.YtgkdnpnnmmpnmaaGreatDoor
open Go.RowKit Go.Deep

theorem mk_i64 (n : Nat) (hn : n ≤ 1048576) (w : World) : (Instr.makeSlice 24 (.int .i64 (n : Int)) (.int .i64 (n : Int))).run Tryz.prog w = .ok (.slice (some ⟨w.heap.size, 0, none⟩) n n) (w.alloc (.cells (madeCells #[.int .i64 0] (n * 1)) 2)) := by
  obtain ⟨i0, hi, hz0, hz1, hz2⟩ := info_parts ninfo_i64
  have := run_make (P := Tryz.prog) w 24 2 i0 _ Tryz.underlying24 hi hz0 .i64 .i64 n n (by omega) (Int.le_refl _) (by rw [hz2]; omega) (by omega)
  rw [hz1] at this
  simp only [Int.toNat_natCast] at this
  exact this
/-- Two blocks of noughts behind a box. -/
structure Still (n : Nat) (w : World) (x y : Nat) (T L : TypeId) (l : List Value) (W : World) : Prop where
  bx : W.rowIs w.heap.size L l.length (rowN l)
  t : IsBlk T x n (fun _ => 0) W
  c : IsBlk T y n (fun _ => 0) W
  o : w.heap.size < x ∧ w.heap.size < y ∧ x ≠ y
  old : Below w.heap.size w W
theorem still_w (n : Nat) (w : World) (l : List Value) (T L : TypeId) : Still n w (w.heap.size + 1) (w.heap.size + 1 + 1) T L l (((w.alloc (.cells ⟨l⟩ L)).alloc (.cells (madeCells #[.int .i64 0] n) T)).alloc (.cells (madeCells #[.int .i64 0] n) T)).drew := by
  obtain ⟨A, hA⟩ : ∃ A, A = w.alloc (.cells ⟨l⟩ L) := ⟨_, rfl⟩
  have sA : A.heap.size = w.heap.size + 1 := by rw [hA]; simp
  have rA : A.rowIs w.heap.size L l.length (rowN l) := by rw [hA]; exact rowN_alloc w l L
  have bA : Below w.heap.size w A := by rw [hA]; exact nbel_alloc _ _
  rw [← hA]
  obtain ⟨X, hX⟩ : ∃ X, X = A.alloc (.cells (madeCells #[.int .i64 0] n) T) := ⟨_, rfl⟩
  have sX : X.heap.size = w.heap.size + 1 + 1 := by rw [hX]; simp [sA]
  have bX : Below A.heap.size A X := by rw [hX]; exact nbel_alloc _ _
  have kX : IsBlk T (w.heap.size + 1) n (fun _ => 0) X := by
    have := made_is T #[.int .i64 0] A n (by intro i hi; simp at hi; subst hi; rfl) (by simp)
    rw [← hX, sA] at this
    exact ⟨n, _, Nat.le_refl _, this, fun _ _ => rfl⟩
  rw [← hX]
  obtain ⟨Y, hY⟩ : ∃ Y, Y = X.alloc (.cells (madeCells #[.int .i64 0] n) T) := ⟨_, rfl⟩
  have bY : Below X.heap.size X Y := by rw [hY]; exact nbel_alloc _ _
  have kY : IsBlk T (w.heap.size + 1 + 1) n (fun _ => 0) Y := by
    have := made_is T #[.int .i64 0] X n (by intro i hi; simp at hi; subst hi; rfl) (by simp)
    rw [← hY, sX] at this
    exact ⟨n, _, Nat.le_refl _, this, fun _ _ => rfl⟩
  rw [← hY]
  have d : Below Y.heap.size Y Y.drew := (Below.refl _ _).drew
  exact ⟨nrow_below (nrow_below (nrow_below rA bX) bY) d, (kX.below bY).below d, kY.below d, ⟨by omega, by omega, by omega⟩, ((bA.trans (bX.mono bA.size)).trans (bY.mono (Nat.le_trans bA.size bX.size))).trans (d.mono (Nat.le_trans (Nat.le_trans bA.size bX.size) bY.size))⟩
theorem Still.swap {n : Nat} {w : World} {x y : Nat} {T L : TypeId} {l : List Value} {W : World} (h : Still n w x y T L l W) : Still n w y x T L l W := ⟨h.bx, h.c, h.t, ⟨h.o.2.1, h.o.1, Ne.symm h.o.2.2⟩, h.old⟩
theorem Still.lgo {n : Nat} {w : World} {x y : Nat} {T L : TypeId} {l : List Value} {W : World} (h : Still n w x y T L l W) : LgO T w.heap.size n n n n (some ⟨x, 0, none⟩) (some ⟨y, 0, none⟩) (fun _ => 0) (fun _ => 0) W :=
  ⟨Or.inr ⟨_, rfl, Nat.le_of_lt h.o.1, h.t⟩, Or.inr ⟨_, rfl, Nat.le_of_lt h.o.2.1, h.c⟩, fun k e e' => by cases e; cases e'; exact h.o.2.2 rfl⟩
/-- Two blocks of noughts. -/
structure Two0 (n b : Nat) (V : World) (T : TypeId) (W : World) : Prop where
  t : IsBlk T b n (fun _ => 0) W
  c : IsBlk T (b + 1) n (fun _ => 0) W
  old : Below b V W
theorem two0 (n b : Nat) (V : World) (T : TypeId) (e : V.heap.size = b) : Two0 n b V T (((V.alloc (.cells (madeCells #[.int .i64 0] n) T)).alloc (.cells (madeCells #[.int .i64 0] n) T)).drew) := by
  obtain ⟨X, hX⟩ : ∃ X, X = V.alloc (.cells (madeCells #[.int .i64 0] n) T) := ⟨_, rfl⟩
  have sX : X.heap.size = b + 1 := by rw [hX]; simp [e]
  have bX : Below b V X := by rw [hX, ← e]; exact nbel_alloc _ _
  have kX : IsBlk T b n (fun _ => 0) X := by
    have := made_is T #[.int .i64 0] V n (by intro i hi; simp at hi; subst hi; rfl) (by simp)
    rw [← hX, e] at this
    exact ⟨n, _, Nat.le_refl _, this, fun _ _ => rfl⟩
  rw [← hX]
  obtain ⟨Y, hY⟩ : ∃ Y, Y = X.alloc (.cells (madeCells #[.int .i64 0] n) T) := ⟨_, rfl⟩
  have bY : Below X.heap.size X Y := by rw [hY]; exact nbel_alloc _ _
  have kY : IsBlk T (b + 1) n (fun _ => 0) Y := by
    have := made_is T #[.int .i64 0] X n (by intro i hi; simp at hi; subst hi; rfl) (by simp)
    rw [← hY, sX] at this
    exact ⟨n, _, Nat.le_refl _, this, fun _ _ => rfl⟩
  rw [← hY]
  have d : Below Y.heap.size Y Y.drew := (Below.refl _ _).drew
  exact ⟨(kX.below bY).below d, kY.below d, (bX.trans (bY.mono (by omega))).trans (d.mono (by have := bY.size; omega))⟩
set_option maxRecDepth 100000 in
set_option maxHeartbeats 4000000 in
theorem still_any (n : Nat) (hn : n ≤ 1048576) (w : World) :
    Calls Tryz.prog 56 #[.int .i64 (n : Nat)] w fun e w' => LgEnd w.heap.size 2 ⟨n, fun _ => 0, n, fun _ => 0, false⟩ e w' ∧ Below w.heap.size w w' := by
  have hmk := mk_i64 n hn
  go_enter Tryz.func56, Tryz.ntmps56
  go_wp2_with fail
  go_region
  · have HE := Lib.hid (still_w n w [.slice (some ⟨w.heap.size + 1, 0, none⟩) n n, .slice (some ⟨w.heap.size + 1 + 1, 0, none⟩) n n, .bool false] 2 33)
    go_wp2_with fail
    exact bodyPost_ret (v := .agg #[.slice (some ⟨w.heap.size + 1, 0, none⟩) n n, .slice (some ⟨w.heap.size + 1 + 1, 0, none⟩) n n, .bool false]) (by
      obtain ⟨⟨x0, x1, x2⟩, _⟩ := rowN3 HE.out.bx
      simp only [results, Tryz.results56]
      simp [go_sem, x0, x1, x2]) rfl ⟨⟨_, _, _, _, rfl, HE.out.lgo⟩, HE.out.old⟩
  · have HE := Lib.hid (still_w n w [.slice (some ⟨w.heap.size + 1 + 1, 0, none⟩) n n, .slice (some ⟨w.heap.size + 1, 0, none⟩) n n, .bool false] 2 33).swap
    go_wp2_with fail
    exact bodyPost_ret (v := .agg #[.slice (some ⟨w.heap.size + 1 + 1, 0, none⟩) n n, .slice (some ⟨w.heap.size + 1, 0, none⟩) n n, .bool false]) (by
      obtain ⟨⟨x0, x1, x2⟩, _⟩ := rowN3 HE.out.bx
      simp only [results, Tryz.results56]
      simp [go_sem, x0, x1, x2]) rfl ⟨⟨_, _, _, _, rfl, HE.out.lgo⟩, HE.out.old⟩
set_option maxRecDepth 100000 in
set_option maxHeartbeats 4000000 in
theorem still_blk (n : Nat) (hn : n ≤ 1048576) (w : World) :
    Calls Tryz.prog 56 #[.int .i64 (n : Nat)] w fun e w' => (∃ x y, e = .returned (.agg #[.slice (some ⟨x, 0, none⟩) n n, .slice (some ⟨y, 0, none⟩) n n, .bool false]) ∧ (w.heap.size ≤ x ∧ w.heap.size ≤ y ∧ x ≠ y) ∧ IsBlk 2 x n (fun _ => 0) w' ∧ IsBlk 2 y n (fun _ => 0) w') ∧ Below w.heap.size w w' := by
  have hmk := mk_i64 n hn
  go_enter Tryz.func56, Tryz.ntmps56
  go_wp2_with fail
  go_region
  · have HE := Lib.hid (still_w n w [.slice (some ⟨w.heap.size + 1, 0, none⟩) n n, .slice (some ⟨w.heap.size + 1 + 1, 0, none⟩) n n, .bool false] 2 33)
    go_wp2_with fail
    exact bodyPost_ret (v := .agg #[.slice (some ⟨w.heap.size + 1, 0, none⟩) n n, .slice (some ⟨w.heap.size + 1 + 1, 0, none⟩) n n, .bool false]) (by
      obtain ⟨⟨x0, x1, x2⟩, _⟩ := rowN3 HE.out.bx
      simp only [results, Tryz.results56]
      simp [go_sem, x0, x1, x2]) rfl ⟨⟨_, _, rfl, ⟨Nat.le_of_lt HE.out.o.1, Nat.le_of_lt HE.out.o.2.1, HE.out.o.2.2⟩, HE.out.t, HE.out.c⟩, HE.out.old⟩
  · have HE := Lib.hid (still_w n w [.slice (some ⟨w.heap.size + 1 + 1, 0, none⟩) n n, .slice (some ⟨w.heap.size + 1, 0, none⟩) n n, .bool false] 2 33).swap
    go_wp2_with fail
    exact bodyPost_ret (v := .agg #[.slice (some ⟨w.heap.size + 1 + 1, 0, none⟩) n n, .slice (some ⟨w.heap.size + 1, 0, none⟩) n n, .bool false]) (by
      obtain ⟨⟨x0, x1, x2⟩, _⟩ := rowN3 HE.out.bx
      simp only [results, Tryz.results56]
      simp [go_sem, x0, x1, x2]) rfl ⟨⟨_, _, rfl, ⟨Nat.le_of_lt HE.out.o.1, Nat.le_of_lt HE.out.o.2.1, HE.out.o.2.2⟩, HE.out.t, HE.out.c⟩, HE.out.old⟩
set_option maxRecDepth 100000 in
set_option maxHeartbeats 4000000 in
theorem implStart_any (p : Pg.Prog) (la : Option Addr) (lk : Nat) (fa : Option Addr) (fk : Nat) (wa : Option Addr) (wk : Nat) (w : World) (h : PgAt p la fa wa w) (hs : PgSmall p) :
    Calls Tryz.prog 11 #[pgV p la lk fa fk wa wk] w fun e w' => LgEnd w.heap.size 2 (Cy.start p) e w' ∧ Below w.heap.size w w' := by
  obtain ⟨W, hW⟩ : ∃ W, W = (w.alloc (.cells #[.slice la p.bn lk, .slice fa p.on fk, .slice wa p.nn wk] 27)).alloc (.cells #[.slice none 0 0, .slice none 0 0, .bool false] 33) := ⟨_, rfl⟩
  have R0 : Hid (W.rowIs w.heap.size 27 3 (rowN (pgL p la lk fa fk wa wk))) := by show World.rowIs _ _ _ _ _; rw [hW]; exact nrow_below (rowN_alloc w _ _) (nbel_alloc _ _)
  have Q0 : Hid (W.rowIs (w.heap.size + 1) 33 3 (rowN [.slice none 0 0, .slice none 0 0, .bool false])) := by show World.rowIs _ _ _ _ _; rw [hW]; exact rowN_alloc' (by simp) _ _
  have B0 : Hid (Below w.heap.size w W) := by show Below _ _ _; rw [hW]; exact ((Below.refl _ _).alloc (Nat.le_refl _) _).alloc (by simp) _
  have H := Lib.hid h
  have HS := Lib.hid hs
  have hb1 : p.bn ≤ 1048576 := hs.1.1
  have HW := Lib.hid hW
  clear h hs hW
  obtain ⟨⟨x0, x1, x2⟩, _⟩ := rowN3 R0.out
  rw [HW.out] at x0 x1 x2
  go_enter Tryz.func11, Tryz.ntmps11
  go_wp2_with fail
  rw [← HW.out]
  clear x0 x1 x2 HW
  refine (implPRight_any p la lk fa fk wa wk _ (H.out.below B0.out) HS.out).mono ?_
  rintro e w1 ⟨rfl, hb⟩
  have R1 := Lib.hid (nrow_below R0.out hb)
  have Q1 := Lib.hid (nrow_below Q0.out hb)
  have B1 : Hid (Below w.heap.size w w1) := B0.out.trans (hb.mono B0.out.size)
  clear hb R0 Q0 B0
  obtain ⟨⟨x0, x1, x2⟩, _⟩ := rowN3 R1.out
  obtain ⟨⟨y0, y1, y2⟩, z0, z1, z2⟩ := rowN3 Q1.out
  have hl := Q1.out.lt
  by_cases k : Pg.Right p
  · rw [dB_tt k]
    have HE := Lib.hid (Cy.start_yes k)
    clear k
    go_wp2_with fail
    clear x0 x1 x2 y0 y1 y2 z0 z1 z2 hl
    refine (still_any p.bn hb1 _).mono ?_
    rintro e w2 ⟨⟨a, k, b, l, rfl, hO⟩, hb⟩
    have Q2 := Lib.hid (nrow_below Q1.out hb)
    have B2 : Hid (Below w.heap.size w w2) := B1.out.trans (hb.mono B1.out.size)
    have O2 := Lib.hid hO
    have HL := Lib.hid Q1.out.lt
    obtain ⟨⟨y0, y1, y2⟩, z0, z1, z2⟩ := rowN3 Q2.out
    have hl := Q2.out.lt
    have QP := Lib.hid (rowN_put (rowN_put (rowN_put Q2.out 0 (.slice a p.bn k) (by simp)) 1 (.slice b p.bn l) (by simp)) 2 (.bool false) (by simp))
    clear hb hO Q1 B1
    go_wp2_with fail
    refine bodyPost_ret (v := .agg #[.slice a p.bn k, .slice b p.bn l, .bool false]) (by
      obtain ⟨⟨x0, x1, x2⟩, _⟩ := rowN3 QP.out
      simp only [results, Tryz.results11]
      simp [go_sem, x0, x1, x2]) rfl ⟨?_, ?_⟩
    · rw [HE.out]
      refine ⟨a, k, b, l, rfl, (O2.out.keep fun j e h1 h2 => ?_).low (Nat.le_trans (Nat.le_succ _) (Nat.le_of_lt HL.out))⟩
      have hne : j ≠ w.heap.size + 1 := by have := HL.out; omega
      exact (Below.heap_setCell _ _ _ _ hne).trans ((Below.heap_setCell _ _ _ _ hne).trans (Below.heap_setCell _ _ _ _ hne))
    · exact ((B2.out.setCell (p := ⟨w.heap.size + 1, 0, none⟩) (by show w.heap.size ≤ w.heap.size + 1; omega) _).setCell (p := ⟨w.heap.size + 1, 1, none⟩) (by show w.heap.size ≤ w.heap.size + 1; omega) _).setCell (p := ⟨w.heap.size + 1, 2, none⟩) (by show w.heap.size ≤ w.heap.size + 1; omega) _
  · rw [dB_ff k]
    have HE := Lib.hid (Cy.start_no k)
    clear k
    have QP := Lib.hid (rowN_put (rowN_put (rowN_put Q1.out 0 (.slice none 0 0) (by simp)) 1 (.slice none 0 0) (by simp)) 2 (.bool false) (by simp))
    go_wp2_with fail
    refine bodyPost_ret (v := .agg #[.slice none 0 0, .slice none 0 0, .bool false]) (by
      obtain ⟨⟨x0, x1, x2⟩, _⟩ := rowN3 QP.out
      simp only [results, Tryz.results11]
      simp [go_sem, x0, x1, x2]) rfl ⟨?_, ?_⟩
    · rw [HE.out]; exact LgEnd.nil
    · exact ((B1.out.setCell (p := ⟨w.heap.size + 1, 0, none⟩) (by show w.heap.size ≤ w.heap.size + 1; omega) _).setCell (p := ⟨w.heap.size + 1, 1, none⟩) (by show w.heap.size ≤ w.heap.size + 1; omega) _).setCell (p := ⟨w.heap.size + 1, 2, none⟩) (by show w.heap.size ≤ w.heap.size + 1; omega) _
set_option maxRecDepth 100000 in
set_option maxHeartbeats 4000000 in
theorem specStart_any (p : Pg.Prog) (la : Option Addr) (lk : Nat) (fa : Option Addr) (fk : Nat) (wa : Option Addr) (wk : Nat) (w : World) (h : PgAt p la fa wa w) (hs : PgSmall p) :
    Calls Tryz.prog 63 #[pgV p la lk fa fk wa wk] w fun e w' => LgEnd w.heap.size 2 (Cy.start p) e w' ∧ Below w.heap.size w w' := by
  obtain ⟨W, hW⟩ : ∃ W, W = (w.alloc (.cells #[.slice la p.bn lk, .slice fa p.on fk, .slice wa p.nn wk] 27)).alloc (.cells #[.slice none 0 0, .slice none 0 0, .bool false] 33) := ⟨_, rfl⟩
  have R0 : Hid (W.rowIs w.heap.size 27 3 (rowN (pgL p la lk fa fk wa wk))) := by show World.rowIs _ _ _ _ _; rw [hW]; exact nrow_below (rowN_alloc w _ _) (nbel_alloc _ _)
  have Q0 : Hid (W.rowIs (w.heap.size + 1) 33 3 (rowN [.slice none 0 0, .slice none 0 0, .bool false])) := by show World.rowIs _ _ _ _ _; rw [hW]; exact rowN_alloc' (by simp) _ _
  have B0 : Hid (Below w.heap.size w W) := by show Below _ _ _; rw [hW]; exact ((Below.refl _ _).alloc (Nat.le_refl _) _).alloc (by simp) _
  have H := Lib.hid h
  have HS := Lib.hid hs
  have hb1 : p.bn ≤ 1048576 := hs.1.1
  have HW := Lib.hid hW
  clear h hs hW
  obtain ⟨⟨x0, x1, x2⟩, _⟩ := rowN3 R0.out
  rw [HW.out] at x0 x1 x2
  go_enter Tryz.func63, Tryz.ntmps63
  go_wp2_with fail
  rw [← HW.out]
  clear x0 x1 x2 HW
  refine (specPRight_any p la lk fa fk wa wk _ (H.out.below B0.out) HS.out).mono ?_
  rintro e w1 ⟨rfl, hb⟩
  have R1 := Lib.hid (nrow_below R0.out hb)
  have Q1 := Lib.hid (nrow_below Q0.out hb)
  have B1 : Hid (Below w.heap.size w w1) := B0.out.trans (hb.mono B0.out.size)
  clear hb R0 Q0 B0
  obtain ⟨⟨x0, x1, x2⟩, _⟩ := rowN3 R1.out
  obtain ⟨⟨y0, y1, y2⟩, z0, z1, z2⟩ := rowN3 Q1.out
  have hl := Q1.out.lt
  by_cases k : Pg.Right p
  · rw [dB_tt k]
    have HE := Lib.hid (Cy.start_yes k)
    clear k
    have hmk := mk_i64 p.bn hb1
    have hl0 := R1.out.lt
    go_wp2_with fail
    go_region
    · obtain ⟨V, hV⟩ : ∃ V, V = ((w1.setCell ⟨w.heap.size + 1, 0, none⟩ (.slice (some ⟨w1.heap.size, 0, none⟩) p.bn p.bn)).setCell ⟨w.heap.size + 1, 1, none⟩ (.slice (some ⟨w1.heap.size + 1, 0, none⟩) p.bn p.bn)).setCell ⟨w.heap.size + 1, 2, none⟩ (.bool false) := ⟨_, rfl⟩
      have HV := Lib.hid hV
      have QP : Hid (V.rowIs (w.heap.size + 1) 33 3 (rowN [(.slice (some ⟨w1.heap.size, 0, none⟩) p.bn p.bn), (.slice (some ⟨w1.heap.size + 1, 0, none⟩) p.bn p.bn), .bool false])) := by show World.rowIs _ _ _ _ _; rw [hV]; exact (rowN_put (rowN_put (rowN_put Q1.out 0 (.slice (some ⟨w1.heap.size, 0, none⟩) p.bn p.bn) (by simp)) 1 (.slice (some ⟨w1.heap.size + 1, 0, none⟩) p.bn p.bn) (by simp)) 2 (.bool false) (by simp))
      have BV : Hid (Below w.heap.size w V) := by show Below _ _ _; rw [hV]; exact ((B1.out.setCell (p := ⟨w.heap.size + 1, 0, none⟩) (by show w.heap.size ≤ w.heap.size + 1; omega) _).setCell (p := ⟨w.heap.size + 1, 1, none⟩) (by show w.heap.size ≤ w.heap.size + 1; omega) _).setCell (p := ⟨w.heap.size + 1, 2, none⟩) (by show w.heap.size ≤ w.heap.size + 1; omega) _
      have sV : V.heap.size = w1.heap.size := by rw [hV]; simp
      have TW := Lib.hid (two0 p.bn w1.heap.size V 2 sV)
      rw [← HV.out]
      have HL := Lib.hid hl
      have SV := Lib.hid sV
      clear hV sV hl hl0 hmk x0 x1 x2 y0 y1 y2 z0 z1 z2 HV
      generalize ((V.alloc (.cells (madeCells #[.int .i64 0] p.bn) 2)).alloc (.cells (madeCells #[.int .i64 0] p.bn) 2)).drew = Z at *
      go_wp2_with fail
      have HBV : Below V.heap.size V Z := by rw [SV.out]; exact TW.out.old
      refine bodyPost_ret (v := .agg #[(.slice (some ⟨w1.heap.size, 0, none⟩) p.bn p.bn), (.slice (some ⟨w1.heap.size + 1, 0, none⟩) p.bn p.bn), .bool false]) (by
        obtain ⟨⟨x0, x1, x2⟩, _⟩ := rowN3 (nrow_below QP.out HBV)
        simp only [results, Tryz.results63]
        simp [go_sem, x0, x1, x2]) rfl ⟨?_, BV.out.trans (TW.out.old.mono (by have := B1.out.size; omega))⟩
      rw [HE.out]
      have := B1.out.size
      exact ⟨_, _, _, _, rfl, ⟨Or.inr ⟨_, rfl, by omega, TW.out.t⟩, Or.inr ⟨_, rfl, by omega, TW.out.c⟩, fun k e e' => by have q := e.trans e'.symm; simp at q⟩⟩
    · obtain ⟨V, hV⟩ : ∃ V, V = ((w1.setCell ⟨w.heap.size + 1, 0, none⟩ (.slice (some ⟨w1.heap.size + 1, 0, none⟩) p.bn p.bn)).setCell ⟨w.heap.size + 1, 1, none⟩ (.slice (some ⟨w1.heap.size, 0, none⟩) p.bn p.bn)).setCell ⟨w.heap.size + 1, 2, none⟩ (.bool false) := ⟨_, rfl⟩
      have HV := Lib.hid hV
      have QP : Hid (V.rowIs (w.heap.size + 1) 33 3 (rowN [(.slice (some ⟨w1.heap.size + 1, 0, none⟩) p.bn p.bn), (.slice (some ⟨w1.heap.size, 0, none⟩) p.bn p.bn), .bool false])) := by show World.rowIs _ _ _ _ _; rw [hV]; exact (rowN_put (rowN_put (rowN_put Q1.out 0 (.slice (some ⟨w1.heap.size + 1, 0, none⟩) p.bn p.bn) (by simp)) 1 (.slice (some ⟨w1.heap.size, 0, none⟩) p.bn p.bn) (by simp)) 2 (.bool false) (by simp))
      have BV : Hid (Below w.heap.size w V) := by show Below _ _ _; rw [hV]; exact ((B1.out.setCell (p := ⟨w.heap.size + 1, 0, none⟩) (by show w.heap.size ≤ w.heap.size + 1; omega) _).setCell (p := ⟨w.heap.size + 1, 1, none⟩) (by show w.heap.size ≤ w.heap.size + 1; omega) _).setCell (p := ⟨w.heap.size + 1, 2, none⟩) (by show w.heap.size ≤ w.heap.size + 1; omega) _
      have sV : V.heap.size = w1.heap.size := by rw [hV]; simp
      have TW := Lib.hid (two0 p.bn w1.heap.size V 2 sV)
      rw [← HV.out]
      have HL := Lib.hid hl
      have SV := Lib.hid sV
      clear hV sV hl hl0 hmk x0 x1 x2 y0 y1 y2 z0 z1 z2 HV
      generalize ((V.alloc (.cells (madeCells #[.int .i64 0] p.bn) 2)).alloc (.cells (madeCells #[.int .i64 0] p.bn) 2)).drew = Z at *
      go_wp2_with fail
      have HBV : Below V.heap.size V Z := by rw [SV.out]; exact TW.out.old
      refine bodyPost_ret (v := .agg #[(.slice (some ⟨w1.heap.size + 1, 0, none⟩) p.bn p.bn), (.slice (some ⟨w1.heap.size, 0, none⟩) p.bn p.bn), .bool false]) (by
        obtain ⟨⟨x0, x1, x2⟩, _⟩ := rowN3 (nrow_below QP.out HBV)
        simp only [results, Tryz.results63]
        simp [go_sem, x0, x1, x2]) rfl ⟨?_, BV.out.trans (TW.out.old.mono (by have := B1.out.size; omega))⟩
      rw [HE.out]
      have := B1.out.size
      exact ⟨_, _, _, _, rfl, ⟨Or.inr ⟨_, rfl, by omega, TW.out.c⟩, Or.inr ⟨_, rfl, by omega, TW.out.t⟩, fun k e e' => by have q := e.trans e'.symm; simp at q⟩⟩
  · rw [dB_ff k]
    have HE := Lib.hid (Cy.start_no k)
    clear k
    have QP := Lib.hid (rowN_put (rowN_put (rowN_put Q1.out 0 (.slice none 0 0) (by simp)) 1 (.slice none 0 0) (by simp)) 2 (.bool false) (by simp))
    go_wp2_with fail
    refine bodyPost_ret (v := .agg #[.slice none 0 0, .slice none 0 0, .bool false]) (by
      obtain ⟨⟨x0, x1, x2⟩, _⟩ := rowN3 QP.out
      simp only [results, Tryz.results63]
      simp [go_sem, x0, x1, x2]) rfl ⟨?_, ?_⟩
    · rw [HE.out]; exact LgEnd.nil
    · exact ((B1.out.setCell (p := ⟨w.heap.size + 1, 0, none⟩) (by show w.heap.size ≤ w.heap.size + 1; omega) _).setCell (p := ⟨w.heap.size + 1, 1, none⟩) (by show w.heap.size ≤ w.heap.size + 1; omega) _).setCell (p := ⟨w.heap.size + 1, 2, none⟩) (by show w.heap.size ≤ w.heap.size + 1; omega) _
end Go.Proofs.YtgkdnpnnmmpnmaaGreatDoor
