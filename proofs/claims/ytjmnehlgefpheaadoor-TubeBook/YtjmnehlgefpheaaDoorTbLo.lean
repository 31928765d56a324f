/-
  The laws' comparison and marks of an answer of a push or of a run.
-/
import Derived.Test.YtjmnehlgefpheaaDoorTbLs
namespace Go.Proofs.YtjmnehlgefpheaaDoor
open Go.RowKit Go.Deep

set_option maxRecDepth 100000 in
set_option maxHeartbeats 4000000 in
theorem eqTubeOut_same (r : Int) (a b p q : Option Addr) (n ka kb m kp kq : Nat) (c : Int) (f g : Nat → Int) (w : World) (h1 : IsAt a (n * 3) f w) (h2 : IsAt b (n * 3) f w) (h3 : IsAt p (m * 3) g w) (h4 : IsAt q (m * 3) g w) (hn : n ≤ 1048576) (hm : m ≤ 1048576) :
    Calls Tryd.prog 19 #[toV r a n ka p m kp c, toV r b n kb q m kq c] w fun e w' => e = .returned (.bool true) ∧ Below w.heap.size w w' := by
  obtain ⟨W, hW⟩ : ∃ W, W = (w.alloc (.cells #[.int .i64 r, .slice a n ka, .slice p m kp, .int .i64 c] 29)).alloc (.cells #[.int .i64 r, .slice b n kb, .slice q m kq, .int .i64 c] 29) := ⟨_, rfl⟩
  have hB : Below w.heap.size w W := by rw [hW]; exact ((Below.refl _ _).alloc (Nat.le_refl _) _).alloc (by simp) _
  have HRA : Hid (W.rowIs w.heap.size 29 4 (rowN (toL r a n ka p m kp c))) := by show W.rowIs _ _ _ _; rw [hW]; exact nrow_below (rowN_alloc w _ _) (nbel_alloc _ _)
  have HRB : Hid (W.rowIs (w.heap.size + 1) 29 4 (rowN (toL r b n kb q m kq c))) := by show W.rowIs _ _ _ _; rw [hW]; exact rowN_alloc' (by simp) _ _
  have n4 : (c != c) = false := by simp
  have HB := Lib.hid hB
  have H1 := Lib.hid (h1.below hB)
  have H2 := Lib.hid (h2.below hB)
  have H3 := Lib.hid (h3.below hB)
  have H4 := Lib.hid (h4.below hB)
  obtain ⟨⟨x0, x1, x2, x3⟩, _⟩ := rowN4 HRA.out
  obtain ⟨⟨y0, y1, y2, y3⟩, _⟩ := rowN4 HRB.out
  rw [hW] at x0 x1 x2 x3 y0 y1 y2 y3
  have HW := Lib.hid hW
  clear hW hB h1 h2 h3 h4
  go_enter Tryd.func19, Tryd.ntmps19
  go_wp2_with fail
  rw [← HW.out]
  clear HW x0 x1 x2 x3 y0 y1 y2 y3
  refine (eqTube_same r a b n ka kb f _ H1.out H2.out hn).mono ?_
  rintro e w1 ⟨rfl, hb⟩
  have HRA1 := Lib.hid (nrow_below HRA.out hb)
  have HRB1 := Lib.hid (nrow_below HRB.out hb)
  have HB1 : Hid (Below w.heap.size w w1) := HB.out.trans (hb.mono HB.out.size)
  have H31 := Lib.hid (H3.out.below hb)
  have H41 := Lib.hid (H4.out.below hb)
  clear hb HRA HRB HB
  obtain ⟨⟨x0, x1, x2, x3⟩, _⟩ := rowN4 HRA1.out
  obtain ⟨⟨y0, y1, y2, y3⟩, _⟩ := rowN4 HRB1.out
  go_wp2_with fail
  refine (neqParcelS_same p q m kp kq g _ H31.out H41.out hm).mono ?_
  rintro e w2 ⟨rfl, hb⟩
  have HB2 : Hid (Below w.heap.size w w2) := HB1.out.trans (hb.mono HB1.out.size)
  have HRA2 := Lib.hid (nrow_below HRA1.out hb)
  have HRB2 := Lib.hid (nrow_below HRB1.out hb)
  clear hb x0 x1 x2 x3 y0 y1 y2 y3
  obtain ⟨⟨x0, x1, x2, x3⟩, _⟩ := rowN4 HRA2.out
  obtain ⟨⟨y0, y1, y2, y3⟩, _⟩ := rowN4 HRB2.out
  go_wp2_with fail
  go_ret
  exact ⟨rfl, HB2.out⟩
set_option maxRecDepth 100000 in
set_option maxHeartbeats 4000000 in
theorem markTubeOut_any (lo hi : Nat) (r : Int) (a : Option Addr) (n c : Nat) (f : Nat → Int) (p : Option Addr) (m d : Nat) (g : Nat → Int) (x : Int) (w : World) (h : TwL lo hi a n c f p m d g w) (hn : n ≤ 1048576) (hm : m ≤ 1048576) :
    Calls Tryd.prog 22 #[toV r a n c p m d x, .int .i64 1] w fun e w' => e = .returned (.int .i64 ((1 + n * 3 + m * 3 : Nat) : Int)) ∧ TwL lo hi a n c (mk1 1) p m d (mk1 (1 + n * 3)) w' ∧ (∀ k, k < w.heap.size → a ≠ some ⟨k, 0, none⟩ → p ≠ some ⟨k, 0, none⟩ → w'.heap[k]? = w.heap[k]?) ∧ (w'.os = w.os ∧ w'.tape = w.tape ∧ w'.output = w.output ∧ w.heap.size ≤ w'.heap.size) := by
  obtain ⟨W, hW⟩ : ∃ W, W = w.alloc (.cells #[.int .i64 r, .slice a n c, .slice p m d, .int .i64 x] 29) := ⟨_, rfl⟩
  have hB : Below w.heap.size w W := by rw [hW]; exact nbel_alloc _ _
  have HRA : Hid (W.rowIs w.heap.size 29 4 (rowN (toL r a n c p m d x))) := by show W.rowIs _ _ _ _; rw [hW]; exact rowN_alloc w _ _
  have HB := Lib.hid hB
  have H0 := Lib.hid h
  have HX := Lib.hid (h.x.below hB)
  have HY := Lib.hid (h.y.below hB)
  obtain ⟨⟨x0, x1, x2, x3⟩, _⟩ := rowN4 HRA.out
  rw [hW] at x0 x1 x2 x3
  have HW := Lib.hid hW
  clear hW hB h
  go_enter Tryd.func22, Tryd.ntmps22
  go_wp2_with fail
  rw [← HW.out]
  clear HW x0 x1 x2 x3
  refine (markTube_any 0 r a n c 1 f _ HX.out hn (by omega)).mono ?_
  rintro e w1 ⟨rfl, h1, o1⟩
  have F1 := Lib.hid h1
  have ON1 := Lib.hid o1
  have G1 : Hid (OwL 38 0 (m * 3) p d g w1) := HY.out.keep (fun k e hk => o1.block k hk (fun e2 => H0.out.ne k e2 e))
  have RA1 := Lib.hid (HRA.out.of_block (o1.block _ HRA.out.lt (fun e => by have := (H0.out.x.lt e).2; omega)))
  obtain ⟨Q, hQ⟩ : ∃ Q : Nat, Q = 1 + n * 3 := ⟨_, rfl⟩
  rw [← hQ]
  have HQ := Lib.hid hQ
  have hQ2 : Q ≤ 3145729 := by omega
  clear h1 o1 hQ
  obtain ⟨⟨x0, x1, x2, x3⟩, _⟩ := rowN4 RA1.out
  go_wp2_with fail
  refine (nmarkPs_any 0 m d Q p g _ G1.out (fun e => G1.out.none_ e) hm (by omega)).mono ?_
  rintro e w2 ⟨rfl, h2, o2⟩
  have F2 := Lib.hid h2
  have ON2 := Lib.hid o2
  clear h2 o2 x0 x1 x2 x3
  go_wp2_with fail
  go_ret
  have o1 := ON1.out
  have o2 := ON2.out
  have b0 := HB.out
  have hq := HQ.out
  have s0 := b0.size
  have s1 := o1.size
  refine ⟨by rw [hq]; rfl, ⟨F1.out.keep (fun k e hk => o2.block k hk (fun e2 => H0.out.ne k e e2)), by rw [← hq]; exact F2.out, H0.out.bx, H0.out.by_, H0.out.ne⟩, fun k hk h1 h2 => (o2.block k (by omega) h2).trans ((o1.block k (by omega) h1).trans (b0.block k hk)), o2.os.trans (o1.os.trans b0.os), o2.tape.trans (o1.tape.trans b0.tape), o2.output.trans (o1.output.trans b0.output), by have := o2.size; omega⟩
set_option maxRecDepth 100000 in
set_option maxHeartbeats 4000000 in
theorem heldTubeOut_any (lo hi : Nat) (r : Int) (a : Option Addr) (n c : Nat) (p : Option Addr) (m d : Nat) (x : Int) (w : World) (h : TwL lo hi a n c (mk1 1) p m d (mk1 (1 + n * 3)) w) (hn : n ≤ 1048576) (hm : m ≤ 1048576) :
    Calls Tryd.prog 23 #[toV r a n c p m d x, .int .i64 1] w fun e w' => e = .returned (.int .i64 ((1 + n * 3 + m * 3 : Nat) : Int)) ∧ Below w.heap.size w w' := by
  obtain ⟨W, hW⟩ : ∃ W, W = w.alloc (.cells #[.int .i64 r, .slice a n c, .slice p m d, .int .i64 x] 29) := ⟨_, rfl⟩
  have hB : Below w.heap.size w W := by rw [hW]; exact nbel_alloc _ _
  have HRA : Hid (W.rowIs w.heap.size 29 4 (rowN (toL r a n c p m d x))) := by show W.rowIs _ _ _ _; rw [hW]; exact rowN_alloc w _ _
  have HB := Lib.hid hB
  have HX := Lib.hid (h.x.below hB)
  have HY := Lib.hid (h.y.below hB)
  obtain ⟨⟨x0, x1, x2, x3⟩, _⟩ := rowN4 HRA.out
  rw [hW] at x0 x1 x2 x3
  have HW := Lib.hid hW
  clear hW hB h
  go_enter Tryd.func23, Tryd.ntmps23
  go_wp2_with fail
  rw [← HW.out]
  clear HW x0 x1 x2 x3
  refine (heldTube_any 0 r a n c 1 _ HX.out hn (by omega)).mono ?_
  rintro e w1 ⟨rfl, hb⟩
  have HB1 : Hid (Below w.heap.size w w1) := HB.out.trans (hb.mono HB.out.size)
  have RA1 := Lib.hid (nrow_below HRA.out hb)
  obtain ⟨Q, hQ⟩ : ∃ Q : Nat, Q = 1 + n * 3 := ⟨_, rfl⟩
  rw [← hQ]
  have HY1 : Hid (OwL 38 0 (m * 3) p d (mk1 Q) w1) := by show OwL _ _ _ _ _ _ _; rw [hQ]; exact HY.out.below hb
  have HQ := Lib.hid hQ
  have hQ2 : Q ≤ 3145729 := by omega
  have hz : ¬ (Q : Int) < 0 := by omega
  clear hb hQ
  obtain ⟨⟨x0, x1, x2, x3⟩, _⟩ := rowN4 RA1.out
  go_wp2_with fail
  refine (nheldPs_any 0 m d Q p _ HY1.out hm (by omega)).mono ?_
  rintro e w2 ⟨rfl, e2⟩
  subst w2
  obtain ⟨R, hR⟩ : ∃ R : Nat, R = Q + m * 3 := ⟨_, rfl⟩
  rw [← hR]
  have HR := Lib.hid hR
  have hz2 : ¬ (R : Int) < 0 := by omega
  clear hR x0 x1 x2 x3
  go_wp2_with fail
  go_ret
  exact ⟨by rw [HR.out, HQ.out]; rfl, HB1.out⟩
end Go.Proofs.YtjmnehlgefpheaaDoor
