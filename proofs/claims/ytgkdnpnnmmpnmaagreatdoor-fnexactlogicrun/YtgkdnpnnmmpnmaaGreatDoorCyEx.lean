/-
  A Logic and an answer of a cycle: converted, sized, compared, marked, found again.
-/
import Derived.Test.YtgkdnpnnmmpnmaaGreatDoorNtEx1
import Derived.Test.YtgkdnpnnmmpnmaaGreatDoorCyMem
namespace Go.Proofs.YtgkdnpnnmmpnmaaGreatDoor
open Go.RowKit Go.Deep

theorem cyhs (w : World) (p g : Nat) (hp : g ≠ p) (i : Nat) (a : Value) : (w.setCell ⟨p, i, none⟩ a).heap[g]? = w.heap[g]? := Below.heap_setCell _ _ _ _ hp
set_option maxRecDepth 100000 in
set_option maxHeartbeats 8000000 in
theorem toLogic_any (s : Cy.Lg) (a : Option Addr) (k : Nat) (b : Option Addr) (l : Nat) (w : World) (h : LgIn s a b w) (hs : LgSmall s) :
    Calls Tryz.prog 27 #[lgV s a k b l] w fun e w' => (∃ ga gb, e = .returned (lgV s (some ⟨ga, 0, none⟩) s.n (some ⟨gb, 0, none⟩) s.m) ∧ LgO 2 w.heap.size s.n s.n s.m s.m (some ⟨ga, 0, none⟩) (some ⟨gb, 0, none⟩) s.T s.C w') ∧ Below w.heap.size w w' := by
  obtain ⟨W, hW⟩ : ∃ W, W = ((w.alloc (.cells (lgA s a k b l) 57)).alloc (.cells #[.slice none 0 0, .slice none 0 0, .bool false] 33)).alloc (.cells #[.slice none 0 0, .slice none 0 0, .bool false] 33) := ⟨_, rfl⟩
  have hsz : W.heap.size = w.heap.size + 3 := by rw [hW]; simp
  have hB : Below w.heap.size w W := by rw [hW]; exact (((Below.refl _ _).alloc (Nat.le_refl _) _).alloc (by simp) _).alloc (by simp; omega) _
  have RA : W.rowIs w.heap.size 57 3 (rowN (lgL s a k b l)) := by
    rw [hW]; exact nrow_below (nrow_below (rowN_alloc w _ _) (nbel_alloc _ _)) (nbel_alloc _ _)
  have RO : W.rowIs (w.heap.size + 1) 33 3 (rowN [.slice none 0 0, .slice none 0 0, .bool false]) := by
    rw [hW]; exact nrow_below (rowN_alloc' (by simp) _ _) (nbel_alloc _ _)
  have RP : W.rowIs (w.heap.size + 1 + 1) 33 3 (rowN [.slice none 0 0, .slice none 0 0, .bool false]) := by
    rw [hW]; exact rowN_alloc' (by simp) _ _
  have HW := Lib.hid hW
  have HB := Lib.hid hB
  have H := Lib.hid h
  have HS := Lib.hid hs
  have HRA := Lib.hid RA
  have HRO := Lib.hid RO
  have HRP := Lib.hid RP
  have HSZ := Lib.hid hsz
  clear hW hB h hs RA RO RP hsz
  go_enter Tryz.func27, Tryz.ntmps27
  go_wp2_with fail
  rw [← HW.out]
  refine (ntoInt64S_any a s.n k s.T _ (H.out.t.below HB.out) HS.out.1).mono ?_
  rintro e w1 ⟨⟨rfl, hk1⟩, hb1⟩
  have RA1 := nrow_below HRA.out hb1
  have RO1 := nrow_below HRO.out hb1
  have RP1 := nrow_below HRP.out hb1
  have HB1 : Hid (Below w.heap.size w w1) := HB.out.trans (hb1.mono HB.out.size)
  have HK1 := Lib.hid hk1
  obtain ⟨⟨a0, a1, a2⟩, _⟩ := rowN3 RA1
  obtain ⟨⟨p0, p1, p2⟩, z0, z1, z2⟩ := rowN3 RP1
  have hl1 : w.heap.size + 1 + 1 < w1.heap.size := RP1.lt
  obtain ⟨W2, hW2⟩ : ∃ W2, W2 = w1.setCell ⟨w.heap.size + 1 + 1, 0, none⟩ (.slice (some ⟨W.heap.size, 0, none⟩) s.n s.n) := ⟨_, rfl⟩
  have HW2 := Lib.hid hW2
  have HRA2 : Hid (W2.rowIs w.heap.size 57 3 (rowN (lgL s a k b l))) := by
    show W2.rowIs _ _ _ _
    rw [hW2]; exact nrow_set RA1 (p := ⟨w.heap.size + 1 + 1, 0, none⟩) (by show w.heap.size ≠ w.heap.size + 1 + 1; omega) _
  have HRO2 : Hid (W2.rowIs (w.heap.size + 1) 33 3 (rowN [.slice none 0 0, .slice none 0 0, .bool false])) := by
    show W2.rowIs _ _ _ _
    rw [hW2]; exact nrow_set RO1 (p := ⟨w.heap.size + 1 + 1, 0, none⟩) (by show w.heap.size + 1 ≠ w.heap.size + 1 + 1; omega) _
  have HRP2 : Hid (W2.rowIs (w.heap.size + 1 + 1) 33 3 (rowN [.slice (some ⟨W.heap.size, 0, none⟩) s.n s.n, .slice none 0 0, .bool false])) := by
    show W2.rowIs _ _ _ _
    rw [hW2]; exact rowN_put RP1 0 _ (by simp)
  have HB2 : Hid (Below w.heap.size w W2) := by
    show Below _ _ _
    rw [hW2]; exact HB1.out.setCell (p := ⟨w.heap.size + 1 + 1, 0, none⟩) (by show w.heap.size ≤ w.heap.size + 1 + 1; omega) _
  have HK2 : Hid (IsBlk 2 W.heap.size s.n s.T W2) := by
    show IsBlk _ _ _ _ _
    rw [hW2]; exact HK1.out.block (cyhs _ _ _ (by have := HSZ.out; omega) _ _)
  clear hW2 RA1 RO1 RP1 hb1 hk1 HK1 HB1
  go_wp2_with fail
  rw [← HW2.out]
  refine (ntoInt64S_any b s.m l s.C _ (H.out.c.below HB2.out) HS.out.2).mono ?_
  rintro e w2 ⟨⟨rfl, hk2⟩, hb2⟩
  clear a0 a1 a2 p0 p1 p2 z0 z1 z2 hl1
  have RA1 := nrow_below HRA2.out hb2
  have RO1 := nrow_below HRO2.out hb2
  have RP1 := nrow_below HRP2.out hb2
  have HB3 : Hid (Below w.heap.size w w2) := HB2.out.trans (hb2.mono HB2.out.size)
  have HKA : Hid (IsBlk 2 W.heap.size s.n s.T w2) := HK2.out.below hb2
  have HKB := Lib.hid hk2
  have HLW : Hid (W.heap.size < W2.heap.size) := HK2.out.lt
  obtain ⟨⟨a0, a1, a2⟩, _⟩ := rowN3 RA1
  obtain ⟨⟨p0, p1, p2⟩, z0, z1, z2⟩ := rowN3 RP1
  obtain ⟨⟨o0, o1, o2⟩, y0, y1, y2⟩ := rowN3 RO1
  have hl2 : w.heap.size + 1 + 1 < w2.heap.size := RP1.lt
  have HRO5 := Lib.hid RO1
  clear RA1 RO1 RP1 hb2 hk2 HK2 HB2 HRA2 HRO2 HRP2
  go_wp2_with fail
  have s3 := HSZ.out
  have s4 := HLW.out
  refine bodyPost_ret (v := lgV s (some ⟨W.heap.size, 0, none⟩) s.n (some ⟨W2.heap.size, 0, none⟩) s.m) ?_ rfl ⟨⟨_, _, rfl, ⟨Or.inr ⟨_, rfl, by omega, HKA.out.block ?_⟩, Or.inr ⟨_, rfl, by omega, HKB.out.block ?_⟩, fun k e e' => by have q := e.trans e'.symm; simp at q <;> omega⟩⟩, ?_⟩
  · obtain ⟨⟨x0, x1, x2⟩, _⟩ := rowN3 (rowN_put (rowN_put (rowN_put (nrow_set (nrow_set HRO5.out (p := ⟨w.heap.size + 1 + 1, 1, none⟩) (by show w.heap.size + 1 ≠ w.heap.size + 1 + 1; omega) (.slice (some ⟨W2.heap.size, 0, none⟩) s.m s.m)) (p := ⟨w.heap.size + 1 + 1, 2, none⟩) (by show w.heap.size + 1 ≠ w.heap.size + 1 + 1; omega) (.bool s.fl)) 0 (.slice (some ⟨W.heap.size, 0, none⟩) s.n s.n) (by simp)) 1 (.slice (some ⟨W2.heap.size, 0, none⟩) s.m s.m) (by simp)) 2 (.bool s.fl) (by simp))
    simp only [results, Tryz.results27]
    simp [go_sem, x0, x1, x2]
  · repeat rw [cyhs _ _ _ (by omega)]
  · repeat rw [cyhs _ _ _ (by omega)]
  · exact ((((HB3.out.setCell (p := ⟨w.heap.size + 1 + 1, 1, none⟩) (by show w.heap.size ≤ w.heap.size + 1 + 1; omega) _).setCell (p := ⟨w.heap.size + 1 + 1, 2, none⟩) (by show w.heap.size ≤ w.heap.size + 1 + 1; omega) _).setCell (p := ⟨w.heap.size + 1, 0, none⟩) (by show w.heap.size ≤ w.heap.size + 1; omega) _).setCell (p := ⟨w.heap.size + 1, 1, none⟩) (by show w.heap.size ≤ w.heap.size + 1; omega) _).setCell (p := ⟨w.heap.size + 1, 2, none⟩) (by show w.heap.size ≤ w.heap.size + 1; omega) _
/-- What is left: below nought, or all is small. -/
def LgSz (s : Cy.Lg) (e : Ending) : Prop := ∃ z : Int, e = .returned (.int .i64 z) ∧ (z < 0 ∨ ((0 ≤ z ∧ z ≤ 1048576) ∧ LgSmall s))
set_option maxRecDepth 100000 in
set_option maxHeartbeats 2000000 in
theorem szLogic_any (s : Cy.Lg) (a : Option Addr) (k : Nat) (b : Option Addr) (l L : Nat) (w : World) (h1 : LgLens s) (hL : L ≤ 1048576) :
    Calls Tryz.prog 24 #[lgV s a k b l, .int .i64 (L : Int)] w fun e w' => LgSz s e ∧ Below w.heap.size w w' := by
  have hB := Lib.hid (nbel_alloc w (.cells (lgA s a k b l) 57))
  have hL1 := h1.1
  have hL2 := h1.2
  by_cases k1 : s.n ≤ L
  · have z1 : ¬ ((L - s.n : Nat) : Int) < 0 := by omega
    by_cases k2 : s.m ≤ L - s.n
    · have z2 : ¬ ((L - s.n - s.m : Nat) : Int) < 0 := by omega
      go_enter Tryz.func24, Tryz.ntmps24
      go_wp2_with fail
      refine (nszInt64_in a s.n k L _ k1 (by omega)).mono ?_
      rintro e w1 ⟨rfl, rfl⟩
      go_wp2_with fail
      refine (nszInt64_in b s.m l (L - s.n) _ k2 (by omega)).mono ?_
      rintro e w1 ⟨rfl, rfl⟩
      go_wp2_with fail
      go_ret
      exact ⟨⟨_, rfl, Or.inr ⟨by omega, by omega, by omega⟩⟩, hB.out⟩
    · go_enter Tryz.func24, Tryz.ntmps24
      go_wp2_with fail
      refine (nszInt64_in a s.n k L _ k1 (by omega)).mono ?_
      rintro e w1 ⟨rfl, rfl⟩
      go_wp2_with fail
      refine (nszInt64_over b s.m l (L - s.n) _ (by omega) (by omega) hL2).mono ?_
      rintro e w1 ⟨rfl, rfl⟩
      go_wp2_with fail
      go_ret
      exact ⟨⟨_, rfl, Or.inl (by omega)⟩, hB.out⟩
  · go_enter Tryz.func24, Tryz.ntmps24
    go_wp2_with fail
    refine (nszInt64_over a s.n k L _ (by omega) (by omega) hL1).mono ?_
    rintro e w1 ⟨rfl, rfl⟩
    go_wp2_with fail
    go_ret
    exact ⟨⟨_, rfl, Or.inl (by omega)⟩, hB.out⟩
set_option maxRecDepth 100000 in
set_option maxHeartbeats 4000000 in
theorem eqLogic_same (s : Cy.Lg) (a b a' b' : Option Addr) (k l k' l' : Nat) (w : World) (h1 : LgAt s a b w) (h2 : LgAt s a' b' w) (hs : LgSmall s) :
    Calls Tryz.prog 31 #[lgV s a k b l, lgV s a' k' b' l'] w fun e w' => e = .returned (.bool true) ∧ Below w.heap.size w w' := by
  obtain ⟨W, hW⟩ : ∃ W, W = (w.alloc (.cells (lgA s a k b l) 33)).alloc (.cells (lgA s a' k' b' l') 33) := ⟨_, rfl⟩
  have HB : Hid (Below w.heap.size w W) := by show Below _ _ _; rw [hW]; exact ((Below.refl _ _).alloc (Nat.le_refl _) _).alloc (by simp) _
  have HRA : Hid (W.rowIs w.heap.size 33 3 (rowN (lgL s a k b l))) := by show W.rowIs _ _ _ _; rw [hW]; exact nrow_below (rowN_alloc w _ _) (nbel_alloc _ _)
  have HRO : Hid (W.rowIs (w.heap.size + 1) 33 3 (rowN (lgL s a' k' b' l'))) := by show W.rowIs _ _ _ _; rw [hW]; exact rowN_alloc' (by simp) _ _
  have hfl : (s.fl != s.fl) = false := by simp
  have HW := Lib.hid hW
  have H1 := Lib.hid h1
  have H2 := Lib.hid h2
  have HS := Lib.hid hs
  clear hW h1 h2 hs
  go_enter Tryz.func31, Tryz.ntmps31
  go_wp2_with fail
  rw [← HW.out]
  refine (neqInt64S_same a a' s.n k k' s.T _ (H1.out.below HB.out).t (H2.out.below HB.out).t HS.out.1).mono ?_
  rintro e w1 ⟨rfl, hb1⟩
  obtain ⟨⟨x0, x1, x2⟩, _⟩ := rowN3 (nrow_below HRA.out hb1)
  obtain ⟨⟨y0, y1, y2⟩, _⟩ := rowN3 (nrow_below HRO.out hb1)
  have HB1 : Hid (Below w.heap.size w w1) := HB.out.trans (hb1.mono HB.out.size)
  have HRA1 := Lib.hid (nrow_below HRA.out hb1)
  have HRO1 := Lib.hid (nrow_below HRO.out hb1)
  clear hb1 HRA HRO
  go_wp2_with fail
  refine (neqInt64S_same b b' s.m l l' s.C _ (H1.out.below HB1.out).c (H2.out.below HB1.out).c HS.out.2).mono ?_
  rintro e w2 ⟨rfl, hb2⟩
  clear x0 x1 x2 y0 y1 y2
  obtain ⟨⟨x0, x1, x2⟩, _⟩ := rowN3 (nrow_below HRA1.out hb2)
  obtain ⟨⟨y0, y1, y2⟩, _⟩ := rowN3 (nrow_below HRO1.out hb2)
  have HB2 : Hid (Below w.heap.size w w2) := HB1.out.trans (hb2.mono HB1.out.size)
  clear hb2
  go_wp2_with fail
  go_ret
  exact ⟨rfl, HB2.out⟩
theorem markCy_any {B N c k : Nat} {a : Option Addr} {f : Nat → Int} (w : World) (h : CyO 2 B N a c f w) (hn : N ≤ 1048576) (hk : k ≤ 1073741824) :
    Calls Tryz.prog 35 #[.slice a N c, .int .i64 (k : Nat)] w fun e w' => e = .returned (.int .i64 ((k + N : Nat) : Int)) ∧ CyO 2 B N a c (mk1 k) w' ∧ OnlyA [a] w w' := by
  rcases h with ⟨rfl, rfl, rfl⟩ | ⟨g, rfl, h1, h2⟩
  · exact (nmarkInt64S_nil k w).mono (fun e w' ⟨he, hw⟩ => ⟨he, Or.inl ⟨rfl, rfl, rfl⟩, by rw [hw]; exact ⟨rfl, rfl, rfl, Nat.le_refl _, fun _ _ _ => rfl⟩⟩)
  · exact (nmarkInt64S_any g N c k f w h2 hn hk).mono (fun e w' ⟨he, hi, ho⟩ => ⟨he, Or.inr ⟨g, rfl, h1, hi⟩, ho.os, ho.tape, ho.output, ho.size, fun j hj hne => ho.block j hj (fun e => hne (some ⟨g, 0, none⟩) (by simp) (by rw [e]))⟩)
theorem heldCy_any {B N c k : Nat} {a : Option Addr} (w : World) (h : CyO 2 B N a c (mk1 k) w) (hn : N ≤ 1048576) (hk : k ≤ 1073741824) :
    Calls Tryz.prog 79 #[.slice a N c, .int .i64 (k : Nat)] w fun e w' => e = .returned (.int .i64 ((k + N : Nat) : Int)) ∧ w' = w := by
  rcases h with ⟨rfl, rfl, rfl⟩ | ⟨g, rfl, h1, h2⟩
  · exact nheldInt64S_nil k w
  · exact nheldInt64S_any g N c k w h2 hn hk
set_option maxRecDepth 100000 in
set_option maxHeartbeats 4000000 in
theorem markLogic_any (s : Cy.Lg) {B k l K : Nat} {a b : Option Addr} {f g : Nat → Int} (w : World) (h : LgO 2 B s.n k s.m l a b f g w) (hs : LgSmall s) (hk : K ≤ 536870912) :
    Calls Tryz.prog 34 #[lgV s a k b l, .int .i64 (K : Nat)] w fun e w' => e = .returned (.int .i64 ((K + s.n + s.m : Nat) : Int)) ∧ LgO 2 B s.n k s.m l a b (mk1 K) (mk1 (K + s.n)) w' ∧ OnlyA [a, b] w w' := by
  obtain ⟨W, hW⟩ : ∃ W, W = w.alloc (.cells (lgA s a k b l) 33) := ⟨_, rfl⟩
  have HB : Hid (Below w.heap.size w W) := by show Below _ _ _; rw [hW]; exact nbel_alloc _ _
  have HRA : Hid (W.rowIs w.heap.size 33 3 (rowN (lgL s a k b l))) := by show W.rowIs _ _ _ _; rw [hW]; exact rowN_alloc w _ _
  have H0 := Lib.hid h
  have H := Lib.hid (h.below HB.out)
  have HS := Lib.hid hs
  have HW := Lib.hid hW
  clear hW h hs
  go_enter Tryz.func34, Tryz.ntmps34
  go_wp2_with fail
  rw [← HW.out]
  refine (markCy_any _ H.out.t HS.out.1 (by omega)).mono ?_
  rintro e w1 ⟨rfl, ho1, on1⟩
  have RA1 : w1.rowIs w.heap.size 33 3 _ := HRA.out.of_block (on1.block _ HRA.out.lt (fun x hx e => by simp at hx; subst hx; have := (H0.out.t.lt e).2; omega))
  have G1 : Hid (CyO 2 B s.m b l g w1) := H.out.c.keep (fun k e _ hk => on1.block k hk (fun x hx e2 => by simp at hx; subst hx; exact H.out.ne k e2 e))
  have F1 := Lib.hid ho1
  have ON1 := Lib.hid on1
  obtain ⟨⟨x0, x1, x2⟩, _⟩ := rowN3 RA1
  clear ho1 on1 RA1
  obtain ⟨Q, hQ⟩ : ∃ Q : Nat, Q = K + s.n := ⟨_, rfl⟩
  rw [← hQ]
  have HQ := Lib.hid hQ
  have hQ2 : Q ≤ 537919488 := by have := HS.out.1; omega
  clear hQ
  go_wp2_with fail
  refine (markCy_any _ G1.out HS.out.2 (by omega)).mono ?_
  rintro e w2 ⟨rfl, ho2, on2⟩
  have F2 := Lib.hid ho2
  have ON2 := Lib.hid on2
  clear ho2 on2 x0 x1 x2
  go_wp2_with fail
  go_ret
  refine ⟨by rw [← HQ.out]; rfl, ⟨F1.out.keep (fun k e _ hk => ON2.out.block k hk (fun x hx e2 => by simp at hx; subst hx; exact H.out.ne k e e2)), by rw [← HQ.out]; exact F2.out, H.out.ne⟩, ?_⟩
  exact (OnlyA.of_below HB.out).trans ((ON1.out.wide (by simp)).trans (ON2.out.wide (by simp)))
set_option maxRecDepth 100000 in
set_option maxHeartbeats 4000000 in
theorem heldLogic_any (s : Cy.Lg) {B k l K : Nat} {a b : Option Addr} (w : World) (h : LgO 2 B s.n k s.m l a b (mk1 K) (mk1 (K + s.n)) w) (hs : LgSmall s) (hk : K ≤ 536870912) :
    Calls Tryz.prog 78 #[lgV s a k b l, .int .i64 (K : Nat)] w fun e w' => e = .returned (.int .i64 ((K + s.n + s.m : Nat) : Int)) ∧ Below w.heap.size w w' := by
  obtain ⟨W, hW⟩ : ∃ W, W = w.alloc (.cells (lgA s a k b l) 33) := ⟨_, rfl⟩
  have HB : Hid (Below w.heap.size w W) := by show Below _ _ _; rw [hW]; exact nbel_alloc _ _
  have HRA : Hid (W.rowIs w.heap.size 33 3 (rowN (lgL s a k b l))) := by show W.rowIs _ _ _ _; rw [hW]; exact rowN_alloc w _ _
  have H := Lib.hid (h.below HB.out)
  have HS := Lib.hid hs
  have HW := Lib.hid hW
  clear hW h hs
  obtain ⟨⟨x0, x1, x2⟩, _⟩ := rowN3 HRA.out
  go_enter Tryz.func78, Tryz.ntmps78
  go_wp2_with fail
  rw [← HW.out]
  refine (heldCy_any _ H.out.t HS.out.1 (by omega)).mono ?_
  rintro e w1 ⟨rfl, e1⟩
  subst w1
  obtain ⟨Q, hQ⟩ : ∃ Q : Nat, Q = K + s.n := ⟨_, rfl⟩
  rw [← hQ]
  have G : Hid (CyO 2 B s.m b l (mk1 Q) W) := by show CyO _ _ _ _ _ _ _; rw [hQ]; exact H.out.c
  have HQ := Lib.hid hQ
  have hQ2 : Q ≤ 537919488 := by have := HS.out.1; omega
  have hz : ¬ (Q : Int) < 0 := by omega
  clear hQ
  go_wp2_with fail
  refine (heldCy_any _ G.out HS.out.2 (by omega)).mono ?_
  rintro e w2 ⟨rfl, e2⟩
  subst w2
  obtain ⟨R, hR⟩ : ∃ R : Nat, R = Q + s.m := ⟨_, rfl⟩
  rw [← hR]
  have HR := Lib.hid hR
  have hz2 : ¬ (R : Int) < 0 := by omega
  clear hR
  go_wp2_with fail
  go_ret
  exact ⟨by rw [HR.out, HQ.out]; rfl, HB.out⟩
/-- The lists of an answer, compared. -/
structure CoAt (x : Cy.Ans) (a b c : Option Addr) (w : World) : Prop where
  s : LgAt x.s a b w
  o : IsAt c x.n x.O w
theorem CoAt.below {x : Cy.Ans} {a b c : Option Addr} {w w' : World} (h : CoAt x a b c w) (hb : Below w.heap.size w w') : CoAt x a b c w' := ⟨h.s.below hb, h.o.below hb⟩
theorem CoO.at_ {T : TypeId} {B k l q : Nat} {x : Cy.Ans} {a b c : Option Addr} {W : World} (h : CoO T B x.s.n k x.s.m l x.n q a b c x.s.T x.s.C x.O W) : CoAt x a b c W := ⟨⟨h.s.t.at_, h.s.c.at_⟩, h.o.at_⟩
def CoSmall (x : Cy.Ans) : Prop := LgSmall x.s ∧ x.n ≤ 1048576
set_option maxRecDepth 100000 in
set_option maxHeartbeats 4000000 in
theorem eqCycle_same (x : Cy.Ans) (a b c a' b' c' : Option Addr) (k l m k' l' m' : Nat) (w : World) (h1 : CoAt x a b c w) (h2 : CoAt x a' b' c' w) (hs : CoSmall x) :
    Calls Tryz.prog 29 #[coV x a k b l c m, coV x a' k' b' l' c' m'] w fun e w' => e = .returned (.bool true) ∧ Below w.heap.size w w' := by
  obtain ⟨W, hW⟩ : ∃ W, W = (w.alloc (.cells (coA x a k b l c m) 38)).alloc (.cells (coA x a' k' b' l' c' m') 38) := ⟨_, rfl⟩
  have HB : Hid (Below w.heap.size w W) := by show Below _ _ _; rw [hW]; exact ((Below.refl _ _).alloc (Nat.le_refl _) _).alloc (by simp) _
  have HRA : Hid (W.rowIs w.heap.size 38 5 (rowN (coL x a k b l c m))) := by show W.rowIs _ _ _ _; rw [hW]; exact nrow_below (rowN_alloc w _ _) (nbel_alloc _ _)
  have HRO : Hid (W.rowIs (w.heap.size + 1) 38 5 (rowN (coL x a' k' b' l' c' m'))) := by show W.rowIs _ _ _ _; rw [hW]; exact rowN_alloc' (by simp) _ _
  have hcd : (x.cd != x.cd) = false := by simp
  have HW := Lib.hid hW
  have H1 := Lib.hid h1
  have H2 := Lib.hid h2
  have HS := Lib.hid hs
  clear hW h1 h2 hs
  obtain ⟨⟨x0, x1, x2, x3, x4⟩, _⟩ := rowN5 HRA.out
  obtain ⟨⟨y0, y1, y2, y3, y4⟩, _⟩ := rowN5 HRO.out
  rw [HW.out] at x0 x1 x2 x3 x4 y0 y1 y2 y3 y4
  go_enter Tryz.func29, Tryz.ntmps29
  go_wp2_with fail
  rw [← HW.out]
  clear HW x0 x1 x2 x3 x4 y0 y1 y2 y3 y4
  refine (eqLogic_same x.s a b a' b' k l k' l' _ (H1.out.below HB.out).s (H2.out.below HB.out).s HS.out.1).mono ?_
  rintro e w1 ⟨rfl, hb1⟩
  obtain ⟨⟨x0, x1, x2, x3, x4⟩, _⟩ := rowN5 (nrow_below HRA.out hb1)
  obtain ⟨⟨y0, y1, y2, y3, y4⟩, _⟩ := rowN5 (nrow_below HRO.out hb1)
  have HB1 : Hid (Below w.heap.size w w1) := HB.out.trans (hb1.mono HB.out.size)
  have HRA1 := Lib.hid (nrow_below HRA.out hb1)
  have HRO1 := Lib.hid (nrow_below HRO.out hb1)
  clear hb1 HRA HRO
  go_wp2_with fail
  refine (neqInt64S_same c c' x.n m m' x.O _ (H1.out.below HB1.out).o (H2.out.below HB1.out).o HS.out.2).mono ?_
  rintro e w2 ⟨rfl, hb2⟩
  clear x0 x1 x2 x3 x4 y0 y1 y2 y3 y4
  obtain ⟨⟨x0, x1, x2, x3, x4⟩, _⟩ := rowN5 (nrow_below HRA1.out hb2)
  obtain ⟨⟨y0, y1, y2, y3, y4⟩, _⟩ := rowN5 (nrow_below HRO1.out hb2)
  have HB2 : Hid (Below w.heap.size w w2) := HB1.out.trans (hb2.mono HB1.out.size)
  clear hb2
  go_wp2_with fail
  go_ret
  exact ⟨rfl, HB2.out⟩
set_option maxRecDepth 100000 in
set_option maxHeartbeats 4000000 in
theorem markCycle_any (x : Cy.Ans) {B k l q : Nat} {a b c : Option Addr} {f g h' : Nat → Int} (w : World) (h : CoO 2 B x.s.n k x.s.m l x.n q a b c f g h' w) (hs : CoSmall x) :
    Calls Tryz.prog 36 #[coV x a k b l c q, .int .i64 1] w fun e w' => e = .returned (.int .i64 ((1 + x.s.n + x.s.m + x.n : Nat) : Int)) ∧ CoO 2 B x.s.n k x.s.m l x.n q a b c (mk1 1) (mk1 (1 + x.s.n)) (mk1 (1 + x.s.n + x.s.m)) w' ∧ OnlyA [a, b, c] w w' := by
  obtain ⟨W, hW⟩ : ∃ W, W = w.alloc (.cells (coA x a k b l c q) 38) := ⟨_, rfl⟩
  have HB : Hid (Below w.heap.size w W) := by show Below _ _ _; rw [hW]; exact nbel_alloc _ _
  have HRA : Hid (W.rowIs w.heap.size 38 5 (rowN (coL x a k b l c q))) := by show W.rowIs _ _ _ _; rw [hW]; exact rowN_alloc w _ _
  have H0 := Lib.hid h
  have H := Lib.hid (h.below HB.out)
  have HS := Lib.hid hs
  have HW := Lib.hid hW
  clear hW h hs
  obtain ⟨⟨x0, x1, x2, x3, x4⟩, _⟩ := rowN5 HRA.out
  rw [HW.out] at x0 x1 x2 x3 x4
  go_enter Tryz.func36, Tryz.ntmps36
  go_wp2_with fail
  rw [← HW.out]
  clear HW x0 x1 x2 x3 x4
  refine (markLogic_any (K := 1) x.s _ H.out.s HS.out.1 (by omega)).mono ?_
  rintro e w1 ⟨rfl, ho1, on1⟩
  have RA1 : w1.rowIs w.heap.size 38 5 _ := HRA.out.of_block (on1.block _ HRA.out.lt (fun y hy e => by
    simp at hy
    rcases hy with rfl | rfl
    · have := (H0.out.s.t.lt e).2; omega
    · have := (H0.out.s.c.lt e).2; omega))
  have G1 : Hid (CyO 2 B x.n c q h' w1) := H.out.o.keep (fun k e _ hk => on1.block k hk (fun y hy e2 => by
    simp at hy
    rcases hy with rfl | rfl
    · exact H.out.ne.1 k e2 e
    · exact H.out.ne.2 k e2 e))
  have F1 := Lib.hid ho1
  have ON1 := Lib.hid on1
  obtain ⟨⟨x0, x1, x2, x3, x4⟩, _⟩ := rowN5 RA1
  clear ho1 on1 RA1
  obtain ⟨Q, hQ⟩ : ∃ Q : Nat, Q = 1 + x.s.n + x.s.m := ⟨_, rfl⟩
  rw [← hQ]
  have HQ := Lib.hid hQ
  have hQ2 : Q ≤ 9437184 := by have h1 := HS.out.1.1; have h2 := HS.out.1.2; omega
  clear hQ
  go_wp2_with fail
  refine (markCy_any _ G1.out HS.out.2 (by omega)).mono ?_
  rintro e w2 ⟨rfl, ho2, on2⟩
  have F2 := Lib.hid ho2
  have ON2 := Lib.hid on2
  clear ho2 on2 x0 x1 x2 x3 x4
  go_wp2_with fail
  go_ret
  refine ⟨by rw [← HQ.out]; rfl, ⟨F1.out.keep (fun j e _ hk => ON2.out.block j hk (fun y hy e2 => by
    simp at hy; subst hy
    rcases e with e | e
    · exact H.out.ne.1 j e e2
    · exact H.out.ne.2 j e e2)), by rw [← HQ.out]; exact F2.out, H.out.ne⟩, ?_⟩
  exact (OnlyA.of_below HB.out).trans ((ON1.out.wide (fun y hy => by simp at hy; rcases hy with rfl | rfl <;> simp)).trans (ON2.out.wide (by simp)))
set_option maxRecDepth 100000 in
set_option maxHeartbeats 4000000 in
theorem heldCycle_any (x : Cy.Ans) {B k l q : Nat} {a b c : Option Addr} (w : World) (h : CoO 2 B x.s.n k x.s.m l x.n q a b c (mk1 1) (mk1 (1 + x.s.n)) (mk1 (1 + x.s.n + x.s.m)) w) (hs : CoSmall x) :
    Calls Tryz.prog 37 #[coV x a k b l c q, .int .i64 1] w fun e w' => e = .returned (.int .i64 ((1 + x.s.n + x.s.m + x.n : Nat) : Int)) ∧ Below w.heap.size w w' := by
  obtain ⟨W, hW⟩ : ∃ W, W = w.alloc (.cells (coA x a k b l c q) 38) := ⟨_, rfl⟩
  have HB : Hid (Below w.heap.size w W) := by show Below _ _ _; rw [hW]; exact nbel_alloc _ _
  have HRA : Hid (W.rowIs w.heap.size 38 5 (rowN (coL x a k b l c q))) := by show W.rowIs _ _ _ _; rw [hW]; exact rowN_alloc w _ _
  have H := Lib.hid (h.below HB.out)
  have HS := Lib.hid hs
  have HW := Lib.hid hW
  clear hW h hs
  obtain ⟨⟨x0, x1, x2, x3, x4⟩, _⟩ := rowN5 HRA.out
  rw [HW.out] at x0 x1 x2 x3 x4
  go_enter Tryz.func37, Tryz.ntmps37
  go_wp2_with fail
  rw [← HW.out]
  clear HW x0 x1 x2 x3 x4
  refine (heldLogic_any (K := 1) x.s _ H.out.s HS.out.1 (by omega)).mono ?_
  rintro e w1 ⟨rfl, hb1⟩
  have RA1 := nrow_below HRA.out hb1
  have HB1 : Hid (Below w.heap.size w w1) := HB.out.trans (hb1.mono HB.out.size)
  obtain ⟨⟨x0, x1, x2, x3, x4⟩, _⟩ := rowN5 RA1
  obtain ⟨Q, hQ⟩ : ∃ Q : Nat, Q = 1 + x.s.n + x.s.m := ⟨_, rfl⟩
  rw [← hQ]
  have G : Hid (CyO 2 B x.n c q (mk1 Q) w1) := by show CyO _ _ _ _ _ _ _; rw [hQ]; exact H.out.o.below hb1
  have HQ := Lib.hid hQ
  have hQ2 : Q ≤ 9437184 := by have h1 := HS.out.1.1; have h2 := HS.out.1.2; omega
  have hz : ¬ (Q : Int) < 0 := by omega
  clear hQ hb1 RA1
  go_wp2_with fail
  refine (heldCy_any _ G.out HS.out.2 (by omega)).mono ?_
  rintro e w2 ⟨rfl, e2⟩
  subst w2
  obtain ⟨R, hR⟩ : ∃ R : Nat, R = Q + x.n := ⟨_, rfl⟩
  rw [← hR]
  have HR := Lib.hid hR
  have hz2 : ¬ (R : Int) < 0 := by omega
  clear hR x0 x1 x2 x3 x4
  go_wp2_with fail
  go_ret
  exact ⟨by rw [HR.out, HQ.out]; rfl, HB1.out⟩
end Go.Proofs.YtgkdnpnnmmpnmaaGreatDoor
