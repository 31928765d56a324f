/-
  A Logic and an answer of a cycle: converted, sized, compared, marked, found again.
-/
import Derived.Test.YtgkdnpnnmmpnmaaNtEx1
import Derived.Test.YtgkdnpnnmmpnmaaCyMem
namespace Go.Proofs.Ytgkdnpnnmmpnmaa
open Go.RowKit Go.Deep

theorem cyhs (w : World) (p g : Nat) (hp : g ≠ p) (i : Nat) (a : Value) : (w.setCell ⟨p, i, none⟩ a).heap[g]? = w.heap[g]? := Below.heap_setCell _ _ _ _ hp
set_option maxRecDepth 100000 in
set_option maxHeartbeats 4000000 in
theorem eqLogic_same (s : Cy.Lg) (a b a' b' : Option Addr) (k l k' l' : Nat) (w : World) (h1 : LgAt s a b w) (h2 : LgAt s a' b' w) (hs : LgSmall s) :
    Calls Try.prog 9 #[lgV s a k b l, lgV s a' k' b' l'] w fun e w' => e = .returned (.bool true) ∧ Below w.heap.size w w' := by
  obtain ⟨W, hW⟩ : ∃ W, W = (w.alloc (.cells (lgA s a k b l) 29)).alloc (.cells (lgA s a' k' b' l') 29) := ⟨_, rfl⟩
  have HB : Hid (Below w.heap.size w W) := by show Below _ _ _; rw [hW]; exact ((Below.refl _ _).alloc (Nat.le_refl _) _).alloc (by simp) _
  have HRA : Hid (W.rowIs w.heap.size 29 3 (rowN (lgL s a k b l))) := by show W.rowIs _ _ _ _; rw [hW]; exact nrow_below (rowN_alloc w _ _) (nbel_alloc _ _)
  have HRO : Hid (W.rowIs (w.heap.size + 1) 29 3 (rowN (lgL s a' k' b' l'))) := by show W.rowIs _ _ _ _; rw [hW]; exact rowN_alloc' (by simp) _ _
  have hfl : (s.fl != s.fl) = false := by simp
  have HW := Lib.hid hW
  have H1 := Lib.hid h1
  have H2 := Lib.hid h2
  have HS := Lib.hid hs
  clear hW h1 h2 hs
  go_enter Try.func9, Try.ntmps9
  go_wp2_with fail
  rw [← HW.out]
  refine (neqInt64S_same a a' s.n k k' s.T _ (H1.out.below HB.out).t (H2.out.below HB.out).t HS.out.1).mono ?_
  rintro e w1 ⟨rfl, hb1⟩
  obtain ⟨⟨x0, x1, x2⟩, _⟩ := rowN3 (nrow_below HRA.out hb1)
  obtain ⟨⟨y0, y1, y2⟩, _⟩ := rowN3 (nrow_below HRO.out hb1)
  have HB1 : Hid (Below w.heap.size w w1) := HB.out.trans (hb1.mono HB.out.size)
  have HRA1 := Lib.hid (nrow_below HRA.out hb1)
  have HRO1 := Lib.hid (nrow_below HRO.out hb1)
  clear hb1 HRA HRO
  go_wp2_with fail
  refine (neqInt64S_same b b' s.m l l' s.C _ (H1.out.below HB1.out).c (H2.out.below HB1.out).c HS.out.2).mono ?_
  rintro e w2 ⟨rfl, hb2⟩
  clear x0 x1 x2 y0 y1 y2
  obtain ⟨⟨x0, x1, x2⟩, _⟩ := rowN3 (nrow_below HRA1.out hb2)
  obtain ⟨⟨y0, y1, y2⟩, _⟩ := rowN3 (nrow_below HRO1.out hb2)
  have HB2 : Hid (Below w.heap.size w w2) := HB1.out.trans (hb2.mono HB1.out.size)
  clear hb2
  go_wp2_with fail
  go_ret
  exact ⟨rfl, HB2.out⟩
theorem markCy_any {B N c k : Nat} {a : Option Addr} {f : Nat → Int} (w : World) (h : CyO 2 B N a c f w) (hn : N ≤ 1048576) (hk : k ≤ 1073741824) :
    Calls Try.prog 32 #[.slice a N c, .int .i64 (k : Nat)] w fun e w' => e = .returned (.int .i64 ((k + N : Nat) : Int)) ∧ CyO 2 B N a c (mk1 k) w' ∧ OnlyA [a] w w' := by
  rcases h with ⟨rfl, rfl, rfl⟩ | ⟨g, rfl, h1, h2⟩
  · exact (nmarkInt64S_nil k w).mono (fun e w' ⟨he, hw⟩ => ⟨he, Or.inl ⟨rfl, rfl, rfl⟩, by rw [hw]; exact ⟨rfl, rfl, rfl, Nat.le_refl _, fun _ _ _ => rfl⟩⟩)
  · exact (nmarkInt64S_any g N c k f w h2 hn hk).mono (fun e w' ⟨he, hi, ho⟩ => ⟨he, Or.inr ⟨g, rfl, h1, hi⟩, ho.os, ho.tape, ho.output, ho.size, fun j hj hne => ho.block j hj (fun e => hne (some ⟨g, 0, none⟩) (by simp) (by rw [e]))⟩)
theorem heldCy_any {B N c k : Nat} {a : Option Addr} (w : World) (h : CyO 2 B N a c (mk1 k) w) (hn : N ≤ 1048576) (hk : k ≤ 1073741824) :
    Calls Try.prog 34 #[.slice a N c, .int .i64 (k : Nat)] w fun e w' => e = .returned (.int .i64 ((k + N : Nat) : Int)) ∧ w' = w := by
  rcases h with ⟨rfl, rfl, rfl⟩ | ⟨g, rfl, h1, h2⟩
  · exact nheldInt64S_nil k w
  · exact nheldInt64S_any g N c k w h2 hn hk
set_option maxRecDepth 100000 in
set_option maxHeartbeats 4000000 in
theorem markLogic_any (s : Cy.Lg) {B k l K : Nat} {a b : Option Addr} {f g : Nat → Int} (w : World) (h : LgO 2 B s.n k s.m l a b f g w) (hs : LgSmall s) (hk : K ≤ 536870912) :
    Calls Try.prog 12 #[lgV s a k b l, .int .i64 (K : Nat)] w fun e w' => e = .returned (.int .i64 ((K + s.n + s.m : Nat) : Int)) ∧ LgO 2 B s.n k s.m l a b (mk1 K) (mk1 (K + s.n)) w' ∧ OnlyA [a, b] w w' := by
  obtain ⟨W, hW⟩ : ∃ W, W = w.alloc (.cells (lgA s a k b l) 29) := ⟨_, rfl⟩
  have HB : Hid (Below w.heap.size w W) := by show Below _ _ _; rw [hW]; exact nbel_alloc _ _
  have HRA : Hid (W.rowIs w.heap.size 29 3 (rowN (lgL s a k b l))) := by show W.rowIs _ _ _ _; rw [hW]; exact rowN_alloc w _ _
  have H0 := Lib.hid h
  have H := Lib.hid (h.below HB.out)
  have HS := Lib.hid hs
  have HW := Lib.hid hW
  clear hW h hs
  go_enter Try.func12, Try.ntmps12
  go_wp2_with fail
  rw [← HW.out]
  refine (markCy_any _ H.out.t HS.out.1 (by omega)).mono ?_
  rintro e w1 ⟨rfl, ho1, on1⟩
  have RA1 : w1.rowIs w.heap.size 29 3 _ := HRA.out.of_block (on1.block _ HRA.out.lt (fun x hx e => by simp at hx; subst hx; have := (H0.out.t.lt e).2; omega))
  have G1 : Hid (CyO 2 B s.m b l g w1) := H.out.c.keep (fun k e _ hk => on1.block k hk (fun x hx e2 => by simp at hx; subst hx; exact H.out.ne k e2 e))
  have F1 := Lib.hid ho1
  have ON1 := Lib.hid on1
  obtain ⟨⟨x0, x1, x2⟩, _⟩ := rowN3 RA1
  clear ho1 on1 RA1
  obtain ⟨Q, hQ⟩ : ∃ Q : Nat, Q = K + s.n := ⟨_, rfl⟩
  rw [← hQ]
  have HQ := Lib.hid hQ
  have hQ2 : Q ≤ 537919488 := by have := HS.out.1; omega
  clear hQ
  go_wp2_with fail
  refine (markCy_any _ G1.out HS.out.2 (by omega)).mono ?_
  rintro e w2 ⟨rfl, ho2, on2⟩
  have F2 := Lib.hid ho2
  have ON2 := Lib.hid on2
  clear ho2 on2 x0 x1 x2
  go_wp2_with fail
  go_ret
  refine ⟨by rw [← HQ.out]; rfl, ⟨F1.out.keep (fun k e _ hk => ON2.out.block k hk (fun x hx e2 => by simp at hx; subst hx; exact H.out.ne k e e2)), by rw [← HQ.out]; exact F2.out, H.out.ne⟩, ?_⟩
  exact (OnlyA.of_below HB.out).trans ((ON1.out.wide (by simp)).trans (ON2.out.wide (by simp)))
set_option maxRecDepth 100000 in
set_option maxHeartbeats 4000000 in
theorem heldLogic_any (s : Cy.Lg) {B k l K : Nat} {a b : Option Addr} (w : World) (h : LgO 2 B s.n k s.m l a b (mk1 K) (mk1 (K + s.n)) w) (hs : LgSmall s) (hk : K ≤ 536870912) :
    Calls Try.prog 13 #[lgV s a k b l, .int .i64 (K : Nat)] w fun e w' => e = .returned (.int .i64 ((K + s.n + s.m : Nat) : Int)) ∧ Below w.heap.size w w' := by
  obtain ⟨W, hW⟩ : ∃ W, W = w.alloc (.cells (lgA s a k b l) 29) := ⟨_, rfl⟩
  have HB : Hid (Below w.heap.size w W) := by show Below _ _ _; rw [hW]; exact nbel_alloc _ _
  have HRA : Hid (W.rowIs w.heap.size 29 3 (rowN (lgL s a k b l))) := by show W.rowIs _ _ _ _; rw [hW]; exact rowN_alloc w _ _
  have H := Lib.hid (h.below HB.out)
  have HS := Lib.hid hs
  have HW := Lib.hid hW
  clear hW h hs
  obtain ⟨⟨x0, x1, x2⟩, _⟩ := rowN3 HRA.out
  go_enter Try.func13, Try.ntmps13
  go_wp2_with fail
  rw [← HW.out]
  refine (heldCy_any _ H.out.t HS.out.1 (by omega)).mono ?_
  rintro e w1 ⟨rfl, e1⟩
  subst w1
  obtain ⟨Q, hQ⟩ : ∃ Q : Nat, Q = K + s.n := ⟨_, rfl⟩
  rw [← hQ]
  have G : Hid (CyO 2 B s.m b l (mk1 Q) W) := by show CyO _ _ _ _ _ _ _; rw [hQ]; exact H.out.c
  have HQ := Lib.hid hQ
  have hQ2 : Q ≤ 537919488 := by have := HS.out.1; omega
  have hz : ¬ (Q : Int) < 0 := by omega
  clear hQ
  go_wp2_with fail
  refine (heldCy_any _ G.out HS.out.2 (by omega)).mono ?_
  rintro e w2 ⟨rfl, e2⟩
  subst w2
  obtain ⟨R, hR⟩ : ∃ R : Nat, R = Q + s.m := ⟨_, rfl⟩
  rw [← hR]
  have HR := Lib.hid hR
  have hz2 : ¬ (R : Int) < 0 := by omega
  clear hR
  go_wp2_with fail
  go_ret
  exact ⟨by rw [HR.out, HQ.out]; rfl, HB.out⟩
/-- The lists of an answer, compared. -/
structure CoAt (x : Cy.Ans) (a b c : Option Addr) (w : World) : Prop where
  s : LgAt x.s a b w
  o : IsAt c x.n x.O w
theorem CoAt.below {x : Cy.Ans} {a b c : Option Addr} {w w' : World} (h : CoAt x a b c w) (hb : Below w.heap.size w w') : CoAt x a b c w' := ⟨h.s.below hb, h.o.below hb⟩
theorem CoO.at_ {T : TypeId} {B k l q : Nat} {x : Cy.Ans} {a b c : Option Addr} {W : World} (h : CoO T B x.s.n k x.s.m l x.n q a b c x.s.T x.s.C x.O W) : CoAt x a b c W := ⟨⟨h.s.t.at_, h.s.c.at_⟩, h.o.at_⟩
def CoSmall (x : Cy.Ans) : Prop := LgSmall x.s ∧ x.n ≤ 1048576
end Go.Proofs.Ytgkdnpnnmmpnmaa
