/-
  The laws' comparisons and marks of answers of mains.
-/
import Derived.Test.YtfgmalnkpgloiaaGreatDoorMnEx3
import Derived.Test.YtfgmalnkpgloiaaGreatDoorMnOw
namespace Go.Proofs.YtfgmalnkpgloiaaGreatDoor
open Go.RowKit Go.Deep

abbrev moV (fa : Option Addr) (fn fc : Nat) (ha : Option Addr) (hn hc : Nat) (rest rounds at_ code : Int) : Value := .agg #[.slice fa fn fc, .slice ha hn hc, .int .i64 rest, .int .i64 rounds, .int .i64 at_, .int .i64 code]
abbrev moL (fa : Option Addr) (fn fc : Nat) (ha : Option Addr) (hn hc : Nat) (rest rounds at_ code : Int) : List Value := [.slice fa fn fc, .slice ha hn hc, .int .i64 rest, .int .i64 rounds, .int .i64 at_, .int .i64 code]
abbrev moA (fa : Option Addr) (fn fc : Nat) (ha : Option Addr) (hn hc : Nat) (rest rounds at_ code : Int) : Array Value := #[.slice fa fn fc, .slice ha hn hc, .int .i64 rest, .int .i64 rounds, .int .i64 at_, .int .i64 code]
/-- What may have changed: the block of one list. -/
structure OnlyO (a : Option Addr) (w w' : World) : Prop where
  os : w'.os = w.os
  tape : w'.tape = w.tape
  output : w'.output = w.output
  size : w.heap.size ≤ w'.heap.size
  block : ∀ k, k < w.heap.size → a ≠ some ⟨k, 0, none⟩ → w'.heap[k]? = w.heap[k]?
theorem OwL.keep {T : TypeId} {B N c : Nat} {a : Option Addr} {f : Nat → Int} {W W' : World} (h : OwL T B N a c f W) (hb : ∀ k, a = some ⟨k, 0, none⟩ → k < W.heap.size → W'.heap[k]? = W.heap[k]?) : OwL T B N a c f W' := by
  rcases h with h | ⟨g, e, h1, h2⟩
  · exact Or.inl h
  · exact Or.inr ⟨g, e, h1, h2.block (hb g e h2.lt)⟩
theorem OwL.lt {T : TypeId} {B N c : Nat} {a : Option Addr} {f : Nat → Int} {W : World} (h : OwL T B N a c f W) {k : Nat} (e : a = some ⟨k, 0, none⟩) : B ≤ k ∧ k < W.heap.size := by
  rcases h with h | ⟨g, e', h1, h2⟩
  · rw [h.1] at e; cases e
  · rw [e'] at e; cases e; exact ⟨h1, h2.lt⟩
theorem markOw_any (B N c k : Nat) (a : Option Addr) (f : Nat → Int) (w : World) (h : OwL 2 B N a c f w) (hn : N ≤ 1048576) (hk : k ≤ 16777216) :
    Calls Tryz.prog 25 #[.slice a N c, .int .i64 k] w fun e w' => e = .returned (.int .i64 ((k + N : Nat) : Int)) ∧ OwL 2 B N a c (mk1 k) w' ∧ OnlyO a w w' := by
  rcases h with ⟨rfl, rfl, rfl⟩ | ⟨g, rfl, h1, h2⟩
  · exact (nmarkInt64S_nil k w).mono (fun e w' ⟨he, hw⟩ => ⟨he, Or.inl ⟨rfl, rfl, rfl⟩, by rw [hw]; exact ⟨rfl, rfl, rfl, Nat.le_refl _, fun _ _ _ => rfl⟩⟩)
  · exact (nmarkInt64S_any g N c k f w h2 hn hk).mono (fun e w' ⟨he, hi, ho⟩ => ⟨he, Or.inr ⟨g, rfl, h1, hi⟩, ho.os, ho.tape, ho.output, ho.size, fun j hj hne => ho.block j hj (fun e => hne (by rw [e]))⟩)
theorem heldOw_any (B N c k : Nat) (a : Option Addr) (w : World) (h : OwL 2 B N a c (mk1 k) w) (hn : N ≤ 1048576) (hk : k ≤ 16777216) :
    Calls Tryz.prog 57 #[.slice a N c, .int .i64 k] w fun e w' => e = .returned (.int .i64 ((k + N : Nat) : Int)) ∧ w' = w := by
  rcases h with ⟨rfl, rfl, rfl⟩ | ⟨g, rfl, h1, h2⟩
  · exact nheldInt64S_nil k w
  · exact nheldInt64S_any g N c k w h2 hn hk
set_option maxRecDepth 100000 in
set_option maxHeartbeats 4000000 in
theorem eqMainsOut_same (a b p q : Option Addr) (N c c' M d d' : Nat) (r1 r2 r3 r4 : Int) (f g : Nat → Int) (w : World) (h1 : IsAt a N f w) (h2 : IsAt b N f w) (h3 : IsAt p M g w) (h4 : IsAt q M g w) (hn : N ≤ 1048576) (hm : M ≤ 1048576) :
    Calls Tryz.prog 21 #[moV a N c p M d r1 r2 r3 r4, moV b N c' q M d' r1 r2 r3 r4] w fun e w' => e = .returned (.bool true) ∧ Below w.heap.size w w' := by
  obtain ⟨W, hW⟩ : ∃ W, W = (w.alloc (.cells (moA a N c p M d r1 r2 r3 r4) 31)).alloc (.cells (moA b N c' q M d' r1 r2 r3 r4) 31) := ⟨_, rfl⟩
  have hB : Below w.heap.size w W := by rw [hW]; exact ((Below.refl _ _).alloc (Nat.le_refl _) _).alloc (by simp) _
  have RA : W.rowIs w.heap.size 31 6 (rowN (moL a N c p M d r1 r2 r3 r4)) := by rw [hW]; exact nrow_below (rowN_alloc w _ _) (nbel_alloc _ _)
  have RO : W.rowIs (w.heap.size + 1) 31 6 (rowN (moL b N c' q M d' r1 r2 r3 r4)) := by rw [hW]; exact rowN_alloc' (by simp) _ _
  have n1 : (r1 != r1) = false := by simp
  have n2 : (r2 != r2) = false := by simp
  have n3 : (r3 != r3) = false := by simp
  have n4 : (r4 != r4) = false := by simp
  have HW := Lib.hid hW
  have HB := Lib.hid hB
  have H1 := Lib.hid (h1.below hB)
  have H2 := Lib.hid (h2.below hB)
  have H3 := Lib.hid (h3.below hB)
  have H4 := Lib.hid (h4.below hB)
  have HRA := Lib.hid RA
  have HRO := Lib.hid RO
  clear hW hB h1 h2 h3 h4 RA RO
  go_enter Tryz.func21, Tryz.ntmps21
  go_wp2_with fail
  rw [← HW.out]
  refine (neqInt64S_same a b N c c' f _ H1.out H2.out hn).mono ?_
  rintro e w1 ⟨rfl, hb1⟩
  obtain ⟨⟨x0, x1, x2, x3, x4, x5⟩, _⟩ := rowN6 (nrow_below HRA.out hb1)
  obtain ⟨⟨y0, y1, y2, y3, y4, y5⟩, _⟩ := rowN6 (nrow_below HRO.out hb1)
  have HB1 : Hid (Below w.heap.size w w1) := HB.out.trans (hb1.mono HB.out.size)
  have HRA1 := Lib.hid (nrow_below HRA.out hb1)
  have HRO1 := Lib.hid (nrow_below HRO.out hb1)
  have H31 := Lib.hid (H3.out.below hb1)
  have H41 := Lib.hid (H4.out.below hb1)
  clear hb1 HRA HRO H3 H4
  go_wp2_with fail
  refine (neqInt64S_same p q M d d' g _ H31.out H41.out hm).mono ?_
  rintro e w2 ⟨rfl, hb2⟩
  clear x0 x1 x2 x3 x4 x5 y0 y1 y2 y3 y4 y5
  obtain ⟨⟨x0, x1, x2, x3, x4, x5⟩, _⟩ := rowN6 (nrow_below HRA1.out hb2)
  obtain ⟨⟨y0, y1, y2, y3, y4, y5⟩, _⟩ := rowN6 (nrow_below HRO1.out hb2)
  have HB2 : Hid (Below w.heap.size w w2) := HB1.out.trans (hb2.mono HB1.out.size)
  clear hb2
  go_wp2_with fail
  go_ret
  exact ⟨rfl, HB2.out⟩
/-- The two lists of an answer, which are apart. -/
structure Ow2 (B N c M d : Nat) (a p : Option Addr) (f g : Nat → Int) (W : World) : Prop where
  f : OwL 2 B N a c f W
  g : OwL 2 B M p d g W
  ne : ∀ k, a = some ⟨k, 0, none⟩ → p ≠ some ⟨k, 0, none⟩
theorem Ow2.below {B N c M d : Nat} {a p : Option Addr} {f g : Nat → Int} {W W' : World} (h : Ow2 B N c M d a p f g W) (hb : Below W.heap.size W W') : Ow2 B N c M d a p f g W' := ⟨h.f.below hb, h.g.below hb, h.ne⟩
set_option maxRecDepth 100000 in
set_option maxHeartbeats 4000000 in
theorem markMainsOut_any (a p : Option Addr) (B N c M d : Nat) (r1 r2 r3 r4 : Int) (f g : Nat → Int) (w : World) (h : Ow2 B N c M d a p f g w) (hn : N ≤ 1048576) (hm : M ≤ 1048576) :
    Calls Tryz.prog 26 #[moV a N c p M d r1 r2 r3 r4, .int .i64 1] w fun e w' => e = .returned (.int .i64 ((1 + N + M : Nat) : Int)) ∧ Ow2 B N c M d a p (mk1 1) (mk1 (1 + N)) w' ∧ ((∀ k, k < w.heap.size → a ≠ some ⟨k, 0, none⟩ → p ≠ some ⟨k, 0, none⟩ → w'.heap[k]? = w.heap[k]?) ∧ w'.os = w.os ∧ w'.tape = w.tape ∧ w'.output = w.output ∧ w.heap.size ≤ w'.heap.size) := by
  obtain ⟨W, hW⟩ : ∃ W, W = w.alloc (.cells (moA a N c p M d r1 r2 r3 r4) 31) := ⟨_, rfl⟩
  have hB : Below w.heap.size w W := by rw [hW]; exact nbel_alloc _ _
  have RA : W.rowIs w.heap.size 31 6 (rowN (moL a N c p M d r1 r2 r3 r4)) := by rw [hW]; exact rowN_alloc w _ _
  have HW := Lib.hid hW
  have H0 := Lib.hid h
  have H := Lib.hid (h.below hB)
  have HB := Lib.hid hB
  have HRA := Lib.hid RA
  clear hW hB h RA
  go_enter Tryz.func26, Tryz.ntmps26
  go_wp2_with fail
  rw [← HW.out]
  refine (markOw_any B N c 1 a f _ H.out.f hn (by omega)).mono ?_
  rintro e w1 ⟨rfl, ho1, on1⟩
  have RA1 : w1.rowIs w.heap.size 31 6 _ := HRA.out.of_block (on1.block _ HRA.out.lt (fun e => by have := (H0.out.f.lt e).2; omega))
  have G1 : Hid (OwL 2 B M p d g w1) := H.out.g.keep (fun k e hk => on1.block k hk (fun e2 => H.out.ne k e2 e))
  have F1 := Lib.hid ho1
  have ON1 := Lib.hid on1
  obtain ⟨⟨x0, x1, x2, x3, x4, x5⟩, _⟩ := rowN6 RA1
  clear ho1 on1 RA1
  obtain ⟨Q, hQ⟩ : ∃ Q : Nat, Q = 1 + N := ⟨_, rfl⟩
  rw [← hQ]
  have HQ := Lib.hid hQ
  have hQ2 : Q ≤ 1048577 := by omega
  clear hQ
  go_wp2_with fail
  refine (markOw_any B M d Q p g _ G1.out hm (by omega)).mono ?_
  rintro e w2 ⟨rfl, ho2, on2⟩
  have F2 := Lib.hid ho2
  have ON2 := Lib.hid on2
  clear ho2 on2 x0 x1 x2 x3 x4 x5
  go_wp2_with fail
  go_ret
  have o1 := ON1.out
  have o2 := ON2.out
  have b0 := HB.out
  have hq := HQ.out
  have s0 := b0.size
  have s1 := o1.size
  refine ⟨by rw [hq]; rfl, ⟨F1.out.keep (fun k e hk => o2.block k hk (fun e2 => H.out.ne k e e2)), by rw [← hq]; exact F2.out, H.out.ne⟩, fun k hk h1 h2 => (o2.block k (by omega) h2).trans ((o1.block k (by omega) h1).trans (b0.block k hk)), o2.os.trans (o1.os.trans b0.os), o2.tape.trans (o1.tape.trans b0.tape), o2.output.trans (o1.output.trans b0.output), Nat.le_trans s0 (Nat.le_trans s1 o2.size)⟩
set_option maxRecDepth 100000 in
set_option maxHeartbeats 4000000 in
theorem heldMainsOut_any (a p : Option Addr) (B N c M d : Nat) (r1 r2 r3 r4 : Int) (w : World) (h : Ow2 B N c M d a p (mk1 1) (mk1 (1 + N)) w) (hn : N ≤ 1048576) (hm : M ≤ 1048576) :
    Calls Tryz.prog 27 #[moV a N c p M d r1 r2 r3 r4, .int .i64 1] w fun e w' => e = .returned (.int .i64 ((1 + N + M : Nat) : Int)) ∧ Below w.heap.size w w' := by
  obtain ⟨W, hW⟩ : ∃ W, W = w.alloc (.cells (moA a N c p M d r1 r2 r3 r4) 31) := ⟨_, rfl⟩
  have hB : Below w.heap.size w W := by rw [hW]; exact nbel_alloc _ _
  have HW := Lib.hid hW
  have H := Lib.hid (h.below hB)
  have HB := Lib.hid hB
  have RA := Lib.hid (by rw [hW]; exact rowN_alloc w (moL a N c p M d r1 r2 r3 r4) _ : W.rowIs w.heap.size 31 6 (rowN (moL a N c p M d r1 r2 r3 r4)))
  clear hW hB h
  obtain ⟨⟨x0, x1, x2, x3, x4, x5⟩, _⟩ := rowN6 RA.out
  go_enter Tryz.func27, Tryz.ntmps27
  go_wp2_with fail
  rw [← HW.out]
  refine (heldOw_any B N c 1 a _ H.out.f hn (by omega)).mono ?_
  rintro e w1 ⟨rfl, e1⟩
  subst w1
  obtain ⟨Q, hQ⟩ : ∃ Q : Nat, Q = 1 + N := ⟨_, rfl⟩
  rw [← hQ]
  have G : Hid (OwL 2 B M p d (mk1 Q) W) := by show OwL _ _ _ _ _ _ _; rw [hQ]; exact H.out.g
  have HQ := Lib.hid hQ
  have hQ2 : Q ≤ 1048577 := by omega
  have hz : ¬ (Q : Int) < 0 := by omega
  clear hQ
  go_wp2_with fail
  refine (heldOw_any B M d Q p _ G.out hm (by omega)).mono ?_
  rintro e w2 ⟨rfl, e2⟩
  subst w2
  obtain ⟨R, hR⟩ : ∃ R : Nat, R = Q + M := ⟨_, rfl⟩
  rw [← hR]
  have HR := Lib.hid hR
  have hz2 : ¬ (R : Int) < 0 := by omega
  clear hR
  go_wp2_with fail
  go_ret
  exact ⟨by rw [HR.out, HQ.out]; rfl, HB.out⟩
end Go.Proofs.YtfgmalnkpgloiaaGreatDoor
