/-
  Answers of DayCost: compared, marked, found again.
-/
import Derived.Test.YtmfokilpfbcicaaDoorDyEx
import Derived.Test.YtmfokilpfbcicaaDoorDyC1
namespace Go.Proofs.YtmfokilpfbcicaaDoor
open Go.RowKit Go.Deep

/-- A list that an answer is: its own memory, or none. -/
def DlOwn (B N : Nat) (a : Option Addr) (c : Nat) (f : Nat → Int) (W : World) : Prop := (a = none ∧ N = 0 ∧ c = 0) ∨ ∃ g, a = some ⟨g, 0, none⟩ ∧ B ≤ g ∧ IsBlk 2 g N f W
theorem DlOwn.same {B N c : Nat} {a : Option Addr} {f : Nat → Int} {W W' : World} (h : DlOwn B N a c f W) (hb : ∀ k, B ≤ k → k < W.heap.size → W'.heap[k]? = W.heap[k]?) : DlOwn B N a c f W' := by
  rcases h with h | ⟨g, e, h1, h2⟩
  · exact Or.inl h
  · exact Or.inr ⟨g, e, h1, h2.block (hb g h1 h2.lt)⟩
theorem DlOwn.below {B N c : Nat} {a : Option Addr} {f : Nat → Int} {W W' : World} (h : DlOwn B N a c f W) (hb : Below W.heap.size W W') : DlOwn B N a c f W' := h.same (fun k _ hk => hb.block k hk)
theorem DlOwn.at_ {B N c : Nat} {a : Option Addr} {f : Nat → Int} {W : World} (h : DlOwn B N a c f W) : IsAt a N f W := by
  rcases h with h | ⟨g, e, h1, h2⟩
  · exact Or.inl h.2.1
  · rw [e]; exact h2.at_
theorem DlOwn.low {B B' N c : Nat} {a : Option Addr} {f : Nat → Int} {W : World} (h : DlOwn B N a c f W) (hb : B' ≤ B) : DlOwn B' N a c f W := by
  rcases h with h | ⟨g, e, h1, h2⟩
  · exact Or.inl h
  · exact Or.inr ⟨g, e, Nat.le_trans hb h1, h2⟩
theorem DlOwn.lt {B N c : Nat} {a : Option Addr} {f : Nat → Int} {W : World} (h : DlOwn B N a c f W) {k : Nat} (e : a = some ⟨k, 0, none⟩) : B ≤ k ∧ k < W.heap.size := by
  rcases h with h | ⟨g, e', h1, h2⟩
  · rw [h.1] at e; cases e
  · rw [e'] at e; cases e; exact ⟨h1, h2.lt⟩
theorem dmarkLs {B N c : Nat} {a : Option Addr} {f : Nat → Int} (w : World) (h : DlOwn B N a c f w) (hn : N ≤ 1048576) :
    Calls Tryd.prog 13 #[.slice a N c, .int .i64 1] w fun e w' => e = .returned (.int .i64 ((1 + N : Nat) : Int)) ∧ DlOwn B N a c (mk1 1) w' ∧ (∀ k, k < w.heap.size → a ≠ some ⟨k, 0, none⟩ → w'.heap[k]? = w.heap[k]?) ∧ w'.os = w.os ∧ w'.tape = w.tape ∧ w'.output = w.output ∧ w.heap.size ≤ w'.heap.size := by
  rcases h with ⟨rfl, rfl, rfl⟩ | ⟨g, rfl, h1, h2⟩
  · refine (nmarkInt64S_nil 1 w).mono ?_
    rintro e w' ⟨rfl, rfl⟩
    exact ⟨rfl, Or.inl ⟨rfl, rfl, rfl⟩, fun _ _ _ => rfl, rfl, rfl, rfl, Nat.le_refl _⟩
  · refine (nmarkInt64S_any g N c 1 f w h2 hn (by omega)).mono ?_
    rintro e w' ⟨rfl, hm, ho⟩
    exact ⟨rfl, Or.inr ⟨g, rfl, h1, hm⟩, fun k hk hne => ho.block k hk (fun e => hne (by rw [e])), ho.os, ho.tape, ho.output, ho.size⟩
theorem dheldLs {B N c : Nat} {a : Option Addr} (w : World) (h : DlOwn B N a c (mk1 1) w) (hn : N ≤ 1048576) :
    Calls Tryd.prog 25 #[.slice a N c, .int .i64 1] w fun e w' => e = .returned (.int .i64 ((1 + N : Nat) : Int)) ∧ w' = w := by
  rcases h with ⟨rfl, rfl, rfl⟩ | ⟨g, rfl, h1, h2⟩
  · exact nheldInt64S_nil 1 w
  · exact nheldInt64S_any g N c 1 w h2 hn (by omega)
set_option maxRecDepth 100000 in
set_option maxHeartbeats 2000000 in
theorem eqDayOut_same (a b : Option Addr) (N c c' : Nat) (x y z : Int) (f : Nat → Int) (w : World) (h1 : IsAt a N f w) (h2 : IsAt b N f w) (hn : N ≤ 1048576) :
    Calls Tryd.prog 9 #[doV a N c x y z, doV b N c' x y z] w fun e w' => e = .returned (.bool true) ∧ Below w.heap.size w w' := by
  obtain ⟨W, hW⟩ : ∃ W, W = (w.alloc (.cells #[.slice a N c, .int .i64 x, .int .i64 y, .int .i64 z] 28)).alloc (.cells #[.slice b N c', .int .i64 x, .int .i64 y, .int .i64 z] 28) := ⟨_, rfl⟩
  have HB : Hid (Below w.heap.size w W) := by show Below _ _ _; rw [hW]; exact (nbel_alloc _ _).alloc (by simp) _
  have HR : Hid (W.rowIs w.heap.size 28 4 (rowN (doL a N c x y z))) := by show W.rowIs _ _ _ _; rw [hW]; exact nrow_below (rowN_alloc w _ _) (nbel_alloc _ _)
  have HO : Hid (W.rowIs (w.heap.size + 1) 28 4 (rowN (doL b N c' x y z))) := by show W.rowIs _ _ _ _; rw [hW]; exact rowN_alloc' (by simp) _ _
  have HW := Lib.hid hW
  have H1 := Lib.hid (h1.below HB.out)
  have H2 := Lib.hid (h2.below HB.out)
  clear hW h1 h2
  go_enter Tryd.func9, Tryd.ntmps9
  go_wp2_with fail
  rw [← HW.out]
  clear HW
  refine (neqInt64S_same _ _ N _ _ f _ H1.out H2.out hn).mono ?_
  rintro e w1 ⟨rfl, hb⟩
  obtain ⟨⟨x0, x1, x2, x3⟩, _⟩ := rowN4 (nrow_below HR.out hb)
  obtain ⟨⟨y0, y1, y2, y3⟩, _⟩ := rowN4 (nrow_below HO.out hb)
  have HB1 : Hid (Below w.heap.size w w1) := HB.out.trans (hb.mono HB.out.size)
  clear hb
  go_wp2_with fail
  go_ret
  exact ⟨rfl, HB1.out⟩
set_option maxRecDepth 100000 in
set_option maxHeartbeats 2000000 in
theorem markDayOut_any {B N c : Nat} {a : Option Addr} {f : Nat → Int} (x y z : Int) (w : World) (h : DlOwn B N a c f w) (hn : N ≤ 1048576) :
    Calls Tryd.prog 14 #[doV a N c x y z, .int .i64 1] w fun e w' => e = .returned (.int .i64 ((1 + N : Nat) : Int)) ∧ DlOwn B N a c (mk1 1) w' ∧ (∀ k, k < w.heap.size → a ≠ some ⟨k, 0, none⟩ → w'.heap[k]? = w.heap[k]?) ∧ w'.os = w.os ∧ w'.tape = w.tape ∧ w'.output = w.output ∧ w.heap.size ≤ w'.heap.size := by
  obtain ⟨W, hW⟩ : ∃ W, W = w.alloc (.cells #[.slice a N c, .int .i64 x, .int .i64 y, .int .i64 z] 28) := ⟨_, rfl⟩
  have HB : Hid (Below w.heap.size w W) := by show Below _ _ _; rw [hW]; exact nbel_alloc _ _
  have H := Lib.hid (h.below HB.out)
  have HW := Lib.hid hW
  clear hW h
  go_enter Tryd.func14, Tryd.ntmps14
  go_wp2_with fail
  rw [← HW.out]
  clear HW
  refine (dmarkLs _ H.out hn).mono ?_
  rintro e w1 ⟨rfl, hm, hk, h1, h2, h3, h4⟩
  have HM := Lib.hid hm
  have HP : Hid ((∀ k, k < w.heap.size → a ≠ some ⟨k, 0, none⟩ → w1.heap[k]? = w.heap[k]?) ∧ w1.os = w.os ∧ w1.tape = w.tape ∧ w1.output = w.output ∧ w.heap.size ≤ w1.heap.size) := by
    have b := HB.out
    exact ⟨fun k hkk hne => (hk k (Nat.lt_of_lt_of_le hkk b.size) hne).trans (b.block k hkk), h1.trans b.os, h2.trans b.tape, h3.trans b.output, Nat.le_trans b.size h4⟩
  clear hm hk h1 h2 h3 h4
  obtain ⟨Q, hQ⟩ : ∃ Q : Nat, Q = 1 + N := ⟨_, rfl⟩
  rw [← hQ]
  have HQ := Lib.hid hQ
  clear hQ
  go_wp2_with fail
  go_ret
  exact ⟨by rw [← HQ.out]; rfl, HM.out, HP.out⟩
set_option maxRecDepth 100000 in
set_option maxHeartbeats 2000000 in
theorem heldDayOut_any {B N c : Nat} {a : Option Addr} (x y z : Int) (w : World) (h : DlOwn B N a c (mk1 1) w) (hn : N ≤ 1048576) :
    Calls Tryd.prog 15 #[doV a N c x y z, .int .i64 1] w fun e w' => e = .returned (.int .i64 ((1 + N : Nat) : Int)) ∧ Below w.heap.size w w' := by
  obtain ⟨W, hW⟩ : ∃ W, W = w.alloc (.cells #[.slice a N c, .int .i64 x, .int .i64 y, .int .i64 z] 28) := ⟨_, rfl⟩
  have HB : Hid (Below w.heap.size w W) := by show Below _ _ _; rw [hW]; exact nbel_alloc _ _
  have H := Lib.hid (h.below HB.out)
  have HW := Lib.hid hW
  clear hW h
  go_enter Tryd.func15, Tryd.ntmps15
  go_wp2_with fail
  rw [← HW.out]
  clear HW
  refine (dheldLs _ H.out hn).mono ?_
  rintro e w1 ⟨rfl, rfl⟩
  obtain ⟨Q, hQ⟩ : ∃ Q : Nat, Q = 1 + N := ⟨_, rfl⟩
  rw [← hQ]
  have hQ0 : ¬ (Q : Int) < 0 := by omega
  have HQ := Lib.hid hQ
  clear hQ
  go_wp2_with fail
  go_ret
  exact ⟨by rw [← HQ.out]; rfl, HB.out⟩
namespace Dy
/-- How long the list that is told is. -/
noncomputable def lenC (n : Day) (k : Nat) (f : Nat → Int) : Nat := if codeC n k f = 0 then k else 0
noncomputable def paidC (n : Day) (k : Nat) (f : Nat → Int) : Int := if codeC n k f = 0 then costA n f k else 0
noncomputable def tankC (n : Day) (k : Nat) (f : Nat → Int) : Int := if codeC n k f = 0 then endA n f k else 0
end Dy
theorem DcEnd.tell {B : Nat} {n : Dy.Day} {k : Nat} {f : Nat → Int} {e : Ending} {W : World} (h : DcEnd B n k f e W) : Dy.lenC n k f ≤ 1048576 ∧ ∃ a c, e = .returned (doV a (Dy.lenC n k f) c (Dy.paidC n k f) (Dy.tankC n k f) (Dy.codeC n k f)) ∧ DlOwn B (Dy.lenC n k f) a c f W := by
  unfold Dy.lenC Dy.paidC Dy.tankC
  rcases h with ⟨h, e⟩ | ⟨h, h1, h2, g, c, e, h3, h4⟩
  · rw [if_neg h, if_neg h, if_neg h]
    exact ⟨by omega, none, 0, e, Or.inl ⟨rfl, rfl, rfl⟩⟩
  · rw [if_pos h, if_pos h, if_pos h, h]
    exact ⟨by omega, some ⟨g, 0, none⟩, c, e, Or.inr ⟨g, rfl, h3, h4⟩⟩
end Go.Proofs.YtmfokilpfbcicaaDoor
