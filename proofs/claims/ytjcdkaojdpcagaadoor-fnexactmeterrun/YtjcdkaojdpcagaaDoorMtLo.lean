/-
  Answers of meters: compared, marked, found again.
-/
import Derived.Test.YtjcdkaojdpcagaaDoorMtEx2
import Derived.Test.YtjcdkaojdpcagaaDoorMtR3
namespace Go.Proofs.YtjcdkaojdpcagaaDoor
open Go.RowKit Go.Deep

theorem UsOwn.same {B N c : Nat} {a : Option Addr} {f : Nat → Int} {W W' : World} (h : UsOwn B N a c f W) (hb : ∀ k, a = some ⟨k, 0, none⟩ → k < W.heap.size → W'.heap[k]? = W.heap[k]?) : UsOwn B N a c f W' := by
  rcases h with h | ⟨g, e, h1, h2⟩
  · exact Or.inl h
  · exact Or.inr ⟨g, e, h1, h2.block (hb g e h2.lt)⟩
theorem UsOwn.below {B N c : Nat} {a : Option Addr} {f : Nat → Int} {W W' : World} (h : UsOwn B N a c f W) (hb : Below W.heap.size W W') : UsOwn B N a c f W' := h.same (fun k _ hk => hb.block k hk)
theorem UsOwn.at_ {B N c : Nat} {a : Option Addr} {f : Nat → Int} {W : World} (h : UsOwn B N a c f W) : IsAt a (N * 4) f W := by
  rcases h with h | ⟨g, e, h1, h2⟩
  · exact Or.inl (by omega)
  · rw [e]; exact h2.at_
theorem UsOwn.low {B B' N c : Nat} {a : Option Addr} {f : Nat → Int} {W : World} (h : UsOwn B N a c f W) (hb : B' ≤ B) : UsOwn B' N a c f W := by
  rcases h with h | ⟨g, e, h1, h2⟩
  · exact Or.inl h
  · exact Or.inr ⟨g, e, Nat.le_trans hb h1, h2⟩
theorem UsOwn.lt {B N c : Nat} {a : Option Addr} {f : Nat → Int} {W : World} (h : UsOwn B N a c f W) {k : Nat} (e : a = some ⟨k, 0, none⟩) : B ≤ k ∧ k < W.heap.size := by
  rcases h with h | ⟨g, e', h1, h2⟩
  · rw [h.1] at e; cases e
  · rw [e'] at e; cases e; exact ⟨h1, h2.lt⟩
/-- A list of uses and an answer's variable are two blocks. -/
theorem UsOwn.ne {B N c n : Nat} {a : Option Addr} {f : Nat → Int} {W : World} {x : Nat} {F : Nat → Value} (h : UsOwn B N a c f W) (hr : W.rowIs x 29 n F) {k : Nat} (e : a = some ⟨k, 0, none⟩) : k ≠ x := by
  rcases h with h | ⟨g, e', h1, h2⟩
  · rw [h.1] at e; cases e
  · rw [e'] at e
    cases e
    rintro rfl
    obtain ⟨m, G, _, h3, _⟩ := h2
    obtain ⟨c1, q1, _⟩ := h3
    obtain ⟨c2, q2, _⟩ := hr
    rw [q1] at q2
    simp at q2
theorem umarkLs {B N c : Nat} {a : Option Addr} {f : Nat → Int} (w : World) (h : UsOwn B N a c f w) (hn : N ≤ 1048576) :
    Calls Tryd.prog 26 #[.slice a N c, .int .i64 1] w fun e w' => e = .returned (.int .i64 ((1 + N * 4 : Nat) : Int)) ∧ UsOwn B N a c (mk1 1) w' ∧ (∀ k, k < w.heap.size → a ≠ some ⟨k, 0, none⟩ → w'.heap[k]? = w.heap[k]?) ∧ w'.os = w.os ∧ w'.tape = w.tape ∧ w'.output = w.output ∧ w.heap.size ≤ w'.heap.size := by
  rcases h with ⟨rfl, rfl, rfl⟩ | ⟨g, rfl, h1, h2⟩
  · refine (nmarkUseS_nil 1 w).mono ?_
    rintro e w' ⟨rfl, rfl⟩
    exact ⟨rfl, Or.inl ⟨rfl, rfl, rfl⟩, fun _ _ _ => rfl, rfl, rfl, rfl, Nat.le_refl _⟩
  · refine (nmarkUseS_any g N c 1 f w h2 hn (by omega)).mono ?_
    rintro e w' ⟨rfl, hm, ho⟩
    exact ⟨rfl, Or.inr ⟨g, rfl, h1, hm⟩, fun k hk hne => ho.block k hk (fun e => hne (by rw [e])), ho.os, ho.tape, ho.output, ho.size⟩
theorem uheldLs {B N c : Nat} {a : Option Addr} (w : World) (h : UsOwn B N a c (mk1 1) w) (hn : N ≤ 1048576) :
    Calls Tryd.prog 27 #[.slice a N c, .int .i64 1] w fun e w' => e = .returned (.int .i64 ((1 + N * 4 : Nat) : Int)) ∧ w' = w := by
  rcases h with ⟨rfl, rfl, rfl⟩ | ⟨g, rfl, h1, h2⟩
  · exact nheldUseS_nil 1 w
  · exact nheldUseS_any g N c 1 w h2 hn (by omega)
set_option maxRecDepth 100000 in
set_option maxHeartbeats 2000000 in
theorem eqMeter_same (X : Mt.M) (w : World) :
    Calls Tryd.prog 24 #[mtV X, mtV X] w fun e w' => e = .returned (.bool true) ∧ Below w.heap.size w w' := by
  go_enter Tryd.func24, Tryd.ntmps24
  go_wp2_with fail
  go_ret
  exact ⟨rfl, (nbel_alloc _ _).alloc (by simp) _⟩
set_option maxRecDepth 100000 in
set_option maxHeartbeats 2000000 in
theorem eqMeterOut_same (X : Mt.M) (a b : Option Addr) (N c c' : Nat) (x : Int) (f : Nat → Int) (w : World) (h1 : IsAt a (N * 4) f w) (h2 : IsAt b (N * 4) f w) (hn : N ≤ 1048576) :
    Calls Tryd.prog 9 #[muV X a N c x, muV X b N c' x] w fun e w' => e = .returned (.bool true) ∧ Below w.heap.size w w' := by
  obtain ⟨W, hW⟩ : ∃ W, W = (w.alloc (.cells #[.int .i64 X.d, .int .i64 X.u, .int .i64 X.day, .int .i64 X.s, .slice a N c, .int .i64 x] 29)).alloc (.cells #[.int .i64 X.d, .int .i64 X.u, .int .i64 X.day, .int .i64 X.s, .slice b N c', .int .i64 x] 29) := ⟨_, rfl⟩
  have HB : Hid (Below w.heap.size w W) := by show Below _ _ _; rw [hW]; exact (nbel_alloc _ _).alloc (by simp) _
  have HR : Hid (W.rowIs w.heap.size 29 6 (rowN (muL X a N c x))) := by show W.rowIs _ _ _ _; rw [hW]; exact nrow_below (rowN_alloc w _ _) (nbel_alloc _ _)
  have HO : Hid (W.rowIs (w.heap.size + 1) 29 6 (rowN (muL X b N c' x))) := by show W.rowIs _ _ _ _; rw [hW]; exact rowN_alloc' (by simp) _ _
  have HW := Lib.hid hW
  have H1 := Lib.hid (h1.below HB.out)
  have H2 := Lib.hid (h2.below HB.out)
  clear hW h1 h2
  go_enter Tryd.func9, Tryd.ntmps9
  go_wp2_with fail
  rw [← HW.out]
  clear HW
  refine (eqMeter_same X _).mono ?_
  rintro e w1 ⟨rfl, hb⟩
  have HR1 := Lib.hid (nrow_below HR.out hb)
  have HO1 := Lib.hid (nrow_below HO.out hb)
  have HB1 : Hid (Below w.heap.size w w1) := HB.out.trans (hb.mono HB.out.size)
  have H11 := Lib.hid (H1.out.below hb)
  have H21 := Lib.hid (H2.out.below hb)
  clear hb HR HO HB H1 H2
  obtain ⟨⟨x0, x1, x2, x3, x4, x5⟩, _⟩ := rowN6 HR1.out
  obtain ⟨⟨y0, y1, y2, y3, y4, y5⟩, _⟩ := rowN6 HO1.out
  go_wp2_with fail
  clear x0 x1 x2 x3 x4 x5 y0 y1 y2 y3 y4 y5
  refine (neqUseS_same _ _ N _ _ f _ H11.out H21.out hn).mono ?_
  rintro e w2 ⟨rfl, hb⟩
  obtain ⟨⟨x0, x1, x2, x3, x4, x5⟩, _⟩ := rowN6 (nrow_below HR1.out hb)
  obtain ⟨⟨y0, y1, y2, y3, y4, y5⟩, _⟩ := rowN6 (nrow_below HO1.out hb)
  have HB2 : Hid (Below w.heap.size w w2) := HB1.out.trans (hb.mono HB1.out.size)
  clear hb
  go_wp2_with fail
  go_ret
  exact ⟨rfl, HB2.out⟩
set_option maxRecDepth 100000 in
set_option maxHeartbeats 2000000 in
theorem markMeterOut_any {B N c : Nat} {a : Option Addr} {f : Nat → Int} (X : Mt.M) (x : Int) (w : World) (h : UsOwn B N a c f w) (hn : N ≤ 1048576) :
    Calls Tryd.prog 10 #[muV X a N c x, .int .i64 1] w fun e w' => e = .returned (.int .i64 ((1 + N * 4 : Nat) : Int)) ∧ UsOwn B N a c (mk1 1) w' ∧ (∀ k, k < w.heap.size → a ≠ some ⟨k, 0, none⟩ → w'.heap[k]? = w.heap[k]?) ∧ w'.os = w.os ∧ w'.tape = w.tape ∧ w'.output = w.output ∧ w.heap.size ≤ w'.heap.size := by
  obtain ⟨W, hW⟩ : ∃ W, W = w.alloc (.cells #[.int .i64 X.d, .int .i64 X.u, .int .i64 X.day, .int .i64 X.s, .slice a N c, .int .i64 x] 29) := ⟨_, rfl⟩
  have HB : Hid (Below w.heap.size w W) := by show Below _ _ _; rw [hW]; exact nbel_alloc _ _
  have H := Lib.hid (h.below HB.out)
  have HW := Lib.hid hW
  clear hW h
  go_enter Tryd.func10, Tryd.ntmps10
  go_wp2_with fail
  rw [← HW.out]
  clear HW
  refine (umarkLs _ H.out hn).mono ?_
  rintro e w1 ⟨rfl, hm, hk, h1, h2, h3, h4⟩
  have HM := Lib.hid hm
  have HP : Hid ((∀ k, k < w.heap.size → a ≠ some ⟨k, 0, none⟩ → w1.heap[k]? = w.heap[k]?) ∧ w1.os = w.os ∧ w1.tape = w.tape ∧ w1.output = w.output ∧ w.heap.size ≤ w1.heap.size) := by
    have b := HB.out
    exact ⟨fun k hkk hne => (hk k (Nat.lt_of_lt_of_le hkk b.size) hne).trans (b.block k hkk), h1.trans b.os, h2.trans b.tape, h3.trans b.output, Nat.le_trans b.size h4⟩
  clear hm hk h1 h2 h3 h4
  obtain ⟨Q, hQ⟩ : ∃ Q : Nat, Q = 1 + N * 4 := ⟨_, rfl⟩
  rw [← hQ]
  have HQ := Lib.hid hQ
  clear hQ
  go_wp2_with fail
  go_ret
  exact ⟨by rw [← HQ.out]; rfl, HM.out, HP.out⟩
set_option maxRecDepth 100000 in
set_option maxHeartbeats 2000000 in
theorem heldMeterOut_any {B N c : Nat} {a : Option Addr} (X : Mt.M) (x : Int) (w : World) (h : UsOwn B N a c (mk1 1) w) (hn : N ≤ 1048576) :
    Calls Tryd.prog 11 #[muV X a N c x, .int .i64 1] w fun e w' => e = .returned (.int .i64 ((1 + N * 4 : Nat) : Int)) ∧ Below w.heap.size w w' := by
  obtain ⟨W, hW⟩ : ∃ W, W = w.alloc (.cells #[.int .i64 X.d, .int .i64 X.u, .int .i64 X.day, .int .i64 X.s, .slice a N c, .int .i64 x] 29) := ⟨_, rfl⟩
  have HB : Hid (Below w.heap.size w W) := by show Below _ _ _; rw [hW]; exact nbel_alloc _ _
  have H := Lib.hid (h.below HB.out)
  have HW := Lib.hid hW
  clear hW h
  go_enter Tryd.func11, Tryd.ntmps11
  go_wp2_with fail
  rw [← HW.out]
  clear HW
  refine (uheldLs _ H.out hn).mono ?_
  rintro e w1 ⟨rfl, rfl⟩
  obtain ⟨Q, hQ⟩ : ∃ Q : Nat, Q = 1 + N * 4 := ⟨_, rfl⟩
  rw [← hQ]
  have hQ0 : ¬ (Q : Int) < 0 := by omega
  have HQ := Lib.hid hQ
  clear hQ
  go_wp2_with fail
  go_ret
  exact ⟨by rw [← HQ.out]; rfl, HB.out⟩
namespace Mt
/-- What an answer holds. -/
noncomputable def ansM (ok : Prop) (X : M) : M := if dB ok = true then X else none
noncomputable def ansN (ok : Prop) (n : Nat) : Nat := if dB ok = true then n else 0
noncomputable def ansC (ok : Prop) (x : Int) : Int := if dB ok = true then 0 else x
end Mt
theorem MuEnd.tell {B : Nat} {ok : Prop} {x : Int} {X : Mt.M} {n : Nat} {U : Nat → Int} {e : Ending} {W : World} (h : MuEnd B ok x X n U e W) :
    ∃ a c, e = .returned (muV (Mt.ansM ok X) a (Mt.ansN ok n) c (Mt.ansC ok x)) ∧ UsOwn B (Mt.ansN ok n) a c U W := by
  unfold Mt.ansM Mt.ansN Mt.ansC
  rcases h with ⟨h, e⟩ | ⟨h, a, c, e, k⟩
  · rw [Mt.dB_ff h]; exact ⟨none, 0, by simpa using e, Or.inl ⟨rfl, rfl, rfl⟩⟩
  · rw [Mt.dB_tt h]; exact ⟨a, c, by simpa using e, by simpa using k⟩
/-- It lasts while nothing below a bound turns. -/
def Stb (h : Nat) (A : World → Prop) : Prop := ∀ W W' : World, (∀ k, k < h → k < W.heap.size → W'.heap[k]? = W.heap[k]?) → A W → A W'
/-- What stands once an answer lies in a variable. -/
structure PrM (V0 : World) (X : Mt.M) (n : Nat) (x : Int) (U : Nat → Int) (xb : Nat) (a : Option Addr) (c : Nat) (W : World) : Prop where
  bel : Below V0.heap.size V0 W
  row : W.rowIs xb 29 6 (rowN (muL X a n c x))
  own : UsOwn V0.heap.size n a c U W
  lo : V0.heap.size ≤ xb
/-- What stands in the law between its calls. -/
structure Lm (s h6 : Nat) (A : World → Prop) (X : Mt.M) (n : Nat) (x : Int) (s5 : Nat) (a5 : Option Addr) (c5 s6 : Nat) (a6 : Option Addr) (c6 : Nat) (U V : Nat → Int) (w W : World) : Prop where
  a : A W
  r5 : W.rowIs s5 29 6 (rowN (muL X a5 n c5 x))
  t5 : UsOwn s n a5 c5 U W
  r6 : W.rowIs s6 29 6 (rowN (muL X a6 n c6 x))
  t6 : UsOwn h6 n a6 c6 V W
  o5 : s ≤ s5 ∧ s5 < h6 ∧ h6 ≤ s6 ∧ ∀ k, a5 = some ⟨k, 0, none⟩ → k < h6
  bel : Below s w W
section
variable {s h6 : Nat} {A : World → Prop} {X : Mt.M} {n : Nat} {x : Int} {s5 : Nat} {a5 : Option Addr} {c5 s6 : Nat} {a6 : Option Addr} {c6 : Nat} {U V V' : Nat → Int} {w W W' : World}
theorem Lm.below (h : Lm s h6 A X n x s5 a5 c5 s6 a6 c6 U V w W) (hA : Stb h6 A) (hb : Below W.heap.size W W') : Lm s h6 A X n x s5 a5 c5 s6 a6 c6 U V w W' :=
  ⟨hA _ _ (fun k _ hk => hb.block k hk) h.a, nrow_below h.r5 hb, h.t5.below hb, nrow_below h.r6 hb, h.t6.below hb, h.o5, h.bel.trans (hb.mono (Nat.le_trans h.o5.1 (Nat.le_of_lt h.r5.lt)))⟩
theorem Lm.mark (h : Lm s h6 A X n x s5 a5 c5 s6 a6 c6 U V w W) (hA : Stb h6 A) (ht : UsOwn h6 n a6 c6 V' W') (hk : ∀ k, k < W.heap.size → a6 ≠ some ⟨k, 0, none⟩ → W'.heap[k]? = W.heap[k]?) (hm : W'.os = W.os ∧ W'.tape = W.tape ∧ W'.output = W.output ∧ W.heap.size ≤ W'.heap.size) : Lm s h6 A X n x s5 a5 c5 s6 a6 c6 U V' w W' := by
  have o := h.o5
  have lt : ∀ k, a6 = some ⟨k, 0, none⟩ → h6 ≤ k := fun k e => (h.t6.lt e).1
  exact ⟨hA _ _ (fun k h1 h2 => hk k h2 (fun e => by have := lt k e; omega)) h.a, h.r5.of_block (hk _ h.r5.lt (fun e => by have := lt _ e; omega)), h.t5.same (fun k e h2 => hk k h2 (fun e2 => by have := lt k e2; have := o.2.2.2 k e; omega)), h.r6.of_block (hk _ h.r6.lt (fun e => h.t6.ne h.r6 e rfl)), ht, o, h.bel.trans ⟨hm.1, hm.2.1, hm.2.2.1, hm.2.2.2, fun k hk2 => hk k (by have := h.r5.lt; omega) (fun e => by have := lt k e; omega)⟩⟩
end
end Go.Proofs.YtjcdkaojdpcagaaDoor
