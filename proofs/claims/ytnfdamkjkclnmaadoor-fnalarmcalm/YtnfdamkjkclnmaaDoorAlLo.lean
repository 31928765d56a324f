/-
  Answers of AlarmRun: compared, marked, found again.
-/
import Derived.Test.YtnfdamkjkclnmaaDoorAlEx1
import Derived.Test.YtnfdamkjkclnmaaDoorAlEx2
import Derived.Test.YtnfdamkjkclnmaaDoorMtMath
namespace Go.Proofs.YtnfdamkjkclnmaaDoor
open Go.RowKit Go.Deep

/-- A list of rings that an answer is: its own memory, or none. -/
def RgOwn (B N : Nat) (a : Option Addr) (c : Nat) (f : Nat → Int) (W : World) : Prop := (a = none ∧ N = 0 ∧ c = 0) ∨ ∃ g, a = some ⟨g, 0, none⟩ ∧ B ≤ g ∧ IsBlk 60 g (N * 2) f W
/-- How an answer is told. -/
def AoEnd (B : Nat) (ok : Prop) (x : Int) (X : Al.A) (n : Nat) (U : Nat → Int) (e : Ending) (W : World) : Prop :=
  (¬ ok ∧ e = .returned (aoV Al.none none 0 0 x)) ∨ (ok ∧ ∃ a c, e = .returned (aoV X a n c 0) ∧ RgOwn B n a c U W)
theorem RgOwn.same {B N c : Nat} {a : Option Addr} {f : Nat → Int} {W W' : World} (h : RgOwn B N a c f W) (hb : ∀ k, a = some ⟨k, 0, none⟩ → k < W.heap.size → W'.heap[k]? = W.heap[k]?) : RgOwn B N a c f W' := by
  rcases h with h | ⟨g, e, h1, h2⟩
  · exact Or.inl h
  · exact Or.inr ⟨g, e, h1, h2.block (hb g e h2.lt)⟩
theorem RgOwn.below {B N c : Nat} {a : Option Addr} {f : Nat → Int} {W W' : World} (h : RgOwn B N a c f W) (hb : Below W.heap.size W W') : RgOwn B N a c f W' := h.same (fun k _ hk => hb.block k hk)
theorem RgOwn.at_ {B N c : Nat} {a : Option Addr} {f : Nat → Int} {W : World} (h : RgOwn B N a c f W) : IsAt a (N * 2) f W := by
  rcases h with h | ⟨g, e, h1, h2⟩
  · exact Or.inl (by omega)
  · rw [e]; exact h2.at_
theorem RgOwn.low {B B' N c : Nat} {a : Option Addr} {f : Nat → Int} {W : World} (h : RgOwn B N a c f W) (hb : B' ≤ B) : RgOwn B' N a c f W := by
  rcases h with h | ⟨g, e, h1, h2⟩
  · exact Or.inl h
  · exact Or.inr ⟨g, e, Nat.le_trans hb h1, h2⟩
theorem RgOwn.lt {B N c : Nat} {a : Option Addr} {f : Nat → Int} {W : World} (h : RgOwn B N a c f W) {k : Nat} (e : a = some ⟨k, 0, none⟩) : B ≤ k ∧ k < W.heap.size := by
  rcases h with h | ⟨g, e', h1, h2⟩
  · rw [h.1] at e; cases e
  · rw [e'] at e; cases e; exact ⟨h1, h2.lt⟩
/-- A list of uses and an answer's variable are two blocks. -/
theorem RgOwn.ne {B N c n : Nat} {a : Option Addr} {f : Nat → Int} {W : World} {x : Nat} {F : Nat → Value} (h : RgOwn B N a c f W) (hr : W.rowIs x 34 n F) {k : Nat} (e : a = some ⟨k, 0, none⟩) : k ≠ x := by
  rcases h with h | ⟨g, e', h1, h2⟩
  · rw [h.1] at e; cases e
  · rw [e'] at e
    cases e
    rintro rfl
    obtain ⟨m, G, _, h3, _⟩ := h2
    obtain ⟨c1, q1, _⟩ := h3
    obtain ⟨c2, q2, _⟩ := hr
    rw [q1] at q2
    simp at q2
theorem gmarkLs {B N c : Nat} {a : Option Addr} {f : Nat → Int} (w : World) (h : RgOwn B N a c f w) (hn : N ≤ 1048576) :
    Calls Tryd.prog 30 #[.slice a N c, .int .i64 1] w fun e w' => e = .returned (.int .i64 ((1 + N * 2 : Nat) : Int)) ∧ RgOwn B N a c (mk1 1) w' ∧ (∀ k, k < w.heap.size → a ≠ some ⟨k, 0, none⟩ → w'.heap[k]? = w.heap[k]?) ∧ w'.os = w.os ∧ w'.tape = w.tape ∧ w'.output = w.output ∧ w.heap.size ≤ w'.heap.size := by
  rcases h with ⟨rfl, rfl, rfl⟩ | ⟨g, rfl, h1, h2⟩
  · refine (nmarkRingS_nil 1 w).mono ?_
    rintro e w' ⟨rfl, rfl⟩
    exact ⟨rfl, Or.inl ⟨rfl, rfl, rfl⟩, fun _ _ _ => rfl, rfl, rfl, rfl, Nat.le_refl _⟩
  · refine (nmarkRingS_any g N c 1 f w h2 hn (by omega)).mono ?_
    rintro e w' ⟨rfl, hm, ho⟩
    exact ⟨rfl, Or.inr ⟨g, rfl, h1, hm⟩, fun k hk hne => ho.block k hk (fun e => hne (by rw [e])), ho.os, ho.tape, ho.output, ho.size⟩
theorem gheldLs {B N c : Nat} {a : Option Addr} (w : World) (h : RgOwn B N a c (mk1 1) w) (hn : N ≤ 1048576) :
    Calls Tryd.prog 31 #[.slice a N c, .int .i64 1] w fun e w' => e = .returned (.int .i64 ((1 + N * 2 : Nat) : Int)) ∧ w' = w := by
  rcases h with ⟨rfl, rfl, rfl⟩ | ⟨g, rfl, h1, h2⟩
  · exact nheldRingS_nil 1 w
  · exact nheldRingS_any g N c 1 w h2 hn (by omega)
set_option maxRecDepth 100000 in
set_option maxHeartbeats 2000000 in
theorem eqAlarmOut_same (X : Al.A) (a b : Option Addr) (N c c' : Nat) (x : Int) (f : Nat → Int) (w : World) (h1 : IsAt a (N * 2) f w) (h2 : IsAt b (N * 2) f w) (hn : N ≤ 1048576) :
    Calls Tryd.prog 13 #[aoV X a N c x, aoV X b N c' x] w fun e w' => e = .returned (.bool true) ∧ Below w.heap.size w w' := by
  obtain ⟨W, hW⟩ : ∃ W, W = (w.alloc (.cells #[.int .i64 X.hi, .int .i64 X.lo, .int .i64 X.dl, .int .i64 X.st, .int .i64 X.ct, .int .i64 X.sh, .slice a N c, .int .i64 x] 34)).alloc (.cells #[.int .i64 X.hi, .int .i64 X.lo, .int .i64 X.dl, .int .i64 X.st, .int .i64 X.ct, .int .i64 X.sh, .slice b N c', .int .i64 x] 34) := ⟨_, rfl⟩
  have HB : Hid (Below w.heap.size w W) := by show Below _ _ _; rw [hW]; exact (nbel_alloc _ _).alloc (by simp) _
  have HR : Hid (W.rowIs w.heap.size 34 8 (rowN (aoL X a N c x))) := by show W.rowIs _ _ _ _; rw [hW]; exact nrow_below (rowN_alloc w _ _) (nbel_alloc _ _)
  have HO : Hid (W.rowIs (w.heap.size + 1) 34 8 (rowN (aoL X b N c' x))) := by show W.rowIs _ _ _ _; rw [hW]; exact rowN_alloc' (by simp) _ _
  have HW := Lib.hid hW
  have H1 := Lib.hid (h1.below HB.out)
  have H2 := Lib.hid (h2.below HB.out)
  clear hW h1 h2
  go_enter Tryd.func13, Tryd.ntmps13
  go_wp2_with fail
  rw [← HW.out]
  clear HW
  refine (eqAlarm_same X _).mono ?_
  rintro e w1 ⟨rfl, hb⟩
  have HR1 := Lib.hid (nrow_below HR.out hb)
  have HO1 := Lib.hid (nrow_below HO.out hb)
  have HB1 : Hid (Below w.heap.size w w1) := HB.out.trans (hb.mono HB.out.size)
  have H11 := Lib.hid (H1.out.below hb)
  have H21 := Lib.hid (H2.out.below hb)
  clear hb HR HO HB H1 H2
  obtain ⟨⟨x0, x1, x2, x3, x4, x5, x6, x7⟩, _⟩ := rowN8 HR1.out
  obtain ⟨⟨y0, y1, y2, y3, y4, y5, y6, y7⟩, _⟩ := rowN8 HO1.out
  go_wp2_with fail
  clear x0 x1 x2 x3 x4 x5 x6 x7 y0 y1 y2 y3 y4 y5 y6 y7
  refine (neqRingS_same _ _ N _ _ f _ H11.out H21.out hn).mono ?_
  rintro e w2 ⟨rfl, hb⟩
  obtain ⟨⟨x0, x1, x2, x3, x4, x5, x6, x7⟩, _⟩ := rowN8 (nrow_below HR1.out hb)
  obtain ⟨⟨y0, y1, y2, y3, y4, y5, y6, y7⟩, _⟩ := rowN8 (nrow_below HO1.out hb)
  have HB2 : Hid (Below w.heap.size w w2) := HB1.out.trans (hb.mono HB1.out.size)
  clear hb
  go_wp2_with fail
  go_ret
  exact ⟨rfl, HB2.out⟩
set_option maxRecDepth 100000 in
set_option maxHeartbeats 2000000 in
theorem markAlarmOut_any {B N c : Nat} {a : Option Addr} {f : Nat → Int} (X : Al.A) (x : Int) (w : World) (h : RgOwn B N a c f w) (hn : N ≤ 1048576) :
    Calls Tryd.prog 16 #[aoV X a N c x, .int .i64 1] w fun e w' => e = .returned (.int .i64 ((1 + N * 2 : Nat) : Int)) ∧ RgOwn B N a c (mk1 1) w' ∧ (∀ k, k < w.heap.size → a ≠ some ⟨k, 0, none⟩ → w'.heap[k]? = w.heap[k]?) ∧ w'.os = w.os ∧ w'.tape = w.tape ∧ w'.output = w.output ∧ w.heap.size ≤ w'.heap.size := by
  obtain ⟨W, hW⟩ : ∃ W, W = w.alloc (.cells #[.int .i64 X.hi, .int .i64 X.lo, .int .i64 X.dl, .int .i64 X.st, .int .i64 X.ct, .int .i64 X.sh, .slice a N c, .int .i64 x] 34) := ⟨_, rfl⟩
  have HB : Hid (Below w.heap.size w W) := by show Below _ _ _; rw [hW]; exact nbel_alloc _ _
  have H := Lib.hid (h.below HB.out)
  have HW := Lib.hid hW
  clear hW h
  go_enter Tryd.func16, Tryd.ntmps16
  go_wp2_with fail
  rw [← HW.out]
  clear HW
  refine (gmarkLs _ H.out hn).mono ?_
  rintro e w1 ⟨rfl, hm, hk, h1, h2, h3, h4⟩
  have HM := Lib.hid hm
  have HP : Hid ((∀ k, k < w.heap.size → a ≠ some ⟨k, 0, none⟩ → w1.heap[k]? = w.heap[k]?) ∧ w1.os = w.os ∧ w1.tape = w.tape ∧ w1.output = w.output ∧ w.heap.size ≤ w1.heap.size) := by
    have b := HB.out
    exact ⟨fun k hkk hne => (hk k (Nat.lt_of_lt_of_le hkk b.size) hne).trans (b.block k hkk), h1.trans b.os, h2.trans b.tape, h3.trans b.output, Nat.le_trans b.size h4⟩
  clear hm hk h1 h2 h3 h4
  obtain ⟨Q, hQ⟩ : ∃ Q : Nat, Q = 1 + N * 2 := ⟨_, rfl⟩
  rw [← hQ]
  have HQ := Lib.hid hQ
  clear hQ
  go_wp2_with fail
  go_ret
  exact ⟨by rw [← HQ.out]; rfl, HM.out, HP.out⟩
set_option maxRecDepth 100000 in
set_option maxHeartbeats 2000000 in
theorem heldAlarmOut_any {B N c : Nat} {a : Option Addr} (X : Al.A) (x : Int) (w : World) (h : RgOwn B N a c (mk1 1) w) (hn : N ≤ 1048576) :
    Calls Tryd.prog 17 #[aoV X a N c x, .int .i64 1] w fun e w' => e = .returned (.int .i64 ((1 + N * 2 : Nat) : Int)) ∧ Below w.heap.size w w' := by
  obtain ⟨W, hW⟩ : ∃ W, W = w.alloc (.cells #[.int .i64 X.hi, .int .i64 X.lo, .int .i64 X.dl, .int .i64 X.st, .int .i64 X.ct, .int .i64 X.sh, .slice a N c, .int .i64 x] 34) := ⟨_, rfl⟩
  have HB : Hid (Below w.heap.size w W) := by show Below _ _ _; rw [hW]; exact nbel_alloc _ _
  have H := Lib.hid (h.below HB.out)
  have HW := Lib.hid hW
  clear hW h
  go_enter Tryd.func17, Tryd.ntmps17
  go_wp2_with fail
  rw [← HW.out]
  clear HW
  refine (gheldLs _ H.out hn).mono ?_
  rintro e w1 ⟨rfl, rfl⟩
  obtain ⟨Q, hQ⟩ : ∃ Q : Nat, Q = 1 + N * 2 := ⟨_, rfl⟩
  rw [← hQ]
  have hQ0 : ¬ (Q : Int) < 0 := by omega
  have HQ := Lib.hid hQ
  clear hQ
  go_wp2_with fail
  go_ret
  exact ⟨by rw [← HQ.out]; rfl, HB.out⟩
namespace Al
/-- What an answer holds. -/
noncomputable def ansM (ok : Prop) (X : A) : A := if Mt.dB ok = true then X else none
noncomputable def ansN (ok : Prop) (n : Nat) : Nat := if Mt.dB ok = true then n else 0
noncomputable def ansC (ok : Prop) (x : Int) : Int := if Mt.dB ok = true then 0 else x
end Al
theorem AoEnd.tell {B : Nat} {ok : Prop} {x : Int} {X : Al.A} {n : Nat} {U : Nat → Int} {e : Ending} {W : World} (h : AoEnd B ok x X n U e W) :
    ∃ a c, e = .returned (aoV (Al.ansM ok X) a (Al.ansN ok n) c (Al.ansC ok x)) ∧ RgOwn B (Al.ansN ok n) a c U W := by
  unfold Al.ansM Al.ansN Al.ansC
  rcases h with ⟨h, e⟩ | ⟨h, a, c, e, k⟩
  · rw [Mt.dB_ff h]; exact ⟨none, 0, by simpa using e, Or.inl ⟨rfl, rfl, rfl⟩⟩
  · rw [Mt.dB_tt h]; exact ⟨a, c, by simpa using e, by simpa using k⟩
/-- It lasts while nothing below a bound turns. -/
def AlStb (h : Nat) (A : World → Prop) : Prop := ∀ W W' : World, (∀ k, k < h → k < W.heap.size → W'.heap[k]? = W.heap[k]?) → A W → A W'
/-- What stands once an answer lies in a variable. -/
structure PrA (V0 : World) (X : Al.A) (n : Nat) (x : Int) (U : Nat → Int) (xb : Nat) (a : Option Addr) (c : Nat) (W : World) : Prop where
  bel : Below V0.heap.size V0 W
  row : W.rowIs xb 34 8 (rowN (aoL X a n c x))
  own : RgOwn V0.heap.size n a c U W
  lo : V0.heap.size ≤ xb
/-- What stands in the law between its calls. -/
structure La (s h6 : Nat) (A : World → Prop) (X : Al.A) (n : Nat) (x : Int) (s5 : Nat) (a5 : Option Addr) (c5 s6 : Nat) (a6 : Option Addr) (c6 : Nat) (U V : Nat → Int) (w W : World) : Prop where
  a : A W
  r5 : W.rowIs s5 34 8 (rowN (aoL X a5 n c5 x))
  t5 : RgOwn s n a5 c5 U W
  r6 : W.rowIs s6 34 8 (rowN (aoL X a6 n c6 x))
  t6 : RgOwn h6 n a6 c6 V W
  o5 : s ≤ s5 ∧ s5 < h6 ∧ h6 ≤ s6 ∧ ∀ k, a5 = some ⟨k, 0, none⟩ → k < h6
  bel : Below s w W
section
variable {s h6 : Nat} {A : World → Prop} {X : Al.A} {n : Nat} {x : Int} {s5 : Nat} {a5 : Option Addr} {c5 s6 : Nat} {a6 : Option Addr} {c6 : Nat} {U V V' : Nat → Int} {w W W' : World}
theorem La.below (h : La s h6 A X n x s5 a5 c5 s6 a6 c6 U V w W) (hA : AlStb h6 A) (hb : Below W.heap.size W W') : La s h6 A X n x s5 a5 c5 s6 a6 c6 U V w W' :=
  ⟨hA _ _ (fun k _ hk => hb.block k hk) h.a, nrow_below h.r5 hb, h.t5.below hb, nrow_below h.r6 hb, h.t6.below hb, h.o5, h.bel.trans (hb.mono (Nat.le_trans h.o5.1 (Nat.le_of_lt h.r5.lt)))⟩
theorem La.mark (h : La s h6 A X n x s5 a5 c5 s6 a6 c6 U V w W) (hA : AlStb h6 A) (ht : RgOwn h6 n a6 c6 V' W') (hk : ∀ k, k < W.heap.size → a6 ≠ some ⟨k, 0, none⟩ → W'.heap[k]? = W.heap[k]?) (hm : W'.os = W.os ∧ W'.tape = W.tape ∧ W'.output = W.output ∧ W.heap.size ≤ W'.heap.size) : La s h6 A X n x s5 a5 c5 s6 a6 c6 U V' w W' := by
  have o := h.o5
  have lt : ∀ k, a6 = some ⟨k, 0, none⟩ → h6 ≤ k := fun k e => (h.t6.lt e).1
  exact ⟨hA _ _ (fun k h1 h2 => hk k h2 (fun e => by have := lt k e; omega)) h.a, h.r5.of_block (hk _ h.r5.lt (fun e => by have := lt _ e; omega)), h.t5.same (fun k e h2 => hk k h2 (fun e2 => by have := lt k e2; have := o.2.2.2 k e; omega)), h.r6.of_block (hk _ h.r6.lt (fun e => h.t6.ne h.r6 e rfl)), ht, o, h.bel.trans ⟨hm.1, hm.2.1, hm.2.2.1, hm.2.2.2, fun k hk2 => hk k (by have := h.r5.lt; omega) (fun e => by have := lt k e; omega)⟩⟩
end
end Go.Proofs.YtnfdamkjkclnmaaDoor
