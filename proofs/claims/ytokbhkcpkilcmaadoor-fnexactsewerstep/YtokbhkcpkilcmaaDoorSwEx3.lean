/-
  The laws' comparison and marks of an answer of SewerStep.
-/
import Derived.Test.YtokbhkcpkilcmaaDoorSwEx2
import Derived.Test.YtokbhkcpkilcmaaDoorSwI7
import Derived.Test.YtokbhkcpkilcmaaDoorSwS3
namespace Go.Proofs.YtokbhkcpkilcmaaDoor
open Go.RowKit Go.Deep

/-- An answer: where its three lists lie. -/
structure Ans where
  al : Option Addr
  af : Option Addr
  at_ : Option Addr
  cl : Nat
  cf : Nat
  ct : Nat
abbrev Ans.v (A : Ans) (N : Nat) (sea code : Int) : Value := .agg #[.slice A.al N A.cl, .slice A.af N A.cf, .slice A.at_ N A.ct, .int .i64 sea, .int .i64 code]
abbrev Ans.row (A : Ans) (N : Nat) (sea code : Int) : Nat → Value := ro5 (.slice A.al N A.cl) (.slice A.af N A.cf) (.slice A.at_ N A.ct) sea code
def Ans.lies (A : Ans) (N : Nat) (rs : Nat → Sw.Rc) (fl tk : Nat → Int) (W : World) : Prop := RcsAt A.al N rs W ∧ IntsAt A.af N fl W ∧ IntsAt A.at_ N tk W
theorem Ans.lies.same {A : Ans} {N : Nat} {rs : Nat → Sw.Rc} {fl tk : Nat → Int} {W W' : World} (h : A.lies N rs fl tk W) (hb : ∀ b, (A.al = some ⟨b, 0, none⟩ ∨ A.af = some ⟨b, 0, none⟩ ∨ A.at_ = some ⟨b, 0, none⟩) → b < W.heap.size → W'.heap[b]? = W.heap[b]?) : A.lies N rs fl tk W' :=
  ⟨IsAt.same h.1 (fun b e hl => hb b (Or.inl e) hl), IsAt.same h.2.1 (fun b e hl => hb b (Or.inr (Or.inl e)) hl), IsAt.same h.2.2 (fun b e hl => hb b (Or.inr (Or.inr e)) hl)⟩
theorem Ans.lies.below {A : Ans} {N : Nat} {rs : Nat → Sw.Rc} {fl tk : Nat → Int} {W W' : World} (h : A.lies N rs fl tk W) (hb : Below W.heap.size W W') : A.lies N rs fl tk W' := h.same (fun b _ hl => hb.block b hl)
/-- Its lists are its own. -/
def Ans.own (A : Ans) (B N : Nat) (rs : Nat → Sw.Rc) (fl tk : Nat → Int) (W : World) : Prop := (A = ⟨none, none, none, 0, 0, 0⟩ ∧ N = 0) ∨ ∃ gl gf gt, A.al = some ⟨gl, 0, none⟩ ∧ A.af = some ⟨gf, 0, none⟩ ∧ A.at_ = some ⟨gt, 0, none⟩ ∧ OutL B N gl gf gt rs fl tk W
theorem Ans.own.same {A : Ans} {B N : Nat} {rs : Nat → Sw.Rc} {fl tk : Nat → Int} {W W' : World} (h : A.own B N rs fl tk W) (hb : ∀ k, B ≤ k → k < W.heap.size → W'.heap[k]? = W.heap[k]?) : A.own B N rs fl tk W' := by
  rcases h with h | ⟨gl, gf, gt, e1, e2, e3, h⟩
  · exact Or.inl h
  · exact Or.inr ⟨gl, gf, gt, e1, e2, e3, h.same hb⟩
theorem Ans.own.lies {A : Ans} {B N : Nat} {rs : Nat → Sw.Rc} {fl tk : Nat → Int} {W : World} (h : A.own B N rs fl tk W) : A.lies N rs fl tk W := by
  rcases h with ⟨_, h⟩ | ⟨gl, gf, gt, e1, e2, e3, h⟩
  · exact ⟨Or.inl (by omega), Or.inl h, Or.inl h⟩
  · exact ⟨by rw [e1]; exact h.2.2.1.at_, by rw [e2]; exact h.2.2.2.1.at_, by rw [e3]; exact h.2.2.2.2.at_⟩
/-- Its lists bear the marks. -/
def Ans.marked (A : Ans) (B N : Nat) (W : World) : Prop := (A = ⟨none, none, none, 0, 0, 0⟩ ∧ N = 0) ∨ ∃ gl gf gt, A.al = some ⟨gl, 0, none⟩ ∧ A.af = some ⟨gf, 0, none⟩ ∧ A.at_ = some ⟨gt, 0, none⟩ ∧ (B ≤ gl ∧ B ≤ gf ∧ B ≤ gt) ∧ MkBlk 55 gl (N * 6) 1 W ∧ MkBlk 2 gf N (1 + N * 6) W ∧ MkBlk 2 gt N (1 + N * 6 + N) W
theorem Ans.marked.same {A : Ans} {B N : Nat} {W W' : World} (h : A.marked B N W) (hb : ∀ k, B ≤ k → k < W.heap.size → W'.heap[k]? = W.heap[k]?) : A.marked B N W' := by
  rcases h with h | ⟨gl, gf, gt, e1, e2, e3, ⟨b1, b2, b3⟩, h1, h2, h3⟩
  · exact Or.inl h
  · exact Or.inr ⟨gl, gf, gt, e1, e2, e3, ⟨b1, b2, b3⟩, h1.block (hb gl b1 h1.lt), h2.block (hb gf b2 h2.lt), h3.block (hb gt b3 h3.lt)⟩

set_option maxRecDepth 100000 in
set_option maxHeartbeats 2000000 in
theorem eqOutR (A C : Ans) (N : Nat) (rs : Nat → Sw.Rc) (fl tk : Nat → Int) (sea code : Int) (w : World) (h1 : A.lies N rs fl tk w) (h2 : C.lies N rs fl tk w) (hN : N ≤ 1048576) :
    Calls Tryd.prog 12 #[A.v N sea code, C.v N sea code] w fun e w' => e = .returned (.bool true) ∧ Below w.heap.size w w' := by
  obtain ⟨a1, a2, a3, a4, a5, a6⟩ := A
  obtain ⟨b1, b2, b3, b4, b5, b6⟩ := C
  have H1 := Lib.hid h1
  have H2 := Lib.hid h2
  clear h1 h2
  have hb0 : Below w.heap.size w ((w.alloc (.cells #[.slice a1 N a4, .slice a2 N a5, .slice a3 N a6, .int .i64 sea, .int .i64 code] 27)).alloc (.cells #[.slice b1 N b4, .slice b2 N b5, .slice b3 N b6, .int .i64 sea, .int .i64 code] 27)) := ((Below.refl _ _).alloc (Nat.le_refl _) _).alloc (by simp) _
  have RX := World.rowIs_alloc w #[.slice a1 N a4, .slice a2 N a5, .slice a3 N a6, .int .i64 sea, .int .i64 code] 27 _ (ro5_row (.slice a1 N a4) (.slice a2 N a5) (.slice a3 N a6) sea code)
  have RX0 := Lib.hid (RX.alloc (.cells #[.slice b1 N b4, .slice b2 N b5, .slice b3 N b6, .int .i64 sea, .int .i64 code] 27))
  have RY := World.rowIs_alloc (w.alloc (.cells #[.slice a1 N a4, .slice a2 N a5, .slice a3 N a6, .int .i64 sea, .int .i64 code] 27)) #[.slice b1 N b4, .slice b2 N b5, .slice b3 N b6, .int .i64 sea, .int .i64 code] 27 _ (ro5_row (.slice b1 N b4) (.slice b2 N b5) (.slice b3 N b6) sea code)
  rw [World.size_alloc] at RY
  have RY0 := Lib.hid RY
  have HB0 := Lib.hid hb0
  clear RX RY hb0
  go_enter Tryd.func12, Tryd.ntmps12
  go_wp2_with fail
  generalize ((w.alloc (.cells #[.slice a1 N a4, .slice a2 N a5, .slice a3 N a6, .int .i64 sea, .int .i64 code] 27)).alloc (.cells #[.slice b1 N b4, .slice b2 N b5, .slice b3 N b6, .int .i64 sea, .int .i64 code] 27)) = W0 at *
  refine (eqReachS_same _ _ N _ _ rs _ (H1.out.below HB0.out).1 (H2.out.below HB0.out).1 hN).mono ?_
  rintro e w1 ⟨rfl, hb⟩
  have HB1 : Hid (Below w.heap.size w w1) := HB0.out.trans (hb.mono HB0.out.size)
  have RX1 : Hid (w1.rowIs w.heap.size 27 5 _) := RX0.out.of_block (hb.block _ RX0.out.lt)
  have RY1 : Hid (w1.rowIs (w.heap.size + 1) 27 5 _) := RY0.out.of_block (hb.block _ RY0.out.lt)
  clear hb RX0 RY0 HB0
  have x1 : w1.cell? ⟨w.heap.size, 1, none⟩ = some (.slice a2 N a5) := RX1.out.cell (i := 1) (by omega)
  have y1 : w1.cell? ⟨w.heap.size + 1, 1, none⟩ = some (.slice b2 N b5) := RY1.out.cell (i := 1) (by omega)
  go_wp2_with fail
  refine (eqInt64S_same _ _ N _ _ fl _ (H1.out.below HB1.out).2.1 (H2.out.below HB1.out).2.1 hN).mono ?_
  rintro e w2 ⟨rfl, hb⟩
  have HB2 : Hid (Below w.heap.size w w2) := HB1.out.trans (hb.mono HB1.out.size)
  have RX2 : Hid (w2.rowIs w.heap.size 27 5 _) := RX1.out.of_block (hb.block _ RX1.out.lt)
  have RY2 : Hid (w2.rowIs (w.heap.size + 1) 27 5 _) := RY1.out.of_block (hb.block _ RY1.out.lt)
  clear hb RX1 RY1 HB1 x1 y1
  have x1 : w2.cell? ⟨w.heap.size, 2, none⟩ = some (.slice a3 N a6) := RX2.out.cell (i := 2) (by omega)
  have y1 : w2.cell? ⟨w.heap.size + 1, 2, none⟩ = some (.slice b3 N b6) := RY2.out.cell (i := 2) (by omega)
  go_wp2_with fail
  refine (eqInt64S_same _ _ N _ _ tk _ (H1.out.below HB2.out).2.2 (H2.out.below HB2.out).2.2 hN).mono ?_
  rintro e w3 ⟨rfl, hb⟩
  have HB3 : Hid (Below w.heap.size w w3) := HB2.out.trans (hb.mono HB2.out.size)
  have RX3 : Hid (w3.rowIs w.heap.size 27 5 _) := RX2.out.of_block (hb.block _ RX2.out.lt)
  have RY3 : Hid (w3.rowIs (w.heap.size + 1) 27 5 _) := RY2.out.of_block (hb.block _ RY2.out.lt)
  clear hb RX2 RY2 HB2 x1 y1
  have x1 : w3.cell? ⟨w.heap.size, 3, none⟩ = some (.int .i64 sea) := RX3.out.cell (i := 3) (by omega)
  have y1 : w3.cell? ⟨w.heap.size + 1, 3, none⟩ = some (.int .i64 sea) := RY3.out.cell (i := 3) (by omega)
  have x2 : w3.cell? ⟨w.heap.size, 4, none⟩ = some (.int .i64 code) := RX3.out.cell (i := 4) (by omega)
  have y2 : w3.cell? ⟨w.heap.size + 1, 4, none⟩ = some (.int .i64 code) := RY3.out.cell (i := 4) (by omega)
  go_wp2_with fail
  go_ret
  exact ⟨rfl, HB3.out⟩

/-- Three blocks alone may have changed. -/
structure Only3 (A : Ans) (w w' : World) : Prop where
  os : w'.os = w.os
  tape : w'.tape = w.tape
  output : w'.output = w.output
  size : w.heap.size ≤ w'.heap.size
  block : ∀ k, k < w.heap.size → A.al ≠ some ⟨k, 0, none⟩ → A.af ≠ some ⟨k, 0, none⟩ → A.at_ ≠ some ⟨k, 0, none⟩ → w'.heap[k]? = w.heap[k]?

set_option maxRecDepth 100000 in
set_option maxHeartbeats 2000000 in
theorem markOutR (A : Ans) (B N : Nat) (rs : Nat → Sw.Rc) (fl tk : Nat → Int) (sea code : Int) (w : World) (h : A.own B N rs fl tk w) (hN : N ≤ 1048576) :
    Calls Tryd.prog 17 #[A.v N sea code, .int .i64 1] w fun e w' => e = .returned (.int .i64 ((1 + N * 6 + N + N : Nat) : Int)) ∧ A.marked B N w' ∧ Only3 A w w' := by
  rcases h with ⟨rfl, rfl⟩ | ⟨gl, gf, gt, e1, e2, e3, h⟩
  · have HB : Hid (Below w.heap.size w (w.alloc (.cells #[.slice none 0 0, .slice none 0 0, .slice none 0 0, .int .i64 sea, .int .i64 code] 27))) := (Below.refl _ _).alloc (Nat.le_refl _) _
    go_enter Tryd.func17, Tryd.ntmps17
    go_wp2_with fail
    refine (markReachS_nil 1 _).mono ?_
    rintro e w1 ⟨rfl, rfl⟩
    go_wp2_with fail
    refine (markInt64S_nil 1 _).mono ?_
    rintro e w1 ⟨rfl, rfl⟩
    go_wp2_with fail
    refine (markInt64S_nil 1 _).mono ?_
    rintro e w1 ⟨rfl, rfl⟩
    go_wp2_with fail
    go_ret
    exact ⟨rfl, Or.inl ⟨rfl, rfl⟩, HB.out.os, HB.out.tape, HB.out.output, HB.out.size, fun k hk _ _ _ => HB.out.block k hk⟩
  · obtain ⟨a1, a2, a3, a4, a5, a6⟩ := A
    simp only at e1 e2 e3
    subst e1 e2 e3
    obtain ⟨⟨b1, b2, b3⟩, ⟨n1, n2, n3⟩, k1, k2, k3⟩ := h
    have RX := World.rowIs_alloc w #[.slice (some ⟨gl, 0, none⟩) N a4, .slice (some ⟨gf, 0, none⟩) N a5, .slice (some ⟨gt, 0, none⟩) N a6, .int .i64 sea, .int .i64 code] 27 _ (ro5_row (.slice (some ⟨gl, 0, none⟩) N a4) (.slice (some ⟨gf, 0, none⟩) N a5) (.slice (some ⟨gt, 0, none⟩) N a6) sea code)
    have RX0 := Lib.hid RX
    have hB0 : Below w.heap.size w (w.alloc (.cells #[.slice (some ⟨gl, 0, none⟩) N a4, .slice (some ⟨gf, 0, none⟩) N a5, .slice (some ⟨gt, 0, none⟩) N a6, .int .i64 sea, .int .i64 code] 27)) := (Below.refl _ _).alloc (Nat.le_refl _) _
    have HB0 := Lib.hid hB0
    have z1 : gl ≠ w.heap.size := by have := k1.lt; omega
    have z2 : gf ≠ w.heap.size := by have := k2.lt; omega
    have z3 : gt ≠ w.heap.size := by have := k3.lt; omega
    have K1 := Lib.hid (k1.block (hB0.block _ k1.lt))
    have K2 := Lib.hid (k2.block (hB0.block _ k2.lt))
    have K3 := Lib.hid (k3.block (hB0.block _ k3.lt))
    clear RX hB0 k1 k2 k3
    go_enter Tryd.func17, Tryd.ntmps17
    go_wp2_with fail
    generalize (w.alloc (.cells #[.slice (some ⟨gl, 0, none⟩) N a4, .slice (some ⟨gf, 0, none⟩) N a5, .slice (some ⟨gt, 0, none⟩) N a6, .int .i64 sea, .int .i64 code] 27)) = W0 at *
    refine (markReachS_any gl N a4 1 rs _ K1.out hN (by omega)).mono ?_
    rintro e w1 ⟨rfl, hm1, ho1⟩
    have M1 := Lib.hid hm1
    have O1 := Lib.hid ho1
    have RX1 : Hid (w1.rowIs w.heap.size 27 5 _) := RX0.out.of_block (ho1.block _ RX0.out.lt z1.symm)
    have K21 := Lib.hid (K2.out.block (ho1.block _ K2.out.lt n1.symm))
    have K31 := Lib.hid (K3.out.block (ho1.block _ K3.out.lt n2.symm))
    clear hm1 ho1 RX0 K1 K2 K3
    have x1 : w1.cell? ⟨w.heap.size, 1, none⟩ = some (.slice (some ⟨gf, 0, none⟩) N a5) := RX1.out.cell (i := 1) (by omega)
    go_wp2_with fail
    refine (markInt64S_any gf N a5 (1 + N * 6) fl _ K21.out hN (by omega)).mono ?_
    rintro e w2 ⟨rfl, hm2, ho2⟩
    have M12 := Lib.hid (M1.out.block (ho2.block _ M1.out.lt n1))
    have M2 := Lib.hid hm2
    have O2 := Lib.hid ho2
    have RX2 : Hid (w2.rowIs w.heap.size 27 5 _) := RX1.out.of_block (ho2.block _ RX1.out.lt z2.symm)
    have K32 := Lib.hid (K31.out.block (ho2.block _ K31.out.lt n3.symm))
    clear hm2 ho2 RX1 K21 K31 M1 x1
    have x1 : w2.cell? ⟨w.heap.size, 2, none⟩ = some (.slice (some ⟨gt, 0, none⟩) N a6) := RX2.out.cell (i := 2) (by omega)
    go_wp2_with fail
    refine (markInt64S_any gt N a6 (1 + N * 6 + N) tk _ K32.out hN (by omega)).mono ?_
    rintro e w3 ⟨rfl, hm3, ho3⟩
    have M13 := Lib.hid (M12.out.block (ho3.block _ M12.out.lt n2))
    have M23 := Lib.hid (M2.out.block (ho3.block _ M2.out.lt n3))
    have M3 := Lib.hid hm3
    have O3 := Lib.hid ho3
    clear hm3 ho3 RX2 K32 M12 M2 x1
    go_wp2_with fail
    go_ret
    refine ⟨rfl, Or.inr ⟨gl, gf, gt, rfl, rfl, rfl, ⟨b1, b2, b3⟩, M13.out, M23.out, M3.out⟩, ?_⟩
    have hz := HB0.out.size
    exact ⟨O3.out.os.trans (O2.out.os.trans (O1.out.os.trans HB0.out.os)), O3.out.tape.trans (O2.out.tape.trans (O1.out.tape.trans HB0.out.tape)), O3.out.output.trans (O2.out.output.trans (O1.out.output.trans HB0.out.output)), Nat.le_trans hz (Nat.le_trans O1.out.size (Nat.le_trans O2.out.size O3.out.size)), fun k hk q1 q2 q3 => by
      have p1 : k ≠ gl := fun e => q1 (by rw [e])
      have p2 : k ≠ gf := fun e => q2 (by rw [e])
      have p3 : k ≠ gt := fun e => q3 (by rw [e])
      have s1 := O1.out.size
      have s2 := O2.out.size
      exact ((O3.out.block k (by omega) p3).trans (O2.out.block k (by omega) p2)).trans ((O1.out.block k (by omega) p1).trans (HB0.out.block k hk))⟩

set_option maxRecDepth 100000 in
set_option maxHeartbeats 2000000 in
theorem heldOutR (A : Ans) (B N : Nat) (sea code : Int) (w : World) (h : A.marked B N w) (hN : N ≤ 1048576) :
    Calls Tryd.prog 18 #[A.v N sea code, .int .i64 1] w fun e w' => e = .returned (.int .i64 ((1 + N * 6 + N + N : Nat) : Int)) ∧ Below w.heap.size w w' := by
  rcases h with ⟨rfl, rfl⟩ | ⟨gl, gf, gt, e1, e2, e3, _, k1, k2, k3⟩
  · go_enter Tryd.func18, Tryd.ntmps18
    go_wp2_with fail
    refine (heldReachS_nil 1 _).mono ?_
    rintro e w1 ⟨rfl, rfl⟩
    go_wp2_with fail
    refine (heldInt64S_nil 1 _).mono ?_
    rintro e w1 ⟨rfl, rfl⟩
    go_wp2_with fail
    refine (heldInt64S_nil 1 _).mono ?_
    rintro e w1 ⟨rfl, rfl⟩
    go_wp2_with fail
    go_ret
    exact ⟨rfl, (Below.refl _ _).alloc (Nat.le_refl _) _⟩
  · obtain ⟨a1, a2, a3, a4, a5, a6⟩ := A
    simp only at e1 e2 e3
    subst e1 e2 e3
    have hB0 : Below w.heap.size w (w.alloc (.cells #[.slice (some ⟨gl, 0, none⟩) N a4, .slice (some ⟨gf, 0, none⟩) N a5, .slice (some ⟨gt, 0, none⟩) N a6, .int .i64 sea, .int .i64 code] 27)) := (Below.refl _ _).alloc (Nat.le_refl _) _
    have HB0 := Lib.hid hB0
    have K1 := Lib.hid (k1.block (hB0.block _ k1.lt))
    have K2 := Lib.hid (k2.block (hB0.block _ k2.lt))
    have K3 := Lib.hid (k3.block (hB0.block _ k3.lt))
    obtain ⟨P, hP⟩ : ∃ P : Nat, P = 1 + N * 6 := ⟨_, rfl⟩
    obtain ⟨Q, hQ⟩ : ∃ Q : Nat, Q = 1 + N * 6 + N := ⟨_, rfl⟩
    obtain ⟨R, hR⟩ : ∃ R : Nat, R = 1 + N * 6 + N + N := ⟨_, rfl⟩
    have HP : Hid (1 + N * 6 = P) := hP.symm
    have HQ : Hid (P + N = Q) := by rw [hP, hQ]; exact rfl
    have HR : Hid (Q + N = R) := by rw [hQ, hR]; exact rfl
    have HQ' : Hid (1 + N * 6 + N = Q) := hQ.symm
    have HR' : Hid (1 + N * 6 + N + N = R) := hR.symm
    have hP0 : ¬ (P : Int) < 0 := by omega
    have hQ0 : ¬ (Q : Int) < 0 := by omega
    have hR0 : ¬ (R : Int) < 0 := by omega
    have hP1 : P ≤ 16777216 := by omega
    have hQ1 : Q ≤ 16777216 := by omega
    clear hB0 k1 k2 k3 hP hQ hR
    go_enter Tryd.func18, Tryd.ntmps18
    go_wp2_with fail
    refine (heldReachS_any gl N a4 1 _ K1.out hN (by omega)).mono ?_
    rintro e w1 ⟨rfl, rfl⟩
    rw [HP.out]
    go_wp2_with fail
    refine (heldInt64S_any gf N a5 P _ (by rw [← HP.out]; exact K2.out) hN hP1).mono ?_
    rintro e w1 ⟨rfl, rfl⟩
    rw [HQ.out]
    go_wp2_with fail
    refine (heldInt64S_any gt N a6 Q _ (by rw [← HQ'.out]; exact K3.out) hN hQ1).mono ?_
    rintro e w1 ⟨rfl, rfl⟩
    rw [HR.out]
    go_wp2_with fail
    go_ret
    exact ⟨by rw [HR'.out]; rfl, HB0.out⟩
end Go.Proofs.YtokbhkcpkilcmaaDoor
