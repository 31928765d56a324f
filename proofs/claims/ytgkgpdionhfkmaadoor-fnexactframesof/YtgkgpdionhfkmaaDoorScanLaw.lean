/-
  The law FnExactFramesOf, of two functions that answer the same.
-/
import Derived.Test.YtgkgpdionhfkmaaDoorScanEx
namespace Go.Proofs.YtgkgpdionhfkmaaDoor
open Go.RowKit Go.Deep

/-- A function that answers a text by these frames, in memory of its own. -/
def AnsFrames (G : World → Prop) (fn : Nat) (s : ByteArray) (xs : List Fr.Out) (l r c : Int) : Prop :=
  ∀ w : World, G w → Calls Tryd.prog fn #[.string s] w fun e w' => ∃ v, e = .returned (.agg #[v, .int .i64 l, .int .i64 r, .int .i64 c]) ∧ w'.ownsRow w.heap.size 27 4 v xs.length (xs.flatMap outCells) ∧ Below w.heap.size w w'

/-- The list is marked from 1 on. -/
def HeldV (B : Nat) (v : Value) (n : Nat) (W : World) : Prop := (v = .slice none 0 0 ∧ n = 0) ∨ ∃ g cap f, v = .slice (some ⟨g, 0, none⟩) n cap ∧ B ≤ g ∧ W.rowIs g 27 (cap * 4) f ∧ Marked 1 n f ∧ n ≤ cap
theorem HeldV.below {B n : Nat} {v : Value} {W W' : World} (h : HeldV B v n W) (hb : Below W.heap.size W W') : HeldV B v n W' := by
  rcases h with h | ⟨g, cap, f, e1, e2, e3, e4⟩
  · exact Or.inl h
  · exact Or.inr ⟨g, cap, f, e1, e2, e3.of_block (hb.block g e3.lt), e4⟩
/-- The list's own block alone may have changed. -/
structure ChgV (v : Value) (w w' : World) : Prop where
  os : w'.os = w.os
  tape : w'.tape = w.tape
  output : w'.output = w.output
  size : w.heap.size ≤ w'.heap.size
  block : ∀ k, k < w.heap.size → v.ownBlock ≠ some k → w'.heap[k]? = w.heap[k]?
theorem markOut_own {B : Nat} {v : Value} (xs : List Fr.Out) (l r c : Int) (w : World) (h : w.ownsRow B 27 4 v xs.length (xs.flatMap outCells)) (hx : xs.length ≤ 262000) :
    Calls Tryd.prog 17 #[.agg #[v, .int .i64 l, .int .i64 r, .int .i64 c], .int .i64 1] w fun e w' => e = .returned (.int .i64 ((1 + xs.length * 4 : Nat) : Int)) ∧ HeldV B v xs.length w' ∧ ChgV v w w' := by
  rcases own_split h with ⟨rfl, rfl⟩ | ⟨g, cap, f, rfl, h1, h2, h3⟩
  · refine (markOut_nil l r c 1 w).mono ?_
    rintro e w' ⟨rfl, hb⟩
    exact ⟨rfl, Or.inl ⟨rfl, rfl⟩, hb.os, hb.tape, hb.output, hb.size, fun k hk _ => hb.block k hk⟩
  · refine (markOut_any g xs.length cap 1 l r c f w h2 h3 (by omega) (by omega)).mono ?_
    rintro e w' ⟨rfl, ⟨f', hf, hm⟩, hc⟩
    exact ⟨rfl, Or.inr ⟨g, cap, f', rfl, h1, hf, hm, h3⟩, hc.os, hc.tape, hc.output, hc.size, fun k hk hne => hc.block k hk (fun e => hne (by rw [e]; rfl))⟩
theorem heldOut_own {B : Nat} {v : Value} (n : Nat) (l r c : Int) (w : World) (h : HeldV B v n w) (hx : n ≤ 262000) :
    Calls Tryd.prog 18 #[.agg #[v, .int .i64 l, .int .i64 r, .int .i64 c], .int .i64 1] w fun e w' => e = .returned (.int .i64 ((1 + n * 4 : Nat) : Int)) ∧ Below w.heap.size w w' := by
  rcases h with ⟨rfl, rfl⟩ | ⟨g, cap, f, rfl, h1, h2, h3, h4⟩
  · exact heldOut_nil l r c 1 w
  · exact heldOut_any g n cap 1 l r c f w h2 h3 h4 (by omega) (by omega)
/-- What stands from step to step of the law: both answers, the first one's list, the old memory. -/
structure ScSt (w : World) (X Y : Nat) (v0 vg : Value) (xs : List Fr.Out) (l r c : Int) (W : World) : Prop where
  rx : W.rowIs X 29 4 (so4 v0 l r c)
  ry : W.rowIs Y 29 4 (so4 vg l r c)
  o0 : W.ownsRow w.heap.size 27 4 v0 xs.length (xs.flatMap outCells)
  bl : Below w.heap.size w W
theorem ScSt.below {w : World} {X Y : Nat} {v0 vg : Value} {xs : List Fr.Out} {l r c : Int} {W W' : World} (h : ScSt w X Y v0 vg xs l r c W) (hb : Below W.heap.size W W') : ScSt w X Y v0 vg xs l r c W' :=
  ⟨h.rx.of_block (hb.block _ h.rx.lt), h.ry.of_block (hb.block _ h.ry.lt), ownsRow_block h.o0 (fun k _ hk => hb.block k hk), h.bl.trans (hb.mono h.bl.size)⟩
theorem ScSt.chg {w : World} {X Y : Nat} {v0 vg v : Value} {xs : List Fr.Out} {l r c : Int} {W W' : World} (h : ScSt w X Y v0 vg xs l r c W) (hc : ChgV v W W') (hX : v.ownBlock ≠ some X) (hY : v.ownBlock ≠ some Y) (h0 : ∀ k, v0.ownBlock = some k → v.ownBlock ≠ some k) (hw : ∀ k, k < w.heap.size → v.ownBlock ≠ some k) : ScSt w X Y v0 vg xs l r c W' := by
  refine ⟨h.rx.of_block (hc.block _ h.rx.lt hX), h.ry.of_block (hc.block _ h.ry.lt hY), ?_, ⟨hc.os.trans h.bl.os, hc.tape.trans h.bl.tape, hc.output.trans h.bl.output, Nat.le_trans h.bl.size hc.size, fun k hk => (hc.block k (Nat.lt_of_lt_of_le hk h.bl.size) (hw k hk)).trans (h.bl.block k hk)⟩⟩
  obtain ⟨h1, h2⟩ := h.o0
  refine ⟨h1, ?_⟩
  rcases h2 with h2 | ⟨b, cap, cur, e1, e2, e3, e4⟩
  · exact Or.inl h2
  · refine Or.inr ⟨b, cap, cur, e1, e2, ?_, e4⟩
    have hlt : b < W.heap.size := by
      rcases Nat.lt_or_ge b W.heap.size with h | h
      · exact h
      · rw [Array.getElem?_eq_none h] at e3; cases e3
    rw [hc.block b hlt (h0 b (by rw [e1]; rfl))]; exact e3
theorem ScSt.cells {w : World} {X Y : Nat} {v0 vg : Value} {xs : List Fr.Out} {l r c : Int} {W : World} (h : ScSt w X Y v0 vg xs l r c W) :
    W.cell? ⟨X, 0, none⟩ = some v0 ∧ W.cell? ⟨X, 1, none⟩ = some (.int .i64 l) ∧ W.cell? ⟨X, 2, none⟩ = some (.int .i64 r) ∧ W.cell? ⟨X, 3, none⟩ = some (.int .i64 c) ∧ W.cell? ⟨Y, 0, none⟩ = some vg ∧ W.cell? ⟨Y, 1, none⟩ = some (.int .i64 l) ∧ W.cell? ⟨Y, 2, none⟩ = some (.int .i64 r) ∧ W.cell? ⟨Y, 3, none⟩ = some (.int .i64 c) :=
  ⟨h.rx.cell (i := 0) (by omega), h.rx.cell (i := 1) (by omega), h.rx.cell (i := 2) (by omega), h.rx.cell (i := 3) (by omega), h.ry.cell (i := 0) (by omega), h.ry.cell (i := 1) (by omega), h.ry.cell (i := 2) (by omega), h.ry.cell (i := 3) (by omega)⟩

set_option linter.unusedSimpArgs false in
set_option maxRecDepth 100000 in
set_option maxHeartbeats 4000000 in
theorem scan_law (s : ByteArray) (xs : List Fr.Out) (l r c : Int) (hs : s.size ≤ 1048576) (hx : xs.length ≤ 262000) (G : World → Prop) (hG : ∀ {w w' : World}, G w → Below w.heap.size w w' → G w') (hS : AnsFrames G 15 s xs l r c) (hI : AnsFrames G 9 s xs l r c) (w : World) (hg : G w) :
    Calls Tryd.prog 6 #[.string s] w fun e w' => e = .returned (.bool true) ∧ Below w.heap.size w w' := by
  have z1 : ¬ (1048576 : Int) < (s.size : Int) := by omega
  have HS := Lib.hid hS
  have HI := Lib.hid hI
  have HG := Lib.hid hg
  clear hS hI hg
  go_enter Tryd.func6, Tryd.ntmps6
  go_wp2_with fail
  refine (HS.out _ HG.out).mono ?_
  rintro e w1 ⟨v0, rfl, ho0, hb⟩
  obtain ⟨a0, n0, rfl⟩ := own_form ho0
  have HB1 : Hid (Below w.heap.size w w1) := hb
  have HO1 := Lib.hid ho0
  clear hb ho0
  go_wp2_with fail
  refine (HI.out _ (hG HG.out (HB1.out.alloc HB1.out.size _))).mono ?_
  rintro e w2 ⟨vg, rfl, hog, hb⟩
  obtain ⟨ag, ng, rfl⟩ := own_form hog
  have HB2 : Hid (Below w.heap.size w w2) := (HB1.out.alloc HB1.out.size _).trans (hb.mono (by have := HB1.out.size; simp; omega))
  have HO2 : Hid (w2.ownsRow w.heap.size 27 4 (.slice a0 xs.length n0) xs.length (xs.flatMap outCells)) := ownsRow_block (HO1.out.alloc _) (fun k _ hk => hb.block k hk)
  have RX1 := World.rowIs_alloc w1 #[.slice a0 xs.length n0, .int .i64 l, .int .i64 r, .int .i64 c] 29 _ (so4_row (.slice a0 xs.length n0) l r c)
  have RX : Hid (w2.rowIs w1.heap.size 29 4 (so4 (.slice a0 xs.length n0) l r c)) := RX1.of_block (hb.block _ (by simp))
  have HZ : Hid (∀ k, (Value.slice a0 xs.length n0).ownBlock = some k → k < w1.heap.size) := fun k hk => (HO1.out.lt k hk).2
  have HG2 : Hid (w2.ownsRow (w1.heap.size + 1) 27 4 (.slice ag xs.length ng) xs.length (xs.flatMap outCells)) := by
    have e : (w1.alloc (.cells #[.slice a0 xs.length n0, .int .i64 l, .int .i64 r, .int .i64 c] 29)).heap.size = w1.heap.size + 1 := by simp
    rw [e] at hog; exact hog
  have zX : w1.heap.size < w2.heap.size := RX.out.lt
  have zW : w.heap.size ≤ w1.heap.size := HB1.out.size
  clear hb hog RX1 HO1 HB1
  generalize w1.heap.size = X at *
  have x0 : w2.cell? ⟨X, 0, none⟩ = some (.slice a0 xs.length n0) := RX.out.cell (i := 0) (by omega)
  have x1 : w2.cell? ⟨X, 1, none⟩ = some (.int .i64 l) := RX.out.cell (i := 1) (by omega)
  have x2 : w2.cell? ⟨X, 2, none⟩ = some (.int .i64 r) := RX.out.cell (i := 2) (by omega)
  have x3 : w2.cell? ⟨X, 3, none⟩ = some (.int .i64 c) := RX.out.cell (i := 3) (by omega)
  go_wp2_with fail
  refine (eqFramesOut_same xs l r c _ (HG2.out.alloc _) (HO2.out.alloc _) (by omega)).mono ?_
  rintro e w3 ⟨rfl, hb⟩
  have RY1 := World.rowIs_alloc w2 #[.slice ag xs.length ng, .int .i64 l, .int .i64 r, .int .i64 c] 29 _ (so4_row (.slice ag xs.length ng) l r c)
  have S3 : Hid (ScSt w X w2.heap.size (.slice a0 xs.length n0) (.slice ag xs.length ng) xs l r c w3) := (ScSt.mk (RX.out.alloc _) RY1 (HO2.out.alloc _) (HB2.out.alloc HB2.out.size _)).below hb
  have HG3 : Hid (w3.ownsRow (X + 1) 27 4 (.slice ag xs.length ng) xs.length (xs.flatMap outCells)) := ownsRow_block (HG2.out.alloc _) (fun k _ hk => hb.block k hk)
  have HV : Hid (∀ k, (Value.slice ag xs.length ng).ownBlock = some k → X + 1 ≤ k ∧ k < w2.heap.size) := HG2.out.lt
  clear RY1 hb HG2 HO2 HB2 RX x0 x1 x2 x3
  generalize w2.heap.size = Y at *
  obtain ⟨x0, x1, x2, x3, y0, y1, y2, y3⟩ := S3.out.cells
  go_wp2_with fail
  refine (markOut_own xs l r c _ HG3.out hx).mono ?_
  rintro e w4 ⟨rfl, hh, hc⟩
  have S4 : Hid (ScSt w X Y (.slice a0 xs.length n0) (.slice ag xs.length ng) xs l r c w4) := S3.out.chg hc (fun e => by have := HV.out _ e; omega) (fun e => by have := HV.out _ e; omega) (fun k hk e => by have := HV.out _ e; have := HZ.out _ hk; omega) (fun k hk e => by have := HV.out _ e; omega)
  have HH4 := Lib.hid hh
  clear hc hh S3 HG3 x0 x1 x2 x3 y0 y1 y2 y3
  obtain ⟨M, hM⟩ : ∃ M : Nat, M = 1 + xs.length * 4 := ⟨_, rfl⟩
  have HM : Hid (1 + xs.length * 4 = M) := hM.symm
  have hM0 : ¬ (M : Int) < 0 := by omega
  rw [← hM]
  clear hM
  obtain ⟨x0, x1, x2, x3, y0, y1, y2, y3⟩ := S4.out.cells
  go_wp2_with fail
  refine (heldOut_own xs.length l r c _ HH4.out hx).mono ?_
  rintro e w5 ⟨rfl, hb⟩
  rw [HM.out]
  have S5 := Lib.hid (S4.out.below hb)
  have HH5 := Lib.hid (HH4.out.below hb)
  clear hb S4 HH4 x0 x1 x2 x3 y0 y1 y2 y3
  obtain ⟨x0, x1, x2, x3, y0, y1, y2, y3⟩ := S5.out.cells
  go_wp2_with fail
  refine (HI.out _ (hG HG.out S5.out.bl)).mono ?_
  rintro e w6 ⟨vh, rfl, hoh, hb⟩
  obtain ⟨ah, nh, rfl⟩ := own_form hoh
  have S6 := Lib.hid (S5.out.below hb)
  have HH6 := Lib.hid (HH5.out.below hb)
  have HO6 := Lib.hid hoh
  clear hb hoh S5 HH5 x0 x1 x2 x3 y0 y1 y2 y3
  obtain ⟨x0, x1, x2, x3, y0, y1, y2, y3⟩ := S6.out.cells
  have zX6 : X < w6.heap.size := S6.out.rx.lt
  have zY6 : Y < w6.heap.size := S6.out.ry.lt
  go_wp2_with fail
  refine (eqFramesOut_same xs l r c _ (HO6.out.alloc _) (S6.out.o0.alloc _) (by omega)).mono ?_
  rintro e w7 ⟨rfl, hb⟩
  have S7 := Lib.hid ((S6.out.below ((Below.refl _ _).alloc (Nat.le_refl _) (.cells #[.slice ah xs.length nh, .int .i64 l, .int .i64 r, .int .i64 c] 29))).below hb)
  have HH7 := Lib.hid ((HH6.out.below ((Below.refl _ _).alloc (Nat.le_refl _) (.cells #[.slice ah xs.length nh, .int .i64 l, .int .i64 r, .int .i64 c] 29))).below hb)
  clear hb S6 HH6 HO6 x0 x1 x2 x3 y0 y1 y2 y3
  obtain ⟨x0, x1, x2, x3, y0, y1, y2, y3⟩ := S7.out.cells
  go_wp2_with fail
  refine (heldOut_own xs.length l r c _ HH7.out hx).mono ?_
  rintro e w8 ⟨rfl, hb⟩
  rw [HM.out]
  have HB8 : Hid (Below w.heap.size w w8) := (S7.out.below hb).bl
  clear hb S7 HH7 x0 x1 x2 x3 y0 y1 y2 y3
  go_wp2_with fail
  go_ret
  exact ⟨rfl, HB8.out⟩
end Go.Proofs.YtgkgpdionhfkmaaDoor
