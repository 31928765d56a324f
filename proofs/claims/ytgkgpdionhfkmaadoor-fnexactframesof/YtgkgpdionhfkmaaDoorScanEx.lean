/-
  The law FnExactFramesOf, of two functions that answer the same.
-/
import Derived.Test.YtgkgpdionhfkmaaDoorHeldS
namespace Go.Proofs.YtgkgpdionhfkmaaDoor
open Go.RowKit Go.Deep

/-- What a list that is owned looks like. -/
theorem own_split {B : Nat} {v : Value} {xs : List Fr.Out} {W : World} (h : W.ownsRow B 27 4 v xs.length (xs.flatMap outCells)) :
    (v = .slice none 0 0 ∧ xs = []) ∨ ∃ g cap f, v = .slice (some ⟨g, 0, none⟩) xs.length cap ∧ B ≤ g ∧ W.rowIs g 27 (cap * 4) f ∧ xs.length ≤ cap := by
  rcases h.2 with h2 | ⟨g, cap, cur, e1, e2, e3, e4, e5, e6, e7⟩
  · exact Or.inl ⟨h2.1, List.length_eq_zero_iff.1 h2.2⟩
  · refine Or.inr ⟨g, cap, fun i => cur[i]?.getD undef, e1, e2, ⟨cur, e3, e6, fun i hi => ?_⟩, e4⟩
    show cur[i]? = some (cur[i]?.getD undef)
    rw [Array.getElem?_eq_getElem (by omega)]
    rfl
theorem ownsRow_chg {B g size n : Nat} {e : TypeId} {v : Value} {xs : List Value} {W W' : World} (h : W.ownsRow B e size v n xs) (hc : Chg1 g W W') (hg : v.ownBlock ≠ some g) : W'.ownsRow B e size v n xs := by
  obtain ⟨h1, h2⟩ := h
  refine ⟨h1, ?_⟩
  rcases h2 with h2 | ⟨b, cap, cur, e1, e2, e3, e4⟩
  · exact Or.inl h2
  · refine Or.inr ⟨b, cap, cur, e1, e2, ?_, e4⟩
    have hlt : b < W.heap.size := by
      rcases Nat.lt_or_ge b W.heap.size with h | h
      · exact h
      · rw [Array.getElem?_eq_none h] at e3; cases e3
    rw [hc.block b hlt (fun e => hg (by rw [e1, ← e]; rfl))]; exact e3

set_option maxRecDepth 100000 in
set_option maxHeartbeats 2000000 in
theorem eqFramesOut_same {B1 B2 : Nat} {v1 v2 : Value} (xs : List Fr.Out) (l r c : Int) (w : World) (h1 : w.ownsRow B1 27 4 v1 xs.length (xs.flatMap outCells)) (h2 : w.ownsRow B2 27 4 v2 xs.length (xs.flatMap outCells)) (hx : xs.length ≤ 1048576) :
    Calls Tryd.prog 16 #[.agg #[v1, .int .i64 l, .int .i64 r, .int .i64 c], .agg #[v2, .int .i64 l, .int .i64 r, .int .i64 c]] w fun e w' => e = .returned (.bool true) ∧ Below w.heap.size w w' := by
  obtain ⟨a1, n1, rfl⟩ := own_form h1
  obtain ⟨a2, n2, rfl⟩ := own_form h2
  have H1 := Lib.hid h1
  have H2 := Lib.hid h2
  clear h1 h2
  go_enter Tryd.func16, Tryd.ntmps16
  go_wp2_with fail
  refine (eqFrameS_same xs _ ((H1.out.alloc _).alloc _) ((H2.out.alloc _).alloc _) hx).mono ?_
  rintro e w1 ⟨rfl, hb⟩
  have q0 : w1.cell? ⟨w.heap.size, 1, none⟩ = some (.int .i64 l) := (hb.cell (p := ⟨w.heap.size, 1, none⟩) (by simp <;> omega)).trans (by simp)
  have q1 : w1.cell? ⟨w.heap.size, 2, none⟩ = some (.int .i64 r) := (hb.cell (p := ⟨w.heap.size, 2, none⟩) (by simp <;> omega)).trans (by simp)
  have q2 : w1.cell? ⟨w.heap.size, 3, none⟩ = some (.int .i64 c) := (hb.cell (p := ⟨w.heap.size, 3, none⟩) (by simp <;> omega)).trans (by simp)
  have q3 : w1.cell? ⟨w.heap.size + 1, 1, none⟩ = some (.int .i64 l) := (hb.cell (p := ⟨w.heap.size + 1, 1, none⟩) (by simp <;> omega)).trans (by simp)
  have q4 : w1.cell? ⟨w.heap.size + 1, 2, none⟩ = some (.int .i64 r) := (hb.cell (p := ⟨w.heap.size + 1, 2, none⟩) (by simp <;> omega)).trans (by simp)
  have q5 : w1.cell? ⟨w.heap.size + 1, 3, none⟩ = some (.int .i64 c) := (hb.cell (p := ⟨w.heap.size + 1, 3, none⟩) (by simp <;> omega)).trans (by simp)
  have HB : Hid (Below w.heap.size w w1) := (((Below.refl w.heap.size w).alloc (Nat.le_refl _) _).alloc (by simp) _).trans (hb.mono (by simp <;> omega))
  clear hb
  go_wp2_with fail
  go_ret
  exact ⟨rfl, HB.out⟩

set_option maxRecDepth 100000 in
set_option maxHeartbeats 2000000 in
theorem markFrameS_nil (k : Nat) (w : World) :
    Calls Tryd.prog 30 #[.slice none 0 0, .int .i64 k] w fun e w' => e = .returned (.int .i64 k) ∧ Below w.heap.size w w' := by
  go_enter Tryd.func30, Tryd.ntmps30
  go_wp2_with fail
  go_loopw [1, 5] (fun kv iv wr => kv = .int .i64 k ∧ iv = .int .i64 0 ∧ wr = w) (fun _ _ _ => 0)
  case atStart => exact ⟨rfl, rfl, rfl⟩
  case round =>
    obtain ⟨rfl, rfl, rfl⟩ := hrel
    go_wp2_with fail
    go_ret
    exact ⟨rfl, Below.refl _ _⟩
set_option maxRecDepth 100000 in
set_option maxHeartbeats 2000000 in
theorem heldFrameS_nil (k : Nat) (w : World) :
    Calls Tryd.prog 31 #[.slice none 0 0, .int .i64 k] w fun e w' => e = .returned (.int .i64 k) ∧ Below w.heap.size w w' := by
  go_enter Tryd.func31, Tryd.ntmps31
  go_wp2_with fail
  go_loopw [1, 5] (fun kv iv wr => kv = .int .i64 k ∧ iv = .int .i64 0 ∧ wr = w) (fun _ _ _ => 0)
  case atStart => exact ⟨rfl, rfl, rfl⟩
  case round =>
    obtain ⟨rfl, rfl, rfl⟩ := hrel
    go_wp2_with fail
    go_ret
    exact ⟨rfl, Below.refl _ _⟩
theorem Chg1.pre {g : Nat} {w W w' : World} (hb : Below w.heap.size w W) (h : Chg1 g W w') : Chg1 g w w' :=
  ⟨h.os.trans hb.os, h.tape.trans hb.tape, h.output.trans hb.output, Nat.le_trans hb.size h.size, fun k hk hne => (h.block k (Nat.lt_of_lt_of_le hk hb.size) hne).trans (hb.block k hk)⟩
theorem Chg1.trans_below {B g : Nat} {w W w' : World} (hb : Below B w W) (h : Chg1 g W w') (hg : B ≤ g) (hB : B ≤ W.heap.size) : Below B w w' :=
  ⟨h.os.trans hb.os, h.tape.trans hb.tape, h.output.trans hb.output, Nat.le_trans hb.size h.size, fun k hk => (h.block k (Nat.lt_of_lt_of_le hk hB) (by omega)).trans (hb.block k hk)⟩

set_option maxRecDepth 100000 in
set_option maxHeartbeats 2000000 in
theorem markOut_nil (l r c : Int) (k : Nat) (w : World) :
    Calls Tryd.prog 17 #[.agg #[.slice none 0 0, .int .i64 l, .int .i64 r, .int .i64 c], .int .i64 k] w fun e w' => e = .returned (.int .i64 k) ∧ Below w.heap.size w w' := by
  go_enter Tryd.func17, Tryd.ntmps17
  go_wp2_with fail
  refine (markFrameS_nil k _).mono ?_
  rintro e w1 ⟨rfl, hb⟩
  have HB : Hid (Below w.heap.size w w1) := ((Below.refl w.heap.size w).alloc (Nat.le_refl _) _).trans (hb.mono (by simp))
  clear hb
  go_wp2_with fail
  go_ret
  exact ⟨rfl, HB.out⟩
set_option maxRecDepth 100000 in
set_option maxHeartbeats 2000000 in
theorem markOut_any (g n cap k : Nat) (l r c : Int) (f : Nat → Value) (w : World) (h : w.rowIs g 27 (cap * 4) f) (hn : n ≤ cap) (hn2 : n ≤ 1048576) (hk : k ≤ 1048576) :
    Calls Tryd.prog 17 #[.agg #[.slice (some ⟨g, 0, none⟩) n cap, .int .i64 l, .int .i64 r, .int .i64 c], .int .i64 k] w fun e w' => e = .returned (.int .i64 ((k + n * 4 : Nat) : Int)) ∧ (∃ f', w'.rowIs g 27 (cap * 4) f' ∧ Marked k n f') ∧ Chg1 g w w' := by
  have H := Lib.hid h
  clear h
  go_enter Tryd.func17, Tryd.ntmps17
  go_wp2_with fail
  refine (markFrameS_any g n cap k f _ (H.out.alloc _) hn hn2 hk).mono ?_
  rintro e w1 ⟨rfl, hf, hc⟩
  have HC : Hid (Chg1 g w w1) := hc.pre ((Below.refl w.heap.size w).alloc (Nat.le_refl _) _)
  have HF := Lib.hid hf
  clear hc hf
  go_wp2_with fail
  go_ret
  exact ⟨rfl, HF.out, HC.out⟩
set_option maxRecDepth 100000 in
set_option maxHeartbeats 2000000 in
theorem heldOut_nil (l r c : Int) (k : Nat) (w : World) :
    Calls Tryd.prog 18 #[.agg #[.slice none 0 0, .int .i64 l, .int .i64 r, .int .i64 c], .int .i64 k] w fun e w' => e = .returned (.int .i64 k) ∧ Below w.heap.size w w' := by
  have hk0 : ¬ (k : Int) < 0 := by omega
  go_enter Tryd.func18, Tryd.ntmps18
  go_wp2_with fail
  refine (heldFrameS_nil k _).mono ?_
  rintro e w1 ⟨rfl, hb⟩
  have HB : Hid (Below w.heap.size w w1) := ((Below.refl w.heap.size w).alloc (Nat.le_refl _) _).trans (hb.mono (by simp))
  clear hb
  go_wp2_with fail
  go_ret
  exact ⟨rfl, HB.out⟩
set_option maxRecDepth 100000 in
set_option maxHeartbeats 2000000 in
theorem heldOut_any (g n cap k : Nat) (l r c : Int) (f : Nat → Value) (w : World) (h : w.rowIs g 27 (cap * 4) f) (hm : Marked k n f) (hn : n ≤ cap) (hn2 : n ≤ 1048576) (hk : k ≤ 1048576) :
    Calls Tryd.prog 18 #[.agg #[.slice (some ⟨g, 0, none⟩) n cap, .int .i64 l, .int .i64 r, .int .i64 c], .int .i64 k] w fun e w' => e = .returned (.int .i64 ((k + n * 4 : Nat) : Int)) ∧ Below w.heap.size w w' := by
  have H := Lib.hid h
  clear h
  go_enter Tryd.func18, Tryd.ntmps18
  go_wp2_with fail
  refine (heldFrameS_any g n cap k f _ (H.out.alloc _) hm hn hn2 hk).mono ?_
  rintro e w1 ⟨rfl, hb⟩
  have HB : Hid (Below w.heap.size w w1) := ((Below.refl w.heap.size w).alloc (Nat.le_refl _) _).trans (hb.mono (by simp))
  clear hb
  obtain ⟨M, hM⟩ : ∃ M : Nat, M = k + n * 4 := ⟨_, rfl⟩
  rw [← hM]
  have hM0 : ¬ (M : Int) < 0 := by omega
  have HM2 : Hid (M = k + n * 4) := hM
  clear hM
  go_wp2_with fail
  go_ret
  refine ⟨?_, HB.out⟩
  rw [← HM2.out]
  rfl
end Go.Proofs.YtgkgpdionhfkmaaDoor
