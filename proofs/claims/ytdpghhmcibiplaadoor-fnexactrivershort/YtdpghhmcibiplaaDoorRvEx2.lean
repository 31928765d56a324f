/-
  The laws' marks of rivers and numbers, and how they are found again.
-/
import Derived.Test.YtdpghhmcibiplaaDoorRvEx1
namespace Go.Proofs.YtdpghhmcibiplaaDoor
open Go.RowKit Go.Deep

/-- One block alone may have changed. -/
structure Only (g : Nat) (w w' : World) : Prop where
  os : w'.os = w.os
  tape : w'.tape = w.tape
  output : w'.output = w.output
  size : w.heap.size ≤ w'.heap.size
  block : ∀ k, k < w.heap.size → k ≠ g → w'.heap[k]? = w.heap[k]?
theorem Only.refl (g : Nat) (w : World) : Only g w w := ⟨rfl, rfl, rfl, Nat.le_refl _, fun _ _ _ => rfl⟩
theorem Only.set {g : Nat} {w w' : World} (h : Only g w w') (i : Nat) (x : Value) : Only g w (w'.setCell ⟨g, i, none⟩ x) :=
  ⟨h.os, h.tape, h.output, by simpa using h.size, fun k hk hne => (blk_setCell_other _ _ _ _ (by show k ≠ g; exact hne)).trans (h.block k hk hne)⟩
theorem Only.of_below {g : Nat} {w w' : World} (h : Below w.heap.size w w') : Only g w w' := ⟨h.os, h.tape, h.output, h.size, fun k hk _ => h.block k hk⟩
theorem Only.below {B g : Nat} {w w' : World} (h : Only g w w') (h1 : B ≤ g) (h2 : B ≤ w.heap.size) : Below B w w' := ⟨h.os, h.tape, h.output, h.size, fun k hk => h.block k (by omega) (by omega)⟩
/-- N cells from k on are marked. -/
def MkBlk (T : TypeId) (g N k : Nat) (w : World) : Prop := ∃ m F, N ≤ m ∧ w.rowIs g T m F ∧ ∀ j, j < N → F j = .int .i64 ((k + j : Nat) : Int)
theorem MkBlk.block {T : TypeId} {g N k : Nat} {w w' : World} (h : MkBlk T g N k w) (e : w'.heap[g]? = w.heap[g]?) : MkBlk T g N k w' := by obtain ⟨m, F, h1, h2, h3⟩ := h; exact ⟨m, F, h1, h2.of_block e, h3⟩
theorem MkBlk.lt {T : TypeId} {g N k : Nat} {w : World} (h : MkBlk T g N k w) : g < w.heap.size := by obtain ⟨m, F, h1, h2, h3⟩ := h; exact h2.lt
theorem MkBlk.cell {T : TypeId} {g N k j : Nat} {w : World} (h : MkBlk T g N k w) (hj : j < N) : w.cell? ⟨g, j, none⟩ = some (.int .i64 ((k + j : Nat) : Int)) := by
  obtain ⟨m, F, h1, h2, h3⟩ := h
  rw [h2.cell (i := j) (by omega), h3 j hj]
/-- A block that is marked up to a place. -/
def MkPart (T : TypeId) (g m N k : Nat) (w : World) : Prop := ∃ F, w.rowIs g T m F ∧ ∀ j, j < N → F j = .int .i64 ((k + j : Nat) : Int)
theorem MkPart.put {T : TypeId} {g m N k : Nat} {w : World} (h : MkPart T g m N k w) (z : Int) (hz : z = ((k + N : Nat) : Int)) : MkPart T g m (N + 1) k (w.setCell ⟨g, N, none⟩ (.int .i64 z)) := by
  obtain ⟨F, h1, h2⟩ := h
  subst hz
  refine ⟨_, h1.set N _, fun j hj => ?_⟩
  by_cases e : j = N
  · subst e; simp
  · simp only [e, if_false]; exact h2 j (by omega)
theorem MkPart.cell {T : TypeId} {g m N k j : Nat} {w : World} (h : MkPart T g m N k w) (hj : j < m) : ∃ v, w.cell? ⟨g, j, none⟩ = some v := by obtain ⟨F, h1, _⟩ := h; exact ⟨_, h1.cell hj⟩
theorem MkPart.frozen {T : TypeId} {g m N k : Nat} {w : World} (h : MkPart T g m N k w) (j : Nat) : w.frozen? ⟨g, j, none⟩ = false := by obtain ⟨F, h1, _⟩ := h; exact h1.frozen j
theorem MkPart.lt {T : TypeId} {g m N k : Nat} {w : World} (h : MkPart T g m N k w) : g < w.heap.size := by obtain ⟨F, h1, _⟩ := h; exact h1.lt

set_option maxRecDepth 100000 in
set_option maxHeartbeats 2000000 in
theorem markReachS_any (g n c k : Nat) (rs : Nat → Rv.Rc) (w : World) (h : RcBlk g n rs w) (hn : n ≤ 1048576) (hk : k ≤ 16777216) :
    Calls Tryd.prog 20 #[.slice (some ⟨g, 0, none⟩) n c, .int .i64 k] w fun e w' => e = .returned (.int .i64 ((k + n * 5 : Nat) : Int)) ∧ MkBlk 43 g (n * 5) k w' ∧ Only g w w' := by
  obtain ⟨M, F0, hM, hR, _⟩ := h
  have H : Hid (MkPart 43 g (M * 5) 0 k w) := ⟨F0, hR, fun j hj => absurd hj (Nat.not_lt_zero _)⟩
  clear hR
  go_enter Tryd.func20, Tryd.ntmps20
  go_wp2_with fail
  go_loopw [1, 5] (fun kv iv wr => ∃ (i : Nat), i ≤ n ∧ kv = .int .i64 ((k + i * 5 : Nat) : Int) ∧ iv = .int .i64 i ∧ Hid (MkPart 43 g (M * 5) (i * 5) k wr) ∧ Hid (Only g w wr)) (fun _ iv _ => n - (intOf iv).toNat)
  case atStart => exact ⟨0, Nat.zero_le _, by simp, rfl, by simpa using H, Only.refl _ _⟩
  case round =>
    obtain ⟨i, hi, rfl, rfl, hP, hO⟩ := hrel
    clear H
    by_cases hlt : i < n
    · have hltz : (i : Int) < (n : Int) := by omega
      obtain ⟨v0, c0⟩ := hP.out.cell (j := i * 5) (by omega)
      obtain ⟨v1, c1⟩ := hP.out.cell (j := i * 5 + 1) (by omega)
      obtain ⟨v2, c2⟩ := hP.out.cell (j := i * 5 + 2) (by omega)
      obtain ⟨v3, c3⟩ := hP.out.cell (j := i * 5 + 3) (by omega)
      obtain ⟨v4, c4⟩ := hP.out.cell (j := i * 5 + 4) (by omega)
      have f0 := hP.out.frozen (i * 5)
      have f1 := hP.out.frozen (i * 5 + 1)
      have f2 := hP.out.frozen (i * 5 + 2)
      have f3 := hP.out.frozen (i * 5 + 3)
      have f4 := hP.out.frozen (i * 5 + 4)
      have zg : g < wr.heap.size := hP.out.lt
      obtain ⟨K, hK⟩ : ∃ K : Nat, K = k + i * 5 := ⟨_, rfl⟩
      rw [← hK]
      have hK2 : K ≤ 25165824 := by omega
      have HP5 := Lib.hid (((((hP.out.put (K : Int) (by omega)).put ((K : Int) + 1) (by omega)).put ((K : Int) + 1 + 1) (by omega)).put ((K : Int) + 1 + 1 + 1) (by omega)).put ((K : Int) + 1 + 1 + 1 + 1) (by omega))
      have HO5 := Lib.hid (((((hO.out.set (i * 5) (.int .i64 (K : Int))).set (i * 5 + 1) (.int .i64 ((K : Int) + 1))).set (i * 5 + 2) (.int .i64 ((K : Int) + 1 + 1))).set (i * 5 + 3) (.int .i64 ((K : Int) + 1 + 1 + 1))).set (i * 5 + 4) (.int .i64 ((K : Int) + 1 + 1 + 1 + 1)))
      have HKE : Hid (K = k + i * 5) := hK
      clear hP hO hK
      go_wp2_with fail
      go_roundw
      case rel =>
        refine ⟨i + 1, by omega, ?_, by go_num, ?_, HO5⟩
        · have := HKE.out
          congr 1; omega
        · have e : (i + 1) * 5 = i * 5 + 1 + 1 + 1 + 1 + 1 := by omega
          rw [e]; exact HP5
      case measure => simp [intOf]; omega
    · obtain rfl : i = n := by omega
      obtain ⟨F, r1, r2⟩ := hP.out
      go_wp2_with fail
      go_ret
      exact ⟨rfl, ⟨M * 5, F, by omega, r1, r2⟩, hO.out⟩

set_option maxRecDepth 100000 in
set_option maxHeartbeats 2000000 in
theorem markInt64S_any (g n c k : Nat) (f : Nat → Int) (w : World) (h : InBlk g n f w) (hn : n ≤ 1048576) (hk : k ≤ 16777216) :
    Calls Tryd.prog 21 #[.slice (some ⟨g, 0, none⟩) n c, .int .i64 k] w fun e w' => e = .returned (.int .i64 ((k + n : Nat) : Int)) ∧ MkBlk 2 g n k w' ∧ Only g w w' := by
  obtain ⟨M, F0, hM, hR, _⟩ := h
  have H : Hid (MkPart 2 g M 0 k w) := ⟨F0, hR, fun j hj => absurd hj (Nat.not_lt_zero _)⟩
  clear hR
  go_enter Tryd.func21, Tryd.ntmps21
  go_wp2_with fail
  go_loopw [1, 5] (fun kv iv wr => ∃ (i : Nat), i ≤ n ∧ kv = .int .i64 ((k + i : Nat) : Int) ∧ iv = .int .i64 i ∧ Hid (MkPart 2 g M i k wr) ∧ Hid (Only g w wr)) (fun _ iv _ => n - (intOf iv).toNat)
  case atStart => exact ⟨0, Nat.zero_le _, by simp, rfl, H, Only.refl _ _⟩
  case round =>
    obtain ⟨i, hi, rfl, rfl, hP, hO⟩ := hrel
    clear H
    by_cases hlt : i < n
    · have hltz : (i : Int) < (n : Int) := by omega
      obtain ⟨v0, c0⟩ := hP.out.cell (j := i) (by omega)
      have f0 := hP.out.frozen i
      have zg : g < wr.heap.size := hP.out.lt
      obtain ⟨K, hK⟩ : ∃ K : Nat, K = k + i := ⟨_, rfl⟩
      rw [← hK]
      have hK2 : K ≤ 25165824 := by omega
      have HP5 := Lib.hid (hP.out.put (K : Int) (by omega))
      have HO5 := Lib.hid (hO.out.set i (.int .i64 (K : Int)))
      have HKE : Hid (K = k + i) := hK
      clear hP hO hK
      go_wp2_with fail
      go_roundw
      case rel =>
        refine ⟨i + 1, by omega, ?_, by go_num, HP5, HO5⟩
        have := HKE.out
        congr 1; omega
      case measure => simp [intOf]; omega
    · obtain rfl : i = n := by omega
      obtain ⟨F, r1, r2⟩ := hP.out
      go_wp2_with fail
      go_ret
      exact ⟨rfl, ⟨M, F, hM, r1, r2⟩, hO.out⟩

set_option maxRecDepth 100000 in
set_option maxHeartbeats 2000000 in
theorem heldReachS_any (g n c k : Nat) (w : World) (h : MkBlk 43 g (n * 5) k w) (hn : n ≤ 1048576) (hk : k ≤ 16777216) :
    Calls Tryd.prog 64 #[.slice (some ⟨g, 0, none⟩) n c, .int .i64 k] w fun e w' => e = .returned (.int .i64 ((k + n * 5 : Nat) : Int)) ∧ w' = w := by
  have H := Lib.hid h
  clear h
  go_enter Tryd.func64, Tryd.ntmps64
  go_wp2_with fail
  go_loopw [1, 5] (fun kv iv wr => ∃ (i : Nat), i ≤ n ∧ kv = .int .i64 ((k + i * 5 : Nat) : Int) ∧ iv = .int .i64 i ∧ Hid (wr = w)) (fun _ iv _ => n - (intOf iv).toNat)
  case atStart => exact ⟨0, Nat.zero_le _, by simp, rfl, rfl⟩
  case round =>
    obtain ⟨i, hi, rfl, rfl, hW⟩ := hrel
    obtain rfl := hW.out
    clear hW
    by_cases hlt : i < n
    · have hltz : (i : Int) < (n : Int) := by omega
      obtain ⟨K, hK⟩ : ∃ K : Nat, K = k + i * 5 := ⟨_, rfl⟩
      have c0 : wr.cell? ⟨g, i * 5, none⟩ = some (.int .i64 (K : Int)) := (H.out.cell (j := i * 5) (by omega)).trans (by rw [hK])
      have c1 : wr.cell? ⟨g, i * 5 + 1, none⟩ = some (.int .i64 ((K : Int) + 1)) := (H.out.cell (j := i * 5 + 1) (by omega)).trans (by rw [hK]; simp; omega)
      have c2 : wr.cell? ⟨g, i * 5 + 2, none⟩ = some (.int .i64 ((K : Int) + 1 + 1)) := (H.out.cell (j := i * 5 + 2) (by omega)).trans (by rw [hK]; simp; omega)
      have c3 : wr.cell? ⟨g, i * 5 + 3, none⟩ = some (.int .i64 ((K : Int) + 1 + 1 + 1)) := (H.out.cell (j := i * 5 + 3) (by omega)).trans (by rw [hK]; simp; omega)
      have c4 : wr.cell? ⟨g, i * 5 + 4, none⟩ = some (.int .i64 ((K : Int) + 1 + 1 + 1 + 1)) := (H.out.cell (j := i * 5 + 4) (by omega)).trans (by rw [hK]; simp; omega)
      rw [← hK]
      have hK2 : K ≤ 25165824 := by omega
      have HKE : Hid (K = k + i * 5) := hK
      clear hK
      go_wp2_with fail
      go_roundw
      case rel =>
        refine ⟨i + 1, by omega, ?_, by go_num, by first | exact rfl | exact (trivial : True)⟩
        have := HKE.out
        congr 1; omega
      case measure => simp [intOf]; omega
    · obtain rfl : i = n := by omega
      go_wp2_with fail
      go_ret
      exact ⟨rfl, rfl⟩
set_option maxRecDepth 100000 in
set_option maxHeartbeats 2000000 in
theorem heldInt64S_any (g n c k : Nat) (w : World) (h : MkBlk 2 g n k w) (hn : n ≤ 1048576) (hk : k ≤ 16777216) :
    Calls Tryd.prog 26 #[.slice (some ⟨g, 0, none⟩) n c, .int .i64 k] w fun e w' => e = .returned (.int .i64 ((k + n : Nat) : Int)) ∧ w' = w := by
  have H := Lib.hid h
  clear h
  go_enter Tryd.func26, Tryd.ntmps26
  go_wp2_with fail
  go_loopw [1, 5] (fun kv iv wr => ∃ (i : Nat), i ≤ n ∧ kv = .int .i64 ((k + i : Nat) : Int) ∧ iv = .int .i64 i ∧ Hid (wr = w)) (fun _ iv _ => n - (intOf iv).toNat)
  case atStart => exact ⟨0, Nat.zero_le _, by simp, rfl, rfl⟩
  case round =>
    obtain ⟨i, hi, rfl, rfl, hW⟩ := hrel
    obtain rfl := hW.out
    clear hW
    by_cases hlt : i < n
    · have hltz : (i : Int) < (n : Int) := by omega
      obtain ⟨K, hK⟩ : ∃ K : Nat, K = k + i := ⟨_, rfl⟩
      have c0 : wr.cell? ⟨g, i, none⟩ = some (.int .i64 (K : Int)) := (H.out.cell (j := i) (by omega)).trans (by rw [hK])
      rw [← hK]
      have hK2 : K ≤ 25165824 := by omega
      have HKE : Hid (K = k + i) := hK
      clear hK
      go_wp2_with fail
      go_roundw
      case rel =>
        refine ⟨i + 1, by omega, ?_, by go_num, by first | exact rfl | exact (trivial : True)⟩
        have := HKE.out
        congr 1; omega
      case measure => simp [intOf]; omega
    · obtain rfl : i = n := by omega
      go_wp2_with fail
      go_ret
      exact ⟨rfl, rfl⟩
set_option maxRecDepth 100000 in
set_option maxHeartbeats 2000000 in
theorem heldInt64S_nil (k : Nat) (w : World) :
    Calls Tryd.prog 26 #[.slice none 0 0, .int .i64 k] w fun e w' => e = .returned (.int .i64 k) ∧ w' = w := by
  go_enter Tryd.func26, Tryd.ntmps26
  go_wp2_with fail
  go_loopw [1, 5] (fun kv iv wr => kv = .int .i64 k ∧ iv = .int .i64 0 ∧ wr = w) (fun _ _ _ => 0)
  case atStart => exact ⟨rfl, rfl, rfl⟩
  case round =>
    obtain ⟨rfl, rfl, rfl⟩ := hrel
    go_wp2_with fail
    go_ret
    exact ⟨rfl, rfl⟩
set_option maxRecDepth 100000 in
set_option maxHeartbeats 2000000 in
theorem markInt64S_nil (k : Nat) (w : World) :
    Calls Tryd.prog 21 #[.slice none 0 0, .int .i64 k] w fun e w' => e = .returned (.int .i64 k) ∧ w' = w := by
  go_enter Tryd.func21, Tryd.ntmps21
  go_wp2_with fail
  go_loopw [1, 5] (fun kv iv wr => kv = .int .i64 k ∧ iv = .int .i64 0 ∧ wr = w) (fun _ _ _ => 0)
  case atStart => exact ⟨rfl, rfl, rfl⟩
  case round =>
    obtain ⟨rfl, rfl, rfl⟩ := hrel
    go_wp2_with fail
    go_ret
    exact ⟨rfl, rfl⟩
set_option maxRecDepth 100000 in
set_option maxHeartbeats 2000000 in
theorem markReachS_nil (k : Nat) (w : World) :
    Calls Tryd.prog 20 #[.slice none 0 0, .int .i64 k] w fun e w' => e = .returned (.int .i64 k) ∧ w' = w := by
  go_enter Tryd.func20, Tryd.ntmps20
  go_wp2_with fail
  go_loopw [1, 5] (fun kv iv wr => kv = .int .i64 k ∧ iv = .int .i64 0 ∧ wr = w) (fun _ _ _ => 0)
  case atStart => exact ⟨rfl, rfl, rfl⟩
  case round =>
    obtain ⟨rfl, rfl, rfl⟩ := hrel
    go_wp2_with fail
    go_ret
    exact ⟨rfl, rfl⟩
set_option maxRecDepth 100000 in
set_option maxHeartbeats 2000000 in
theorem heldReachS_nil (k : Nat) (w : World) :
    Calls Tryd.prog 64 #[.slice none 0 0, .int .i64 k] w fun e w' => e = .returned (.int .i64 k) ∧ w' = w := by
  go_enter Tryd.func64, Tryd.ntmps64
  go_wp2_with fail
  go_loopw [1, 5] (fun kv iv wr => kv = .int .i64 k ∧ iv = .int .i64 0 ∧ wr = w) (fun _ _ _ => 0)
  case atStart => exact ⟨rfl, rfl, rfl⟩
  case round =>
    obtain ⟨rfl, rfl, rfl⟩ := hrel
    go_wp2_with fail
    go_ret
    exact ⟨rfl, rfl⟩
end Go.Proofs.YtdpghhmcibiplaaDoor
