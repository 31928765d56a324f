/-
  The exact laws of single frames, from what the program's functions answer.
-/
import Derived.Test.YtgkgpdionhfkmaaFrSpec
namespace Go.Proofs.Ytgkgpdionhfkmaa
open Go.RowKit

theorem keepFour {w W W' : World} {X : Nat} {a b c d : Value} (hb : Below W.heap.size W W') (h : W.cell? ⟨X, 0, none⟩ = some a ∧ W.cell? ⟨X, 1, none⟩ = some b ∧ W.cell? ⟨X, 2, none⟩ = some c ∧ W.cell? ⟨X, 3, none⟩ = some d ∧ Hid (Below w.heap.size w W)) :
    W'.cell? ⟨X, 0, none⟩ = some a ∧ W'.cell? ⟨X, 1, none⟩ = some b ∧ W'.cell? ⟨X, 2, none⟩ = some c ∧ W'.cell? ⟨X, 3, none⟩ = some d ∧ Hid (Below w.heap.size w W') := by
  obtain ⟨h0, h1, h2, h3, hB⟩ := h
  have k : ∀ {p : Addr} {v : Value}, W.cell? p = some v → W'.cell? p = some v := fun h => (hb.cell (World.block_lt_of_cell? _ _ h)).trans h
  exact ⟨k h0, k h1, k h2, k h3, hB.out.trans (hb.mono hB.out.size)⟩
set_option maxRecDepth 100000 in
set_option maxHeartbeats 2000000 in
/-- FnExactFrameSum, of two functions that answer the same. -/
theorem sum_law (s : ByteArray) (x : Int) (hs : s.size ≤ 1048576) (hS : ∀ w : World, Calls Try.prog 10 #[.string s] w fun e w' => e = .returned (.int .i64 x) ∧ Below w.heap.size w w') (hI : ∀ w : World, Calls Try.prog 11 #[.string s] w fun e w' => e = .returned (.int .i64 x) ∧ Below w.heap.size w w') (w : World) :
    Calls Try.prog 4 #[.string s] w fun e w' => e = .returned (.bool true) ∧ Below w.heap.size w w' := by
  have z1 : ¬ (1048576 : Int) < (s.size : Int) := by omega
  have HS := Lib.hid hS
  have HI := Lib.hid hI
  clear hS hI
  go_enter Try.func4, Try.ntmps4
  go_wp2_with fail
  refine (HS.out _).mono ?_
  rintro e w1 ⟨rfl, hb⟩
  have HB1 : Hid (Below w.heap.size w w1) := hb
  clear hb
  go_wp2_with fail
  refine (HI.out _).mono ?_
  rintro e w2 ⟨rfl, hb⟩
  have HB2 : Hid (Below w.heap.size w w2) := HB1.out.trans (hb.mono HB1.out.size)
  clear hb HB1
  go_wp2_with fail
  go_ret
  exact ⟨rfl, HB2.out⟩
set_option maxRecDepth 100000 in
set_option maxHeartbeats 2000000 in
theorem specFrameSum_any (s : ByteArray) (w : World) :
    Calls Try.prog 10 #[.string s] w fun e w' => e = .returned (.int .i64 (if 20000 < s.size then 0 else (Crc.sum s.data.toList : Int))) ∧ Below w.heap.size w w' := by
  by_cases hs : 20000 < s.size
  · have hz : (20000 : Int) < (s.size : Int) := by omega
    rw [if_pos hs]
    go_enter Try.func10, Try.ntmps10
    go_wp2_with fail
    go_ret
    exact ⟨rfl, Below.refl _ _⟩
  · have hz : ¬ (20000 : Int) < (s.size : Int) := by omega
    rw [if_neg hs]
    go_enter Try.func10, Try.ntmps10
    go_wp2_with fail
    refine (specSum_any s (by omega) _).mono ?_
    rintro e w1 ⟨rfl, rfl⟩
    go_wp2_with fail
    go_ret
    exact ⟨rfl, Below.refl _ _⟩
set_option maxRecDepth 100000 in
set_option maxHeartbeats 2000000 in
theorem toFrame_any (u k q : Int) (b : ByteArray) (w : World) :
    Calls Try.prog 8 #[.agg #[.int .i64 u, .int .i64 k, .int .i64 q, .string b]] w fun e w' => e = .returned (.agg #[.int .i64 u, .int .i64 k, .int .i64 q, .string b]) ∧ Below w.heap.size w w' := by
  go_enter Try.func8, Try.ntmps8
  go_wp2_with fail
  exact bodyPost_ret (v := .agg #[.int .i64 u, .int .i64 k, .int .i64 q, .string b]) (by simp [results, Try.results8, go_sem]) rfl ⟨rfl, (((Below.refl _ _).alloc (Nat.le_refl _) _).alloc (by simp) _).alloc (by simp <;> omega) _⟩
set_option maxRecDepth 100000 in
set_option maxHeartbeats 2000000 in
theorem szFrame_any (u k q : Int) (b : ByteArray) (w : World) (hb : b.size ≤ 1048576) :
    Calls Try.prog 6 #[.agg #[.int .i64 u, .int .i64 k, .int .i64 q, .string b], .int .i64 1048576] w fun e w' => e = .returned (.int .i64 (1048576 - (b.size : Int))) ∧ Below w.heap.size w w' := by
  have z : ¬ (1048576 - (b.size : Int)) < 0 := by omega
  go_enter Try.func6, Try.ntmps6
  go_wp2_with fail
  go_ret
  exact ⟨rfl, (Below.refl _ _).alloc (Nat.le_refl _) _⟩
set_option maxRecDepth 100000 in
set_option maxHeartbeats 2000000 in
theorem szFrame_over (u k q : Int) (b : ByteArray) (w : World) (hb : 1048576 < b.size) (hb2 : b.size ≤ 9223372036854775807) :
    Calls Try.prog 6 #[.agg #[.int .i64 u, .int .i64 k, .int .i64 q, .string b], .int .i64 1048576] w fun e w' => e = .returned (.int .i64 (-1)) ∧ Below w.heap.size w w' := by
  have z : (1048576 - (b.size : Int)) < 0 := by omega
  go_enter Try.func6, Try.ntmps6
  go_wp2_with fail
  go_ret
  exact ⟨rfl, (Below.refl _ _).alloc (Nat.le_refl _) _⟩
set_option maxRecDepth 100000 in
set_option maxHeartbeats 2000000 in
/-- FnExactFrameRight, of two functions that answer the same. -/
theorem right_law (u k q : Int) (b : ByteArray) (x : Bool) (hb : b.size ≤ 1048576) (hS : ∀ w : World, Calls Try.prog 7 #[.agg #[.int .i64 u, .int .i64 k, .int .i64 q, .string b]] w fun e w' => e = .returned (.bool x) ∧ Below w.heap.size w w') (hI : ∀ w : World, Calls Try.prog 9 #[.agg #[.int .i64 u, .int .i64 k, .int .i64 q, .string b]] w fun e w' => e = .returned (.bool x) ∧ Below w.heap.size w w') (w : World) :
    Calls Try.prog 3 #[.agg #[.int .i64 u, .int .i64 k, .int .i64 q, .string b]] w fun e w' => e = .returned (.bool true) ∧ Below w.heap.size w w' := by
  have HS := Lib.hid hS
  have HI := Lib.hid hI
  clear hS hI
  have z : ¬ (1048576 - (b.size : Int)) < 0 := by omega
  go_enter Try.func3, Try.ntmps3
  go_wp2_with fail
  refine (szFrame_any u k q b _ hb).mono ?_
  rintro e w1 ⟨rfl, h1⟩
  obtain ⟨q0, q1, q2, q3, hz, hB⟩ := four_later (h1.mono (by simp))
  have H1 := Lib.hid (And.intro q0 (And.intro q1 (And.intro q2 (And.intro q3 hB))))
  clear h1 hB hz
  go_wp2_with fail
  refine (toFrame_any u k q b _).mono ?_
  rintro e w2 ⟨rfl, h2⟩
  have H2 := Lib.hid (keepFour h2 H1.out)
  clear h2 H1 q0 q1 q2 q3
  obtain ⟨q0, q1, q2, q3, _⟩ := H2.out
  go_wp2_with fail
  refine (HS.out _).mono ?_
  rintro e w3 ⟨rfl, h3⟩
  have H3 := Lib.hid (keepFour h3 H2.out)
  clear h3 H2 q0 q1 q2 q3
  obtain ⟨q0, q1, q2, q3, _⟩ := H3.out
  go_wp2_with fail
  refine (toFrame_any u k q b _).mono ?_
  rintro e w4 ⟨rfl, h4⟩
  have H4 := Lib.hid (keepFour h4 H3.out)
  clear h4 H3 q0 q1 q2 q3
  obtain ⟨q0, q1, q2, q3, _⟩ := H4.out
  go_wp2_with fail
  refine (HI.out _).mono ?_
  rintro e w5 ⟨rfl, h5⟩
  have H5 := Lib.hid (keepFour h5 H4.out)
  clear h5 H4 q0 q1 q2 q3
  go_wp2_with fail
  go_ret
  exact ⟨rfl, H5.out.2.2.2.2.out⟩
set_option maxRecDepth 100000 in
set_option maxHeartbeats 2000000 in
theorem right_law_over (u k q : Int) (b : ByteArray) (hb : 1048576 < b.size) (hb2 : b.size ≤ 9223372036854775807) (w : World) :
    Calls Try.prog 3 #[.agg #[.int .i64 u, .int .i64 k, .int .i64 q, .string b]] w fun e w' => e = .returned (.bool true) ∧ Below w.heap.size w w' := by
  go_enter Try.func3, Try.ntmps3
  go_wp2_with fail
  refine (szFrame_over u k q b _ hb hb2).mono ?_
  rintro e w1 ⟨rfl, h1⟩
  have HB : Hid (Below w.heap.size w w1) := ((Below.refl w.heap.size w).alloc (Nat.le_refl _) _).trans (h1.mono (by simp))
  clear h1
  go_wp2_with fail
  go_ret
  exact ⟨rfl, HB.out⟩
set_option maxRecDepth 100000 in
set_option maxHeartbeats 2000000 in
/-- FnExactFrameText, of two functions that answer the same. -/
theorem text_law (u k q : Int) (b : ByteArray) (x : ByteArray) (hb : b.size ≤ 1048576) (hS : ∀ w : World, Calls Try.prog 12 #[.agg #[.int .i64 u, .int .i64 k, .int .i64 q, .string b]] w fun e w' => e = .returned (.string x) ∧ Below w.heap.size w w') (hI : ∀ w : World, Calls Try.prog 13 #[.agg #[.int .i64 u, .int .i64 k, .int .i64 q, .string b]] w fun e w' => e = .returned (.string x) ∧ Below w.heap.size w w') (w : World) :
    Calls Try.prog 5 #[.agg #[.int .i64 u, .int .i64 k, .int .i64 q, .string b]] w fun e w' => e = .returned (.bool true) ∧ Below w.heap.size w w' := by
  have HS := Lib.hid hS
  have HI := Lib.hid hI
  clear hS hI
  have z : ¬ (1048576 - (b.size : Int)) < 0 := by omega
  go_enter Try.func5, Try.ntmps5
  go_wp2_with fail
  refine (szFrame_any u k q b _ hb).mono ?_
  rintro e w1 ⟨rfl, h1⟩
  obtain ⟨q0, q1, q2, q3, hz, hB⟩ := four_later (h1.mono (by simp))
  have H1 := Lib.hid (And.intro q0 (And.intro q1 (And.intro q2 (And.intro q3 hB))))
  clear h1 hB hz
  go_wp2_with fail
  refine (toFrame_any u k q b _).mono ?_
  rintro e w2 ⟨rfl, h2⟩
  have H2 := Lib.hid (keepFour h2 H1.out)
  clear h2 H1 q0 q1 q2 q3
  obtain ⟨q0, q1, q2, q3, _⟩ := H2.out
  go_wp2_with fail
  refine (HS.out _).mono ?_
  rintro e w3 ⟨rfl, h3⟩
  have H3 := Lib.hid (keepFour h3 H2.out)
  clear h3 H2 q0 q1 q2 q3
  obtain ⟨q0, q1, q2, q3, _⟩ := H3.out
  go_wp2_with fail
  refine (toFrame_any u k q b _).mono ?_
  rintro e w4 ⟨rfl, h4⟩
  have H4 := Lib.hid (keepFour h4 H3.out)
  clear h4 H3 q0 q1 q2 q3
  obtain ⟨q0, q1, q2, q3, _⟩ := H4.out
  go_wp2_with fail
  refine (HI.out _).mono ?_
  rintro e w5 ⟨rfl, h5⟩
  have H5 := Lib.hid (keepFour h5 H4.out)
  clear h5 H4 q0 q1 q2 q3
  go_wp2_with fail
  go_ret
  exact ⟨rfl, H5.out.2.2.2.2.out⟩
set_option maxRecDepth 100000 in
set_option maxHeartbeats 2000000 in
theorem text_law_over (u k q : Int) (b : ByteArray) (hb : 1048576 < b.size) (hb2 : b.size ≤ 9223372036854775807) (w : World) :
    Calls Try.prog 5 #[.agg #[.int .i64 u, .int .i64 k, .int .i64 q, .string b]] w fun e w' => e = .returned (.bool true) ∧ Below w.heap.size w w' := by
  go_enter Try.func5, Try.ntmps5
  go_wp2_with fail
  refine (szFrame_over u k q b _ hb hb2).mono ?_
  rintro e w1 ⟨rfl, h1⟩
  have HB : Hid (Below w.heap.size w w1) := ((Below.refl w.heap.size w).alloc (Nat.le_refl _) _).trans (h1.mono (by simp))
  clear h1
  go_wp2_with fail
  go_ret
  exact ⟨rfl, HB.out⟩
end Go.Proofs.Ytgkgpdionhfkmaa
