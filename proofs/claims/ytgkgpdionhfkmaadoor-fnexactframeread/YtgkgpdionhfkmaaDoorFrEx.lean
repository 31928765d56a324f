/-
  The exact laws of single frames, from what the program's functions answer.
-/
import Derived.Test.YtgkgpdionhfkmaaDoorEqFr
namespace Go.Proofs.YtgkgpdionhfkmaaDoor
open Go.RowKit

theorem keepFour {w W W' : World} {X : Nat} {a b c d : Value} (hb : Below W.heap.size W W') (h : W.cell? ⟨X, 0, none⟩ = some a ∧ W.cell? ⟨X, 1, none⟩ = some b ∧ W.cell? ⟨X, 2, none⟩ = some c ∧ W.cell? ⟨X, 3, none⟩ = some d ∧ Hid (Below w.heap.size w W)) :
    W'.cell? ⟨X, 0, none⟩ = some a ∧ W'.cell? ⟨X, 1, none⟩ = some b ∧ W'.cell? ⟨X, 2, none⟩ = some c ∧ W'.cell? ⟨X, 3, none⟩ = some d ∧ Hid (Below w.heap.size w W') := by
  obtain ⟨h0, h1, h2, h3, hB⟩ := h
  have k : ∀ {p : Addr} {v : Value}, W.cell? p = some v → W'.cell? p = some v := fun h => (hb.cell (World.block_lt_of_cell? _ _ h)).trans h
  exact ⟨k h0, k h1, k h2, k h3, hB.out.trans (hb.mono hB.out.size)⟩
set_option maxRecDepth 100000 in
set_option maxHeartbeats 2000000 in
/-- FnExactFrameRead, of two functions that answer the same. -/
theorem read_law (s : ByteArray) (o : Fr.Out) (hs : s.size ≤ 1048576) (hS : ∀ w : World, Calls Tryd.prog 13 #[.string s] w fun e w' => e = .returned (Fr.val o) ∧ Below w.heap.size w w') (G : World → Prop) (hG : ∀ {w w' : World}, G w → Below w.heap.size w w' → G w') (hI : ∀ w : World, G w → Calls Tryd.prog 12 #[.string s] w fun e w' => e = .returned (Fr.val o) ∧ Below w.heap.size w w') (w : World) (hg : G w) :
    Calls Tryd.prog 5 #[.string s] w fun e w' => e = .returned (.bool true) ∧ Below w.heap.size w w' := by
  have z1 : ¬ (1048576 : Int) < (s.size : Int) := by omega
  have HS := Lib.hid hS
  have HI := Lib.hid hI
  have HG := Lib.hid hg
  clear hS hI hg
  go_enter Tryd.func5, Tryd.ntmps5
  go_wp2_with fail
  refine (HS.out _).mono ?_
  rintro e w1 ⟨rfl, hb⟩
  have HB1 : Hid (Below w.heap.size w w1) := hb
  clear hb
  unfold Fr.val
  go_wp2_with fail
  refine (HI.out _ (hG HG.out (HB1.out.alloc HB1.out.size _))).mono ?_
  rintro e w2 ⟨rfl, hb⟩
  have x : ∀ i v, i < 6 → (#[.int .i64 o.u, .int .i64 o.k, .int .i64 o.s, .string ⟨o.b.toArray⟩, .int .i64 o.used, .int .i64 o.code] : Array Value)[i]? = some v → w2.cell? ⟨w1.heap.size, i, none⟩ = some v := fun i v hi hv => (hb.cell (p := ⟨w1.heap.size, i, none⟩) (by simp)).trans (by
    have e : i = 0 ∨ i = 1 ∨ i = 2 ∨ i = 3 ∨ i = 4 ∨ i = 5 := by omega
    rcases e with rfl | rfl | rfl | rfl | rfl | rfl <;> (simp at hv; subst hv; simp))
  have x0 := x 0 _ (by omega) rfl
  have x1 := x 1 _ (by omega) rfl
  have x2 := x 2 _ (by omega) rfl
  have x3 := x 3 _ (by omega) rfl
  have x4 := x 4 _ (by omega) rfl
  have x5 := x 5 _ (by omega) rfl
  have HB2 : Hid (Below w.heap.size w w2) := (HB1.out.alloc HB1.out.size _).trans (hb.mono (by have := HB1.out.size; simp; omega))
  have zX : w1.heap.size < w2.heap.size := by have := hb.size; simp at this; omega
  clear x hb HB1
  unfold Fr.val
  have HE := Lib.hid (fun wx => eqFrameOut_same o wx)
  unfold Fr.val at HE
  go_wp2_with fail
  refine (HE.out _).mono ?_
  rintro e w3 ⟨rfl, hb⟩
  have HB3 : Hid (Below w.heap.size w w3) := (HB2.out.alloc HB2.out.size _).trans (hb.mono (by have := HB2.out.size; simp; omega))
  clear hb x0 x1 x2 x3 x4 x5 HB2
  go_wp2_with fail
  go_ret
  exact ⟨rfl, HB3.out⟩
end Go.Proofs.YtgkgpdionhfkmaaDoor
