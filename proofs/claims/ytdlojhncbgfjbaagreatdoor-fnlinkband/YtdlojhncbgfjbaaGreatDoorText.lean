/-
  The contracts of both packages' FracText.
-/
import Derived.Test.YtdlojhncbgfjbaaGreatDoorDec
import Derived.Test.YtdlojhncbgfjbaaGreatDoorShelf
import Derived.Lib.AppendIntMem
import Derived.Lib.SmallJoins
import Derived.Deep.RegionHeld3
namespace Go.Proofs.YtdlojhncbgfjbaaGreatDoor
open Go.RowKit

namespace M
/-- The text of a fraction that is right; none of another one. -/
def textL (n d : Int) : List UInt8 := if rightB n d then (if d = 1 then Lib.itoa n else Lib.itoa n ++ (47 :: Lib.itoa d)) else []
theorem itoa_len (n : Int) (h1 : -2147483647 ≤ n) (h2 : n ≤ 2147483647) : (Lib.itoa n).length ≤ 2147483650 := by
  unfold Lib.itoa
  split
  · have := dec_len n.natAbs; simp; omega
  · have := dec_len n.toNat; omega
theorem join3 (a b : List UInt8) : ((⟨a.toArray⟩ : ByteArray) ++ ⟨#[47]⟩) ++ ⟨b.toArray⟩ = ⟨(a ++ (47 :: b)).toArray⟩ := by
  rw [ba_append, ba_append]; simp
end M

/-- A fraction in a new block, still there in a later world. -/
theorem one_later {w w' : World} {n d : Int} {t : TypeId} (h : Below (w.heap.size + 1) (w.alloc (.cells #[.int .i64 n, .int .i64 d] t)) w') :
    w'.cell? ⟨w.heap.size, 0, none⟩ = some (.int .i64 n) ∧ w'.cell? ⟨w.heap.size, 1, none⟩ = some (.int .i64 d) ∧ w.heap.size < w'.heap.size ∧ Hid (Below w.heap.size w w') := by
  refine ⟨?_, ?_, ?_, ?_⟩
  · rw [h.cell (by simp)]; simp
  · rw [h.cell (by simp)]; simp
  · have := h.size; simp at this; omega
  · exact ((Below.refl _ _).alloc (Nat.le_refl _) _).trans (h.mono (by omega))

theorem one_keep {w W W' : World} {n d : Int} (hb : Below W.heap.size W W') (h : W.cell? ⟨w.heap.size, 0, none⟩ = some (.int .i64 n) ∧ W.cell? ⟨w.heap.size, 1, none⟩ = some (.int .i64 d) ∧ w.heap.size < W.heap.size ∧ Hid (Below w.heap.size w W)) :
    W'.cell? ⟨w.heap.size, 0, none⟩ = some (.int .i64 n) ∧ W'.cell? ⟨w.heap.size, 1, none⟩ = some (.int .i64 d) ∧ w.heap.size < W'.heap.size ∧ Hid (Below w.heap.size w W') := by
  obtain ⟨c1, c2, hz, hB⟩ := h
  exact ⟨(hb.cell (p := ⟨w.heap.size, 0, none⟩) hz).trans c1, (hb.cell (p := ⟨w.heap.size, 1, none⟩) hz).trans c2, by have := hb.size; omega, hB.out.trans (hb.mono (by omega))⟩
end Go.Proofs.YtdlojhncbgfjbaaGreatDoor
