/-
  The measures of a list, and their sum: no program in this text but the meaning of a slice that owns floats.
-/
import Derived.Test.YtemmmhkjjcmcmaaFSum
import Derived.Test.YtemmmhkjjcmcmaaMSum
namespace Go.Proofs.Ytemmmhkjjcmcmaa
open Go.RowKit

namespace Fl
/-- The measures among the first k. -/
def ys (zs : List Nat) (k : Nat) : List Nat := (zs.take k).filter measB
theorem ys_yes (zs : List Nat) (k : Nat) (h : k < zs.length) (hm : measB (el zs k) = true) : ys zs (k + 1) = ys zs k ++ [el zs k] := by
  unfold ys; rw [take_snoc zs k h, List.filter_append]; simp [hm]
theorem ys_no (zs : List Nat) (k : Nat) (h : k < zs.length) (hm : measB (el zs k) = false) : ys zs (k + 1) = ys zs k := by
  unfold ys; rw [take_snoc zs k h, List.filter_append]; simp [hm]
theorem ys_len (zs : List Nat) (k : Nat) : (ys zs k).length = cntTo zs k := rfl
theorem ys_meas (zs : List Nat) (k j : Nat) (h : j < (ys zs k).length) : measB (el (ys zs k) j) = true := by
  unfold el
  rw [List.getD_eq_getElem?_getD, List.getElem?_eq_getElem h]
  have : (ys zs k)[j] ∈ (zs.take k).filter measB := List.getElem_mem h
  simpa using (List.mem_filter.1 this).2
theorem foldl_meas (l : List Nat) (a : Nat) : (l.filter measB).foldl addF a = l.foldl addF a := by
  induction l generalizing a with
  | nil => rfl
  | cons x r ih =>
    cases hm : measB x
    · rw [List.filter_cons_of_neg (by simp [hm]), List.foldl_cons, ih]
      congr 1
      unfold addF; rw [hm]; rfl
    · rw [List.filter_cons_of_pos hm, List.foldl_cons, List.foldl_cons, ih]
theorem ys_sum (zs : List Nat) (k : Nat) : sumTo (ys zs k) (ys zs k).length = sumTo zs k := by
  unfold sumTo
  rw [List.take_of_length_le (Nat.le_refl _)]
  exact foldl_meas _ _
end Fl

/-- The form of a value that owns floats. -/
theorem Own.form {B : Nat} {v : Value} {zs : List Nat} {W : World} (h : Own B v zs W) : ∃ g cap, v = .slice (some ⟨g, 0, none⟩) zs.length cap ∧ B ≤ g ∧ g < W.heap.size ∧ ∀ i, i < zs.length → W.cell? ⟨g, i, none⟩ = some (.float .f64 (Fl.el zs i)) := by
  obtain ⟨h', hn⟩ := h
  have hh := h'
  obtain ⟨h1, h2⟩ := h'
  rcases h2 with h2 | ⟨g, cap, cur, e1, e2, e3, _⟩
  · exact absurd h2.1 hn
  · have hb : v.ownBlock = some g := by rw [e1]; rfl
    refine ⟨g, cap, e1, e2, (hh.lt g hb).2, fun i hi => ?_⟩
    have := hh.cells hb i (.float .f64 (Fl.el zs i)) (by
      rw [List.getElem?_map, List.getElem?_eq_getElem hi]
      unfold Fl.el
      rw [List.getD_eq_getElem?_getD, List.getElem?_eq_getElem hi]; rfl)
    have e : ((⟨g, 0, none⟩ : Addr).add i) = ⟨g, i, none⟩ := by
      by_cases h0 : i = 0
      · subst h0; simp [Addr.add]
      · simp [Addr.add, h0]
    rw [e] at this
    exact this

theorem Own.below {B : Nat} {v : Value} {zs : List Nat} {W W' : World} (h : Own B v zs W) (hb : Below W.heap.size W W') : Own B v zs W' := by
  obtain ⟨⟨h1, h2⟩, hn⟩ := h
  refine ⟨⟨h1, ?_⟩, hn⟩
  rcases h2 with h2 | ⟨g, cap, cur, e1, e2, e3, e4⟩
  · exact Or.inl h2
  · refine Or.inr ⟨g, cap, cur, e1, e2, ?_, e4⟩
    have hlt : g < W.heap.size := by
      rcases Nat.lt_or_ge g W.heap.size with h | h
      · exact h
      · rw [Array.getElem?_eq_none h] at e3; cases e3
    rw [hb.block g hlt]; exact e3
theorem own_start (w : World) : Own w.heap.size (.slice (some ⟨w.heap.size, 0, none⟩) 0 0) [] (w.alloc (.cells #[] 26)) :=
  ⟨⟨by simp, Or.inr ⟨w.heap.size, 0, #[], rfl, Nat.le_refl _, by show (w.heap.push _)[w.heap.size]? = _; simp, by simp, by simp, by simp, by simp⟩⟩, by simp⟩
theorem addr_add (g i : Nat) : ((⟨g, 0, none⟩ : Addr).add i) = ⟨g, i, none⟩ := by
  by_cases h0 : i = 0
  · subst h0; simp [Addr.add]
  · simp [Addr.add, h0]
theorem row_cells {g : Nat} {zs : List Nat} {W : World} (h : ∀ i, i < zs.length → W.cell? ⟨g, i, none⟩ = some (.float .f64 (Fl.el zs i))) (j : Nat) (u : Value) (hj : (zs.map (Value.float .f64))[j]? = some u) : W.cell? ((⟨g, 0, none⟩ : Addr).add j) = some u := by
  rw [List.getElem?_map] at hj
  obtain ⟨x, hx, rfl⟩ := Option.map_eq_some_iff.1 hj
  have hl : j < zs.length := by
    rcases Nat.lt_or_ge j zs.length with h | h
    · exact h
    · rw [List.getElem?_eq_none h] at hx; cases hx
  rw [addr_add, h j hl]
  unfold Fl.el
  rw [List.getD_eq_getElem?_getD, hx]; rfl
theorem one_cells (zs : List Nat) (u : Value) (h : u ∈ zs.map (Value.float .f64)) : u.oneCell' = true := by
  obtain ⟨x, _, rfl⟩ := List.mem_map.1 h
  rfl
theorem len_max (zs : List Nat) (h : zs.length ≤ 400) : ([] : List Nat).length + zs.length ≤ maxLen := by unfold maxLen; simp; omega
theorem len_bytes (zs : List Nat) (h : zs.length ≤ 400) : (([] : List Nat).length + zs.length) * 8 ≤ 140737488355328 := by simp; omega
theorem alloc_le (w : World) : w.heap.size ≤ (w.alloc (.cells #[] 26)).heap.size := by simp
/-- A list that grew keeps the memory below it. -/
theorem below_grown {B : Nat} {v : Value} {zs : List Nat} {w W W' : World} (hB : B = w.heap.size) (h : Own B v zs W) (hb : Below B w W) (hg : W.grownBy W' v.ownBlock) : Below B w W' := by
  subst hB
  refine hb.trans ⟨hg.os, hg.tape, hg.output, hg.size, fun k hk => hg.block k (by have := hb.size; omega) (fun e => by have := (h.1.lt k e.symm).1; omega)⟩
end Go.Proofs.Ytemmmhkjjcmcmaa
