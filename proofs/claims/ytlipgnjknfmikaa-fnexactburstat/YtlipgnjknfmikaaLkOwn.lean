/-
  A list of floats that grows by append: its form, its cells.
-/
import Derived.Test.YtlipgnjknfmikaaFList
import Derived.Test.YtlipgnjknfmikaaSumMath
import Derived.Test.YtlipgnjknfmikaaLpMem
namespace Go.Proofs.Ytlipgnjknfmikaa
open Go.RowKit Go.Deep

/-- The form of a value that owns floats. -/
theorem Own.form {B : Nat} {v : Value} {zs : List Nat} {W : World} (h : Own B v zs W) : ∃ g cap, v = .slice (some ⟨g, 0, none⟩) zs.length cap ∧ B ≤ g ∧ g < W.heap.size ∧ ∀ i, i < zs.length → W.cell? ⟨g, i, none⟩ = some (.float .f64 (Fl.el zs i)) := by
  obtain ⟨h', hn⟩ := h
  have hh := h'
  obtain ⟨h1, h2⟩ := h'
  rcases h2 with h2 | ⟨g, cap, cur, e1, e2, e3, _⟩
  · exact absurd h2.1 hn
  · have hb : v.ownBlock = some g := by rw [e1]; rfl
    refine ⟨g, cap, e1, e2, (hh.lt g hb).2, fun i hi => ?_⟩
    have := hh.cells hb i (.float .f64 (Fl.el zs i)) (by
      rw [List.getElem?_map, List.getElem?_eq_getElem hi]
      unfold Fl.el
      rw [List.getD_eq_getElem?_getD, List.getElem?_eq_getElem hi]; rfl)
    have e : ((⟨g, 0, none⟩ : Addr).add i) = ⟨g, i, none⟩ := by
      by_cases h0 : i = 0
      · subst h0; simp [Addr.add]
      · simp [Addr.add, h0]
    rw [e] at this
    exact this

theorem Own.below {B : Nat} {v : Value} {zs : List Nat} {W W' : World} (h : Own B v zs W) (hb : Below W.heap.size W W') : Own B v zs W' := by
  obtain ⟨⟨h1, h2⟩, hn⟩ := h
  refine ⟨⟨h1, ?_⟩, hn⟩
  rcases h2 with h2 | ⟨g, cap, cur, e1, e2, e3, e4⟩
  · exact Or.inl h2
  · refine Or.inr ⟨g, cap, cur, e1, e2, ?_, e4⟩
    have hlt : g < W.heap.size := by
      rcases Nat.lt_or_ge g W.heap.size with h | h
      · exact h
      · rw [Array.getElem?_eq_none h] at e3; cases e3
    rw [hb.block g hlt]; exact e3
theorem own_start (w : World) : Own w.heap.size (.slice (some ⟨w.heap.size, 0, none⟩) 0 0) [] (w.alloc (.cells #[] 27)) :=
  ⟨⟨by simp, Or.inr ⟨w.heap.size, 0, #[], rfl, Nat.le_refl _, by show (w.heap.push _)[w.heap.size]? = _; simp, by simp, by simp, by simp, by simp⟩⟩, by simp⟩
theorem addr_add (g i : Nat) : ((⟨g, 0, none⟩ : Addr).add i) = ⟨g, i, none⟩ := by
  by_cases h0 : i = 0
  · subst h0; simp [Addr.add]
  · simp [Addr.add, h0]
theorem row_cells {g : Nat} {zs : List Nat} {W : World} (h : ∀ i, i < zs.length → W.cell? ⟨g, i, none⟩ = some (.float .f64 (Fl.el zs i))) (j : Nat) (u : Value) (hj : (zs.map (Value.float .f64))[j]? = some u) : W.cell? ((⟨g, 0, none⟩ : Addr).add j) = some u := by
  rw [List.getElem?_map] at hj
  obtain ⟨x, hx, rfl⟩ := Option.map_eq_some_iff.1 hj
  have hl : j < zs.length := by
    rcases Nat.lt_or_ge j zs.length with h | h
    · exact h
    · rw [List.getElem?_eq_none h] at hx; cases hx
  rw [addr_add, h j hl]
  unfold Fl.el
  rw [List.getD_eq_getElem?_getD, hx]; rfl
theorem one_cells (zs : List Nat) (u : Value) (h : u ∈ zs.map (Value.float .f64)) : u.oneCell' = true := by
  obtain ⟨x, _, rfl⟩ := List.mem_map.1 h
  rfl
theorem len_max (zs : List Nat) (h : zs.length ≤ 400) : ([] : List Nat).length + zs.length ≤ maxLen := by unfold maxLen; simp; omega
theorem len_bytes (zs : List Nat) (h : zs.length ≤ 400) : (([] : List Nat).length + zs.length) * 8 ≤ 140737488355328 := by simp; omega
theorem alloc_le (w : World) : w.heap.size ≤ (w.alloc (.cells #[] 27)).heap.size := by simp
/-- A list that grew keeps the memory below it. -/
theorem below_grown {B : Nat} {v : Value} {zs : List Nat} {w W W' : World} (hB : B = w.heap.size) (h : Own B v zs W) (hb : Below B w W) (hg : W.grownBy W' v.ownBlock) : Below B w W' := by
  subst hB
  refine hb.trans ⟨hg.os, hg.tape, hg.output, hg.size, fun k hk => hg.block k (by have := hb.size; omega) (fun e => by have := (h.1.lt k e.symm).1; omega)⟩
theorem own_push {B : Nat} {v v' : Value} {ys : List Nat} {x : Nat} {w W W' : World} {o : Obj} (hB : B = w.heap.size) (h : Own B v ys W) (hb : Below B w W) (hg : (W.alloc o).grownBy W' v.ownBlock)
    (hown : W'.ownsRow B 27 1 v' (ys.length + 1) (ys.map (Value.float .f64) ++ [.float .f64 x])) (hnil : ¬ v' = .slice none 0 0) : Own B v' (ys ++ [x]) W' ∧ Below B w W' := by
  have hz := hb.size
  refine ⟨⟨by simpa using hown, hnil⟩, ?_⟩
  have h2 : Own B v ys (W.alloc o) := h.below ((Below.refl _ _).alloc (Nat.le_refl _) _)
  exact below_grown hB h2 (hb.alloc (by omega) _) hg
theorem own_all {B : Nat} {v v' : Value} {zs : List Nat} {w W W' : World} (hB : B = w.heap.size) (h : Own B v [] W) (hb : Below B w W) (hg : W.grownBy W' v.ownBlock)
    (hown : W'.ownsRow B 27 1 v' zs.length (zs.map (Value.float .f64))) (hnil : ¬ v' = .slice none 0 0) : Own B v' zs W' ∧ Below B w W' :=
  ⟨⟨hown, hnil⟩, below_grown hB h hb hg⟩

theorem Own.room {B : Nat} {v : Value} {zs : List Nat} {W : World} (h : Own B v zs W) : ∃ g cap, v = .slice (some ⟨g, 0, none⟩) zs.length cap ∧ B ≤ g ∧ g < W.heap.size ∧ zs.length ≤ cap ∧ ∀ i, i < zs.length → W.cell? ⟨g, i, none⟩ = some (.float .f64 (Fl.el zs i)) := by
  obtain ⟨g, cap, e, h1, h2, h3⟩ := h.form
  refine ⟨g, cap, e, h1, h2, ?_, h3⟩
  obtain ⟨⟨_, k⟩, hn⟩ := h
  rcases k with k | ⟨g', cap', cur, e1, e2, e3, e4, _⟩
  · exact absurd k.1 hn
  · rw [e] at e1
    cases e1
    exact e4
/-- The k-th of a list. -/
theorem own_at {g : Nat} {zs : List Nat} {W : World} (h : ∀ i, i < zs.length → W.cell? ⟨g, i, none⟩ = some (.float .f64 (Fl.el zs i))) : FlAt (some ⟨g, 0, none⟩) zs.length (Fl.el zs) W := Or.inr ⟨g, rfl, h⟩
end Go.Proofs.Ytlipgnjknfmikaa
