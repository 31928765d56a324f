/-
  The program's HistoryPack.
-/
import Derived.Test.YtlocpliljkgfnaaDoorHsI1
import Derived.Test.YtlocpliljkgfnaaDoorAw
import Derived.Test.YtlocpliljkgfnaaDoorCyMem
namespace Go.Proofs.YtlocpliljkgfnaaDoor
open Go.RowKit Go.Deep

theorem hinfo_pt : (Tryd.prog.info? 38).map (fun i => (i.zero, i.size, i.bytes)) = some (some (.agg #[.int .i64 0, .int .i64 0]), 2, 16) := by kernel_rfl
theorem cyo_own {T : TypeId} {B : Nat} {v : Value} {l : List Ln.Nt} {W : World} (h : W.ownsRow B T 2 v l.length (nvs l)) : ∃ a k, v = .slice a l.length k ∧ CyO T B (l.length * 2) a k (Ln.fl l) W := by
  obtain ⟨a, k, e, _, h2⟩ := own_ns h
  refine ⟨a, k, e, ?_⟩
  rcases h2 with ⟨h1, h2, h3⟩ | ⟨g, h1, h2, h3, F, h4, h5⟩
  · exact Or.inl ⟨h1, by omega, h3⟩
  · exact Or.inr ⟨g, h1, h2, k * 2, F, by omega, h4, h5⟩
theorem hown_keep {B n size : Nat} {e : TypeId} {v : Value} {xs : List Value} {W W' : World} (h : W.ownsRow B e size v n xs) (hb : ∀ k, v.ownBlock = some k → k < W.heap.size → W'.heap[k]? = W.heap[k]?) : W'.ownsRow B e size v n xs := by
  refine ⟨h.1, ?_⟩
  rcases h.2 with h2 | ⟨g, cap, cur, e1, e2, e3, e4⟩
  · exact Or.inl h2
  · exact Or.inr ⟨g, cap, cur, e1, e2, (hb g (by rw [e1]; rfl) (Array.getElem?_eq_some_iff.1 e3).1).trans e3, e4⟩
/-- A list of points that grows. -/
structure PkS (w : World) (v : Value) (l : List Ln.Nt) (W : World) : Prop where
  own : W.ownsRow w.heap.size 38 2 v l.length (nvs l)
  bel : Below w.heap.size w W
theorem PkS.nil (w W : World) (h : Below w.heap.size w W) : PkS w (.slice none 0 0) [] W := ⟨World.ownsRow_nil _ _ _ _, h⟩
theorem PkS.made (w W : World) (h : Below w.heap.size w W) : PkS w (.slice (some ⟨W.heap.size, 0, none⟩) 0 0) [] (W.alloc (.cells #[] 38)) := by
  have o1 := World.ownsRow_made (e := 38) (size := 2) W #[] 0 (Nat.le_refl _) (Nat.zero_le _) rfl
  refine ⟨⟨o1.1, ?_⟩, h.alloc h.size _⟩
  rcases o1.2 with h2 | ⟨g, cap, cur, e1, e2, e3⟩
  · exact Or.inl h2
  · exact Or.inr ⟨g, cap, cur, e1, by have := h.size; omega, e3⟩
theorem PkS.below {w : World} {v : Value} {l : List Ln.Nt} {W W' : World} (h : PkS w v l W) (hb : Below W.heap.size W W') : PkS w v l W' := ⟨hown_keep h.own (fun k _ hk => hb.block k hk), h.bel.trans (hb.mono h.bel.size)⟩
theorem PkS.push {w : World} {v v' : Value} {l : List Ln.Nt} {x y : Int} {W W' : World} (h : PkS w v l W) (hown : W'.ownsRow w.heap.size 38 2 v' (l ++ [(x, y)]).length (nvs (l ++ [(x, y)]))) (hg : W.grownBy W' v.ownBlock) : PkS w v' (l ++ [(x, y)]) W' :=
  ⟨hown, h.bel.grown hg h.bel.size (fun k e => (World.ownsRow.lt h.own k e).1)⟩
theorem PkS.last {w : World} {v : Value} {l : List Ln.Nt} {W : World} (h : PkS w v l W) (hl : 0 < l.length) : ∃ g c, v = .slice (some ⟨g, 0, none⟩) l.length c ∧ W.cell? ⟨g, (l.length - 1) * 2 + 1, none⟩ = some (.int .i64 (Hs.last l)) := by
  obtain ⟨a, c, e, _, h2⟩ := own_ns h.own
  rcases h2 with ⟨_, h2, _⟩ | ⟨g, rfl, h2, h3, F, h4, h5⟩
  · omega
  · refine ⟨g, c, e, ?_⟩
    rw [h4.cell (i := (l.length - 1) * 2 + 1) (by omega), h5 _ (by omega)]
    rfl
end Go.Proofs.YtlocpliljkgfnaaDoor
