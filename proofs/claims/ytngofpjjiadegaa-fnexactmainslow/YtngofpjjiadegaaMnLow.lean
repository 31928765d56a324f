/-
  Low nodes: what the answer is.
-/
import Derived.Test.YtngofpjjiadegaaMnT1
import Derived.Test.YtngofpjjiadegaaMnOw
import Derived.Test.YtngofpjjiadegaaMnRm
namespace Go.Proofs.Ytngofpjjiadegaa
open Go.RowKit Go.Deep
namespace Mn
/-- What may be asked. -/
def Asked (m : Mains) (xn : Nat) (f : Nat → Int) : Prop := xn ≤ 400 ∧ Right m ∧ xn = m.pn ∧ AllOk m f ∧ Start m 0 0
def lowTo (H : Nat → Int) (q : Int) : Nat → List Nat
  | 0 => []
  | k + 1 => if H k < q then lowTo H q k ++ [k] else lowTo H q k
theorem lowTo_len (H : Nat → Int) (q : Int) : ∀ k, (lowTo H q k).length ≤ k
  | 0 => Nat.le_refl _
  | k + 1 => by
    have := lowTo_len H q k
    simp only [lowTo]
    split
    · rw [List.length_append]; simp; exact this
    · omega
inductive Low (m : Mains) (xn : Nat) (f : Nat → Int) (q : Int) : List Nat → Prop
  | no : ¬ Asked m xn f → Low m xn f q []
  | ok : Asked m xn f → Low m xn f q (lowTo (heads m f) q (nn m))
theorem Low.one {m : Mains} {xn : Nat} {f : Nat → Int} {q : Int} {l l' : List Nat} (h : Low m xn f q l) (h' : Low m xn f q l') : l = l' := by
  cases h with
  | no h1 => cases h' with
    | no => rfl
    | ok k => exact absurd k h1
  | ok h1 => cases h' with
    | no k => exact absurd h1 k
    | ok => rfl
theorem Low.len {m : Mains} {xn : Nat} {f : Nat → Int} {q : Int} {l : List Nat} (h : Low m xn f q l) : l.length ≤ 12 := by
  cases h with
  | no => simp
  | ok h1 => have := lowTo_len (heads m f) q (nn m); have := h1.2.1.nn; omega
theorem low_total (m : Mains) (xn : Nat) (f : Nat → Int) (q : Int) : ∃ l, Low m xn f q l := by
  by_cases h : Asked m xn f
  · exact ⟨_, .ok h⟩
  · exact ⟨_, .no h⟩
end Mn
def natI (l : List Nat) : Nat → Int := fun j => (l.getD j 0 : Nat)
def natL (l : List Nat) : List Value := l.map (fun (i : Nat) => .int .i64 (i : Int))
theorem natL_app (l : List Nat) (i : Nat) : natL (l ++ [i]) = natL l ++ [.int .i64 (i : Int)] := by simp [natL]
theorem natL_isV (l : List Nat) : natL l = isV (natI l) l.length := by
  apply List.ext_getElem?
  intro j
  by_cases hj : j < l.length
  · rw [isV_get _ _ hj]
    simp [natL, natI, hj]
  · rw [List.getElem?_eq_none (by simp [natL]; omega), List.getElem?_eq_none (by rw [isV_len]; omega)]
theorem owl_nat {T : TypeId} {B c : Nat} {a : Option Addr} {l : List Nat} {W : World} (h : W.ownsRow B T 1 (.slice a l.length c) l.length (natL l)) : OwL T B l.length a c (natI l) W := by
  rw [natL_isV] at h
  obtain ⟨a', c', e, h2⟩ := owl_of h
  cases e
  exact h2
/-- What stands while low nodes are listed. -/
structure LoS (B gh n : Nat) (H : Nat → Int) (l : List Nat) (ov : Value) (w W : World) : Prop where
  own : W.ownsRow B 2 1 ov l.length (natL l)
  hd : IsBlk 2 gh n H W
  ne : ov.ownBlock ≠ some gh
  old : Below w.heap.size w W
theorem LoS.app {B gh n : Nat} {H : Nat → Int} {l : List Nat} {ov : Value} {w W W3 : World} (h : LoS B gh n H l ov w W) (hB : w.heap.size ≤ B) {o : Obj} {i g cap : Nat} (hown : W3.ownsRow B 2 1 (.slice (some ⟨g, 0, none⟩) (l.length + 1) cap) (l.length + 1) (natL l ++ [.int .i64 (i : Int)])) (hgrow : (W.alloc o).grownBy W3 ov.ownBlock) (hat : ov.ownBlock = some g ∨ g = W.heap.size + 1) : LoS B gh n H (l ++ [i]) (.slice (some ⟨g, 0, none⟩) (l.length + 1) cap) w W3 := by
  have h1 := h.hd.lt
  refine ⟨by rw [natL_app]; simpa using hown, (h.hd.below (nbel_alloc _ _)).block (hgrow.block _ (by rw [World.size_alloc]; omega) (fun e => h.ne e.symm)), ?_, (h.old.alloc h.old.size _).grown hgrow (by rw [World.size_alloc]; have := h.old.size; omega) (fun k hk => Nat.le_trans hB (h.own.lt k hk).1)⟩
  intro e
  have eg : g = gh := by simpa [Value.ownBlock] using e
  rcases hat with k | k
  · exact h.ne (by rw [k, eg])
  · omega
theorem lo_shape {B gh n : Nat} {H : Nat → Int} {l : List Nat} {ov : Value} {w W : World} (h : LoS B gh n H l ov w W) : ∃ a c, ov = .slice a l.length c := mown_shape h.own
end Go.Proofs.Ytngofpjjiadegaa
