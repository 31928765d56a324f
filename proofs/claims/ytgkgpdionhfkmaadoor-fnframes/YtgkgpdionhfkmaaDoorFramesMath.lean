/-
  Right frames' texts one behind the other are scanned as these frames.
-/
import Derived.Test.YtgkgpdionhfkmaaDoorLwFrames
import Derived.Test.YtgkgpdionhfkmaaDoorScanMath
namespace Go.Proofs.YtgkgpdionhfkmaaDoor
open Go.RowKit Go.Deep
/-- The texts of some frames, one behind the other. -/
def texts (fs : List FrD) : List UInt8 := fs.flatMap (fun f => Fr.text f.u f.k f.q f.b.data.toList)
def FrD.out (f : FrD) : Fr.Out := ⟨f.u, f.k, f.q, f.b.data.toList, 8 + f.b.data.toList.length, 0⟩
theorem texts_cons (f : FrD) (fs : List FrD) : texts (f :: fs) = Fr.text f.u f.k f.q f.b.data.toList ++ texts fs := rfl
theorem texts_snoc (f : FrD) (fs : List FrD) : texts (fs ++ [f]) = texts fs ++ Fr.text f.u f.k f.q f.b.data.toList := by unfold texts; rw [List.flatMap_append]; simp
theorem scan_texts (fs : List FrD) (h : ∀ f ∈ fs, f.right) : Fr.scan (texts fs) = (fs.map FrD.out, 0, 0) := by
  induction fs with
  | nil => exact Fr.scan_nil
  | cons f fs ih =>
    have hr : Fr.rightB f.u f.k f.q f.b.data.toList.length = true := h f (by simp)
    have hrd := Fr.read_text f.u f.k f.q f.b.data.toList (texts fs) hr
    have hne : Fr.text f.u f.k f.q f.b.data.toList ++ texts fs ≠ [] := fun e => by
      have := congrArg List.length e
      rw [List.length_append, Fr.text_len] at this
      simp at this
    rw [texts_cons, Fr.scan_frame _ hne (by rw [hrd]), hrd]
    have hd : (Fr.text f.u f.k f.q f.b.data.toList ++ texts fs).drop ((8 + (f.b.data.toList.length : Int)).toNat) = texts fs := by
      have e : (8 + (f.b.data.toList.length : Int)).toNat = (Fr.text f.u f.k f.q f.b.data.toList).length := by rw [Fr.text_len]; omega
      rw [e, List.drop_left]
    simp only [hd]
    rw [ih (fun g hg => h g (by simp [hg]))]
    rfl
theorem texts_len (fs : List FrD) (h : ∀ f ∈ fs, f.right) : (texts fs).length ≤ 72 * fs.length := by
  induction fs with
  | nil => simp [texts]
  | cons f fs ih =>
    have hr : Fr.rightB f.u f.k f.q f.b.size = true := h f (by simp)
    have h64 := ((Fr.rightB_iff _ _ _ _).1 hr).2.2.2.2.2.2
    have := ih (fun g hg => h g (by simp [hg]))
    have e : f.b.data.toList.length = f.b.size := rfl
    rw [texts_cons, List.length_append, Fr.text_len, List.length_cons, e]
    omega
theorem cells_at (fs : List FrD) (i j : Nat) (f : FrD) (h : fs[i]? = some f) (hj : j < 4) : (fs.flatMap FrD.cells)[i * 4 + j]? = f.cells[j]? := by
  induction fs generalizing i with
  | nil => simp at h
  | cons g fs ih =>
    rw [List.flatMap_cons]
    cases i with
    | zero =>
      simp at h; subst h
      rw [Nat.zero_mul, Nat.zero_add, List.getElem?_append_left (by simp [FrD.cells]; exact hj)]
    | succ i =>
      rw [List.getElem?_append_right (by simp [FrD.cells]; omega)]
      have e : (i + 1) * 4 + j - g.cells.length = i * 4 + j := by simp [FrD.cells]; omega
      rw [e]
      exact ih i (by simpa using h)
theorem add_at (g j : Nat) : (⟨g, 0, none⟩ : Addr).add j = ⟨g, j, none⟩ := by
  by_cases h : j = 0
  · subst h; simp [Addr.add]
  · simp [Addr.add, h]
/-- The cells of the frame at a place of a list that is owned. -/
theorem row_frame {B : Nat} {v : Value} {fs : List FrD} {W : World} (h : W.ownsRow B 27 4 v fs.length (fs.flatMap FrD.cells)) (i : Nat) (f : FrD) (hf : fs[i]? = some f) : ∃ g cap, v = .slice (some ⟨g, 0, none⟩) fs.length cap ∧ W.cell? ⟨g, i * 4, none⟩ = some (.int .i64 f.u) ∧ W.cell? ⟨g, i * 4 + 1, none⟩ = some (.int .i64 f.k) ∧ W.cell? ⟨g, i * 4 + 2, none⟩ = some (.int .i64 f.q) ∧ W.cell? ⟨g, i * 4 + 3, none⟩ = some (.string f.b) := by
  have hh := h
  obtain ⟨h1, h2⟩ := h
  rcases h2 with h2 | ⟨g, cap, cur, e1, e2, e3, _⟩
  · have : fs.length = 0 := h2.2
    rw [List.length_eq_zero_iff] at this
    subst this
    simp at hf
  · have hb : v.ownBlock = some g := by rw [e1]; rfl
    have cc : ∀ j x, j < 4 → f.cells[j]? = some x → W.cell? ⟨g, i * 4 + j, none⟩ = some x := fun j x hj hx => by
      have := hh.cells hb (i * 4 + j) x (by rw [cells_at fs i j f hf hj]; exact hx)
      rw [add_at] at this
      exact this
    exact ⟨g, cap, e1, cc 0 _ (by omega) rfl, cc 1 _ (by omega) rfl, cc 2 _ (by omega) rfl, cc 3 _ (by omega) rfl⟩
end Go.Proofs.YtgkgpdionhfkmaaDoor
