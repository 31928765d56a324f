/-
  The model's PointsText.
-/
import Derived.Test.YtmejmpdljckfgaaDoorHsS1
import Derived.Test.YtmejmpdljckfgaaDoorHsPk
import Derived.Lib.ConvBytes
import Derived.Laws.BytesArg
import Derived.Laws.Concat
import Derived.Laws.IdiomStrings
namespace Go.Proofs.YtmejmpdljckfgaaDoor
open Go.RowKit Go.Deep

theorem hinfo_u8 : (Tryd.prog.info? 5).map (fun i => (i.zero, i.size, i.bytes)) = some (some (.int .u8 0), 1, 1) := by kernel_rfl
def bV (l : List UInt8) : List Value := l.map fun x : UInt8 => Value.int .u8 (x.toNat : Int)
theorem bV_app (l : List UInt8) (x : UInt8) : bV (l ++ [x]) = bV l ++ [.int .u8 (x.toNat : Int)] := by simp [bV]
theorem byte_cells {B : Nat} {v : Value} {l : List UInt8} {W : World} (h : W.ownsRow B 5 1 v l.length (bV l)) (hl : l ≠ []) : ∃ g k, v = .slice (some ⟨g, 0, none⟩) l.length k ∧ ∀ j (hj : j < l.length), W.cell? ⟨g, j, none⟩ = some (.int .u8 ((l[j]'hj).toNat : Int)) := by
  rcases h.2 with ⟨rfl, h2⟩ | ⟨g, cap, cur, rfl, e2, e3, e4, e5, e6, e7⟩
  · exact absurd (List.eq_nil_of_length_eq_zero h2) hl
  · refine ⟨g, cap, rfl, fun j hj => ?_⟩
    have h1 : (cur.toList.take (l.length * 1))[j]? = (bV l)[j]? := by rw [e7]
    rw [List.getElem?_take, if_pos (by omega), Array.getElem?_toList] at h1
    have e3' : W.heap[g]? = _ := e3
    simp [World.cell?, e3', h1, bV, hj]
theorem strs_back {W : World} {B : Nat} {v : Value} {l : List UInt8} (h : W.ownsRow B 5 1 v l.length (bV l)) (hl : l ≠ []) : (convert 22 9 v).run Tryd.prog W = .ok (.string ⟨l.toArray⟩) W := by
  obtain ⟨g, k, rfl, hc⟩ := byte_cells h hl
  exact run_convert_bytes_back (P := Tryd.prog) W 22 9 5 ⟨g, 0, none⟩ k l Tryd.underlying22 Tryd.underlying5 Tryd.underlying9 (fun j hj => by
    first
    | exact hc j hj
    | (rw [Addr.add_lit, Nat.zero_add]; exact hc j hj)
    | (have := hc j hj; simpa [Addr.add] using this))
theorem strs_all {W : World} {B : Nat} {v : Value} {l : List UInt8} (h : W.ownsRow B 5 1 v l.length (bV l)) : (convert 22 9 v).run Tryd.prog W = .ok (.string ⟨l.toArray⟩) W := by
  by_cases hl : l = []
  · subst hl
    rcases h.2 with ⟨rfl, h2⟩ | ⟨g, cap, cur, rfl, e2, e3, e4, e5, e6, e7⟩
    · exact run_convert_bytes_nil W 22 5 Tryd.underlying22 Tryd.underlying5 0 0 9 Tryd.underlying9
    · exact run_convert_bytes_back (P := Tryd.prog) W 22 9 5 ⟨g, 0, none⟩ cap [] Tryd.underlying22 Tryd.underlying5 Tryd.underlying9 (fun j hj => absurd hj (Nat.not_lt_zero _))
  · exact strs_back h hl
end Go.Proofs.YtmejmpdljckfgaaDoor
