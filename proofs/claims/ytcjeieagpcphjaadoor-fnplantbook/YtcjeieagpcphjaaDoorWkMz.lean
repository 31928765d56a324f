/-
  The contracts of MixBatches, the program's and the model's.
-/
import Derived.Test.YtcjeieagpcphjaaDoorWkMy
import Derived.Test.YtcjeieagpcphjaaDoorWkS1
namespace Go.Proofs.YtcjeieagpcphjaaDoor
open Go.RowKit Go.Deep

theorem PaEnd.one {lo : Nat} {x : Wk.Bt} {W : World} {g : Nat} (h : InBlk g x.n x.f W) (hl : lo ≤ g) (kx : Nat) : PaEnd lo ⟨x, Wk.nil, 0⟩ (.returned (paV ⟨x, Wk.nil, 0⟩ (some ⟨g, 0, none⟩) kx none 0)) W :=
  ⟨_, _, _, _, rfl, Or.inr ⟨g, rfl, ⟨hl, h.lt⟩, h⟩, Or.inl ⟨rfl, rfl, rfl⟩, fun _ _ h => by cases h⟩
end Go.Proofs.YtcjeieagpcphjaaDoor
