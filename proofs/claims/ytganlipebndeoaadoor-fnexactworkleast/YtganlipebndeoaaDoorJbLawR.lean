/-
  The law FnExactJobsRight.
-/
import Derived.Test.YtganlipebndeoaaDoorJbBs
import Derived.Test.YtganlipebndeoaaDoorJbI1
namespace Go.Proofs.YtganlipebndeoaaDoor
open Go.RowKit Go.Deep

theorem ownJ_right {m : Nat} {gs hs : Nat → Nat} {bs : Nat → Je} : JRight m (ownJ gs hs bs) ↔ JRight m bs :=
  ⟨fun h => ⟨h.1, fun i hi => ⟨(h.2 i hi).d, (h.2 i hi).c, (h.2 i hi).a, (h.2 i hi).r⟩⟩, fun h => ⟨h.1, fun i hi => ⟨(h.2 i hi).d, (h.2 i hi).c, (h.2 i hi).a, (h.2 i hi).r⟩⟩⟩
theorem ownJ_rightB {m : Nat} {gs hs : Nat → Nat} {bs : Nat → Je} : dB (JRight m (ownJ gs hs bs)) = dB (JRight m bs) := dB_congr ownJ_right
theorem JxM.cells {lo hi g m : Nat} {gs hs : Nat → Nat} {bs : Nat → Je} {W : World} (h : JxM lo hi g m gs hs bs W) : ∀ i, i < m → JeCells g (i * 4) (ownJ gs hs bs i) W ∧ JeL (ownJ gs hs bs i) W := by
  intro i hi
  obtain ⟨b, e, h1⟩ := h.at_.at_ hi
  have e1 : g = b := by simpa using e
  subst e1
  exact h1
theorem jeq_law (g1 g2 m c1 c2 : Nat) (gs1 hs1 gs2 hs2 : Nat → Nat) (bs : Nat → Je) {lo1 hi1 lo2 hi2 : Nat} (w : World) (h1 : JxM lo1 hi1 g1 m gs1 hs1 bs w) (h2 : JxM lo2 hi2 g2 m gs2 hs2 bs w) (hm : m ≤ 1048576) (hn : JSm m bs) :
    Calls Tryd.prog 9 #[.slice (some ⟨g1, 0, none⟩) m c1, .slice (some ⟨g2, 0, none⟩) m c2] w fun e w' => e = .returned (.bool true) ∧ Below w.heap.size w w' :=
  eqJobS_same g1 g2 m c1 c2 (ownJ gs1 hs1 bs) (ownJ gs2 hs2 bs) w h1.cells h2.cells (fun _ _ => ⟨rfl, rfl, rfl, rfl, rfl, rfl⟩) hm hn
theorem jsm_of {m : Nat} {bs : Nat → Je} (h : m + cntJ bs m ≤ 1048576) : JSm m bs := fun i hi => by have := cntJ_at bs hi; omega
end Go.Proofs.YtganlipebndeoaaDoor
