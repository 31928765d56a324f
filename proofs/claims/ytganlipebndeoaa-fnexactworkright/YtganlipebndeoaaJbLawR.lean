/-
  The law FnExactJobsRight.
-/
import Derived.Test.YtganlipebndeoaaJbBs
import Derived.Test.YtganlipebndeoaaJbI1
namespace Go.Proofs.Ytganlipebndeoaa
open Go.RowKit Go.Deep

theorem ownJ_right {m : Nat} {gs hs : Nat → Nat} {bs : Nat → Je} : JRight m (ownJ gs hs bs) ↔ JRight m bs :=
  ⟨fun h => ⟨h.1, fun i hi => ⟨(h.2 i hi).d, (h.2 i hi).c, (h.2 i hi).a, (h.2 i hi).r⟩⟩, fun h => ⟨h.1, fun i hi => ⟨(h.2 i hi).d, (h.2 i hi).c, (h.2 i hi).a, (h.2 i hi).r⟩⟩⟩
theorem ownJ_rightB {m : Nat} {gs hs : Nat → Nat} {bs : Nat → Je} : dB (JRight m (ownJ gs hs bs)) = dB (JRight m bs) := dB_congr ownJ_right
theorem JxM.cells {lo hi g m : Nat} {gs hs : Nat → Nat} {bs : Nat → Je} {W : World} (h : JxM lo hi g m gs hs bs W) : ∀ i, i < m → JeCells g (i * 4) (ownJ gs hs bs i) W ∧ JeL (ownJ gs hs bs i) W := by
  intro i hi
  obtain ⟨b, e, h1⟩ := h.at_.at_ hi
  have e1 : g = b := by simpa using e
  subst e1
  exact h1
theorem jeq_law (g1 g2 m c1 c2 : Nat) (gs1 hs1 gs2 hs2 : Nat → Nat) (bs : Nat → Je) {lo1 hi1 lo2 hi2 : Nat} (w : World) (h1 : JxM lo1 hi1 g1 m gs1 hs1 bs w) (h2 : JxM lo2 hi2 g2 m gs2 hs2 bs w) (hm : m ≤ 1048576) (hn : JSm m bs) :
    Calls Try.prog 10 #[.slice (some ⟨g1, 0, none⟩) m c1, .slice (some ⟨g2, 0, none⟩) m c2] w fun e w' => e = .returned (.bool true) ∧ Below w.heap.size w w' :=
  eqJobS_same g1 g2 m c1 c2 (ownJ gs1 hs1 bs) (ownJ gs2 hs2 bs) w h1.cells h2.cells (fun _ _ => ⟨rfl, rfl, rfl, rfl, rfl, rfl⟩) hm hn
theorem jsm_of {m : Nat} {bs : Nat → Je} (h : m + cntJ bs m ≤ 1048576) : JSm m bs := fun i hi => by have := cntJ_at bs hi; omega
set_option maxRecDepth 100000 in
set_option maxHeartbeats 8000000 in
theorem jobs_law (w : World) (a : Option Addr) (m k : Nat) (bs : Nat → Je) (h1 : JbsIn a m bs w) (hm1 : m ≤ 9223372036854775807) :
    Calls Try.prog 3 #[.slice a m k] w fun e w' => e = .returned (.bool true) ∧ Below w.heap.size w w' := by
  have H1 := Lib.hid h1
  have HM1 := Lib.hid hm1
  obtain ⟨q, hq⟩ : ∃ q, q = dB (JRight m bs) := ⟨_, rfl⟩
  have SP : Hid (∀ lo hi g gs hs W, JxM lo hi g m gs hs bs W → JSm m bs → Calls Try.prog 7 #[.slice (some ⟨g, 0, none⟩) m m] W fun e w' => e = .returned (.bool q) ∧ Below W.heap.size W w') := fun lo hi g gs hs W h hn => by rw [hq, ← ownJ_rightB (gs := gs) (hs := hs)]; exact specJobs_any _ m m _ _ h.at_ hn
  have IM : Hid (∀ lo hi g gs hs W, JxM lo hi g m gs hs bs W → JSm m bs → Calls Try.prog 9 #[.slice (some ⟨g, 0, none⟩) m m] W fun e w' => e = .returned (.bool q) ∧ Below W.heap.size W w') := fun lo hi g gs hs W h hn => by rw [hq, ← ownJ_rightB (gs := gs) (hs := hs)]; exact implJobs_any _ m m _ _ h.at_ hn
  clear h1 hm1 hq
  have HB : Hid (Below w.heap.size w w) := Below.refl _ _
  go_enter Try.func3, Try.ntmps3
  go_wp2_with fail
  refine (szJobS_any a m k bs _ H1.out HM1.out).mono ?_
  rintro e w1 ⟨⟨z, rfl, hz⟩, hb⟩
  replace HB : Hid (Below w.heap.size w w1) := HB.out.trans (hb.mono HB.out.size)
  clear hb
  rcases hz with hz | ⟨hz, hsum⟩
  · go_wp2_with fail
    go_ret
    exact ⟨rfl, HB.out⟩
  have NM : Hid (m ≤ 1048576) := by show m ≤ _; omega
  have NN := Lib.hid (jsm_of hsum)
  clear hsum
  go_wp2_with fail
  refine (toJobS_any a m k bs _ (H1.out.below HB.out) NM.out NN.out).mono ?_
  rintro e w2 ⟨⟨gs, hs, rfl, hk⟩, hb⟩
  replace HB : Hid (Below w.heap.size w w2) := HB.out.trans (hb.mono HB.out.size)
  have HK := Lib.hid hk
  clear hb hk
  go_wp2_with fail
  refine (SP.out _ _ _ _ _ _ HK.out NN.out).mono ?_
  rintro e w3 ⟨rfl, hb⟩
  replace HB : Hid (Below w.heap.size w w3) := HB.out.trans (hb.mono HB.out.size)
  clear hb HK
  go_wp2_with fail
  refine (toJobS_any a m k bs _ (H1.out.below HB.out) NM.out NN.out).mono ?_
  rintro e w4 ⟨⟨gs1, hs1, rfl, hk⟩, hb⟩
  replace HB : Hid (Below w.heap.size w w4) := HB.out.trans (hb.mono HB.out.size)
  have HK := Lib.hid hk
  clear hb hk
  go_wp2_with fail
  refine (IM.out _ _ _ _ _ _ HK.out NN.out).mono ?_
  rintro e w5 ⟨rfl, hb⟩
  replace HB : Hid (Below w.heap.size w w5) := HB.out.trans (hb.mono HB.out.size)
  replace HK := Lib.hid (HK.out.below hb)
  clear hb
  go_wp2_with fail
  refine (toJobS_any a m k bs _ (H1.out.below HB.out) NM.out NN.out).mono ?_
  rintro e w6 ⟨⟨gs2, hs2, rfl, hk⟩, hb⟩
  replace HB : Hid (Below w.heap.size w w6) := HB.out.trans (hb.mono HB.out.size)
  replace HK := Lib.hid (HK.out.below hb)
  have HK2 := Lib.hid hk
  clear hb hk
  go_wp2_with fail
  refine (jeq_law _ _ m m m gs1 hs1 gs2 hs2 bs _ HK.out HK2.out NM.out NN.out).mono ?_
  rintro e w7 ⟨rfl, hb⟩
  replace HB : Hid (Below w.heap.size w w7) := HB.out.trans (hb.mono HB.out.size)
  clear hb HK HK2
  go_wp2_with fail
  go_ret
  exact ⟨rfl, HB.out⟩
end Go.Proofs.Ytganlipebndeoaa
