/-
  The law FnExactWorkClash.
-/
import Derived.Test.YtganlipebndeoaaJbWc
import Derived.Test.YtganlipebndeoaaJbLawR
namespace Go.Proofs.Ytganlipebndeoaa
open Go.RowKit Go.Deep

theorem Jb.cl_same {gs hs : Nat → Nat} {bs : Nat → Je} {s : Nat → Int} : ∀ i k, Jb.cl (ownJ gs hs bs) s i k ↔ Jb.cl bs s i k := fun _ _ => Iff.rfl
theorem Jb.ros_same {m n : Nat} {gs hs : Nat → Nat} {bs : Nat → Je} {s : Nat → Int} : Jb.RosOk m (ownJ gs hs bs) n s ↔ Jb.RosOk m bs n s := ⟨fun h => ⟨ownJ_right.1 h.1, h.2⟩, fun h => ⟨ownJ_right.2 h.1, h.2⟩⟩
theorem Jb.prs_same {m n : Nat} {gs hs : Nat → Nat} {bs : Nat → Je} {s : Nat → Int} : Jb.prs m (ownJ gs hs bs) n s = Jb.prs m bs n s := by
  unfold Jb.prs
  rw [dB_congr Jb.ros_same, Jb.out_congr Jb.cl_same]
set_option maxRecDepth 100000 in
set_option maxHeartbeats 8000000 in
theorem workClash_law (w : World) (a : Option Addr) (m k : Nat) (bs : Nat → Je) (h1 : JbsIn a m bs w) (hm1 : m ≤ 9223372036854775807) (c : Option Addr) (n ck : Nat) (f : Nat → Int) (h2 : IsIn c n f w) (hn1 : n ≤ 9223372036854775807) :
    Calls Try.prog 5 #[.slice a m k, .slice c n ck] w fun e w' => e = .returned (.bool true) ∧ Below w.heap.size w w' := by
  by_cases hn : n ≤ 1048576
  case neg =>
    have hnz : (1048576 : Int) < (n : Int) := by omega
    have hnz2 : (n : Int) ≤ 9223372036854775807 := by omega
    clear h1 h2
    go_enter Try.func5, Try.ntmps5
    go_wp2_with fail
    go_ret
    exact ⟨rfl, Below.refl _ _⟩
  have H1 := Lib.hid h1
  have HM1 := Lib.hid hm1
  have H2 := Lib.hid h2
  obtain ⟨L, hLd⟩ : ∃ L, L = Jb.prs m bs n f := ⟨_, rfl⟩
  have hL : L.length ≤ 1048576 := by rw [hLd]; have := Jb.prs_len m bs n f; omega
  have SP : Hid (∀ lo hi g gs hs x W, JxM lo hi g m gs hs bs W → JSm m bs → IsBlk 2 x n f W → Calls Try.prog 15 #[.slice (some ⟨g, 0, none⟩) m m, .slice (some ⟨x, 0, none⟩) n n] W fun e w' => PcEnd W.heap.size L e w' ∧ Below W.heap.size W w') := fun lo hi g gs hs x W h hs2 hx => by
    rw [hLd, ← Jb.prs_same (gs := gs) (hs := hs)]; exact specClash_any _ m m _ _ n n f _ h.at_ hs2 hx.at_ hn
  have IM : Hid (∀ lo hi g gs hs x W, JxM lo hi g m gs hs bs W → JSm m bs → IsBlk 2 x n f W → Calls Try.prog 16 #[.slice (some ⟨g, 0, none⟩) m m, .slice (some ⟨x, 0, none⟩) n n] W fun e w' => PcEnd W.heap.size L e w' ∧ Below W.heap.size W w') := fun lo hi g gs hs x W h hs2 hx => by
    rw [hLd, ← Jb.prs_same (gs := gs) (hs := hs)]; exact implClash_any _ m m _ _ n n f _ h.at_ hs2 hx.at_ hn
  clear h1 hm1 h2 hLd hn1
  have HB : Hid (Below w.heap.size w w) := Below.refl _ _
  have hnz : ¬ (1048576 : Int) < (n : Int) := by omega
  go_enter Try.func5, Try.ntmps5
  go_wp2_with fail
  refine (szJobS_any a m k bs _ H1.out HM1.out).mono ?_
  rintro e w1 ⟨⟨z, rfl, hz⟩, hb⟩
  replace HB : Hid (Below w.heap.size w w1) := HB.out.trans (hb.mono HB.out.size)
  clear hb
  rcases hz with hz | ⟨hz, hsum⟩
  · go_wp2_with fail
    go_ret
    exact ⟨rfl, HB.out⟩
  have HSM := Lib.hid hsum
  have NM : Hid (m ≤ 1048576) := by show m ≤ _; omega
  have NN := Lib.hid (jsm_of hsum)
  clear hsum
  go_wp2_with fail
  refine (toJobS_any a m k bs _ (H1.out.below HB.out) NM.out NN.out).mono ?_
  rintro e w2 ⟨⟨gs, hs, rfl, hk⟩, hb⟩
  replace HB : Hid (Below w.heap.size w w2) := HB.out.trans (hb.mono HB.out.size)
  have HK := Lib.hid hk
  clear hb
  clear hk
  go_wp2_with fail
  refine (ntoInt64S_any c n ck f _ (H2.out.below HB.out) hn).mono ?_
  rintro e w3 ⟨⟨rfl, hx⟩, hb⟩
  replace HB : Hid (Below w.heap.size w w3) := HB.out.trans (hb.mono HB.out.size)
  replace HK := Lib.hid (HK.out.below hb)
  have HX := Lib.hid hx
  clear hb
  clear hx
  go_wp2_with fail
  refine (SP.out _ _ _ _ _ _ _ HK.out NN.out HX.out).mono ?_
  rintro e w4 ⟨⟨a0, k0, rfl, hp⟩, hb⟩
  replace HB : Hid (Below w.heap.size w w4) := HB.out.trans (hb.mono HB.out.size)
  clear HK
  clear HX
  have P0 := Lib.hid hp
  clear hb
  clear hp
  have LO : Hid (w.heap.size ≤ w4.heap.size) := HB.out.size
  go_wp2_with fail
  refine (toJobS_any a m k bs _ (H1.out.below HB.out) NM.out NN.out).mono ?_
  rintro e w5 ⟨⟨gs1, hs1, rfl, hk⟩, hb⟩
  replace HB : Hid (Below w.heap.size w w5) := HB.out.trans (hb.mono HB.out.size)
  replace P0 := Lib.hid (P0.out.below hb)
  have HK := Lib.hid hk
  clear hb
  clear hk
  have L5 : Hid (w4.heap.size < w5.heap.size) := HK.out.lt
  go_wp2_with fail
  refine (ntoInt64S_any c n ck f _ (H2.out.below HB.out) hn).mono ?_
  rintro e w6 ⟨⟨rfl, hx⟩, hb⟩
  replace HB : Hid (Below w.heap.size w w6) := HB.out.trans (hb.mono HB.out.size)
  replace P0 := Lib.hid (P0.out.below hb)
  replace HK := Lib.hid (HK.out.below hb)
  have HX := Lib.hid hx
  clear hb
  clear hx
  have L6 : Hid (w5.heap.size < w6.heap.size) := HX.out.lt
  go_wp2_with fail
  refine (IM.out _ _ _ _ _ _ _ HK.out NN.out HX.out).mono ?_
  rintro e w7 ⟨⟨a1, k1, rfl, hp⟩, hb⟩
  replace HB : Hid (Below w.heap.size w w7) := HB.out.trans (hb.mono HB.out.size)
  replace P0 := Lib.hid (P0.out.below hb)
  replace HK := Lib.hid (HK.out.below hb)
  replace HX := Lib.hid (HX.out.below hb)
  have P1 := Lib.hid hp
  clear hb
  clear hp
  go_wp2_with fail
  refine (meqSS_same a1 a0 L.length k1 k0 (fun _ => 2) (Jb.prF L) _ P1.out.at_ P0.out.at_ hL (fun _ _ => by omega)).mono ?_
  rintro e w8 ⟨rfl, hb⟩
  replace HB : Hid (Below w.heap.size w w8) := HB.out.trans (hb.mono HB.out.size)
  replace P0 := Lib.hid (P0.out.below hb)
  replace HK := Lib.hid (HK.out.below hb)
  replace HX := Lib.hid (HX.out.below hb)
  replace P1 := Lib.hid (P1.out.below hb)
  clear hb
  go_wp2_with fail
  refine (toJobS_any a m k bs _ (H1.out.below HB.out) NM.out NN.out).mono ?_
  rintro e w9 ⟨⟨gs2, hs2, rfl, hk⟩, hb⟩
  replace HB : Hid (Below w.heap.size w w9) := HB.out.trans (hb.mono HB.out.size)
  replace P0 := Lib.hid (P0.out.below hb)
  replace HK := Lib.hid (HK.out.below hb)
  replace HX := Lib.hid (HX.out.below hb)
  replace P1 := Lib.hid (P1.out.below hb)
  have HK2 := Lib.hid hk
  clear hb
  clear hk
  go_wp2_with fail
  refine (jeq_law _ _ m m m gs1 hs1 gs2 hs2 bs _ HK.out HK2.out NM.out NN.out).mono ?_
  rintro e wa ⟨rfl, hb⟩
  replace HB : Hid (Below w.heap.size w wa) := HB.out.trans (hb.mono HB.out.size)
  clear HK2
  replace P0 := Lib.hid (P0.out.below hb)
  replace HK := Lib.hid (HK.out.below hb)
  replace HX := Lib.hid (HX.out.below hb)
  replace P1 := Lib.hid (P1.out.below hb)
  clear hb
  go_wp2_with fail
  refine (ntoInt64S_any c n ck f _ (H2.out.below HB.out) hn).mono ?_
  rintro e wb ⟨⟨rfl, hx⟩, hb⟩
  replace HB : Hid (Below w.heap.size w wb) := HB.out.trans (hb.mono HB.out.size)
  replace P0 := Lib.hid (P0.out.below hb)
  replace HK := Lib.hid (HK.out.below hb)
  replace HX := Lib.hid (HX.out.below hb)
  replace P1 := Lib.hid (P1.out.below hb)
  have HX2 := Lib.hid hx
  clear hb
  clear hx
  go_wp2_with fail
  refine (neqInt64S_same _ _ n n n f _ HX.out.at_ HX2.out.at_ hn).mono ?_
  rintro e wc ⟨rfl, hb⟩
  replace HB : Hid (Below w.heap.size w wc) := HB.out.trans (hb.mono HB.out.size)
  clear HX2
  replace P0 := Lib.hid (P0.out.below hb)
  replace HK := Lib.hid (HK.out.below hb)
  replace HX := Lib.hid (HX.out.below hb)
  replace P1 := Lib.hid (P1.out.below hb)
  clear hb
  go_wp2_with fail
  refine (markJobS_any _ _ _ m m gs1 hs1 bs _ HK.out.toR HK.out.up HSM.out).mono ?_
  rintro e wd ⟨rfl, ho⟩
  have q1 := L5.out
  have q2 := L6.out
  replace P0 := Lib.hid (P0.out.same (fun q _ h2 hl => ho.block q hl (by omega)))
  replace P1 := Lib.hid (P1.out.same (fun q h1 _ hl => ho.block q hl (by omega)))
  replace HX := Lib.hid (HX.out.block (ho.block _ HX.out.lt (by omega)))
  replace HB : Hid (Below w.heap.size w wd) := HB.out.trans (ho.below LO.out HB.out.size)
  clear ho q1 q2 HK
  obtain ⟨K, hK⟩ : ∃ K : Nat, K = 1 + m * 2 + cntJ bs m := ⟨_, rfl⟩
  have hKb : K ≤ 4194304 := by have := HSM.out; omega
  rw [← hK]
  clear hK
  go_wp2_with fail
  refine (nmarkInt64S_any _ n n K f _ HX.out hn (by omega)).mono ?_
  rintro e we ⟨rfl, _, ho⟩
  have q1 := L5.out
  have q2 := L6.out
  have q3 := LO.out
  replace P0 := Lib.hid (P0.out.same (fun q _ h2 hl => ho.block q hl (by omega)))
  replace P1 := Lib.hid (P1.out.same (fun q h1 _ hl => ho.block q hl (by omega)))
  replace HB : Hid (Below w.heap.size w we) := HB.out.trans (ho.below (by omega) HB.out.size)
  clear ho q1 q2 q3 HX
  have hkz : ¬ ((K + n : Nat) : Int) < 0 := by omega
  go_wp2_with fail
  refine (meqSS_same a1 a0 L.length k1 k0 (fun _ => 2) (Jb.prF L) _ P1.out.at_ P0.out.at_ hL (fun _ _ => by omega)).mono ?_
  rintro e wf ⟨rfl, hb⟩
  replace HB : Hid (Below w.heap.size w wf) := HB.out.trans (hb.mono HB.out.size)
  replace P0 := Lib.hid (P0.out.below hb)
  replace P1 := Lib.hid (P1.out.below hb)
  clear hb
  clear hkz
  go_wp2_with fail
  refine (markPr_any _ _ _ a1 k1 _ _ P1.out hL).mono ?_
  rintro e wg ⟨rfl, hmk, ho⟩
  have q1 := L5.out
  have q2 := L6.out
  have q3 := LO.out
  replace P0 := Lib.hid (P0.out.same (fun q _ h2 hl => ho.block q hl (by omega)))
  have P2 := Lib.hid hmk
  replace HB : Hid (Below w.heap.size w wg) := HB.out.trans (ho.below (by omega) HB.out.size)
  clear hmk ho q1 q2 q3 P1
  obtain ⟨Q, hQ⟩ : ∃ Q : Nat, Q = 1 + L.length * 2 := ⟨_, rfl⟩
  rw [← hQ]
  have hQ0 : ¬ (Q : Int) < 0 := by omega
  have HQ := Lib.hid hQ
  clear hQ
  go_wp2_with fail
  refine (heldPr_any _ _ _ a1 k1 _ P2.out hL).mono ?_
  rintro e wh ⟨rfl, hw⟩
  subst wh
  rw [← HQ.out]
  go_wp2_with fail
  refine (toJobS_any a m k bs _ (H1.out.below HB.out) NM.out NN.out).mono ?_
  rintro e wi ⟨⟨gs3, hs3, rfl, hk⟩, hb⟩
  replace HB : Hid (Below w.heap.size w wi) := HB.out.trans (hb.mono HB.out.size)
  replace P0 := Lib.hid (P0.out.below hb)
  replace P2 := Lib.hid (P2.out.below hb)
  have HK := Lib.hid hk
  clear hb
  clear hk
  go_wp2_with fail
  refine (ntoInt64S_any c n ck f _ (H2.out.below HB.out) hn).mono ?_
  rintro e wj ⟨⟨rfl, hx⟩, hb⟩
  replace HB : Hid (Below w.heap.size w wj) := HB.out.trans (hb.mono HB.out.size)
  replace P0 := Lib.hid (P0.out.below hb)
  replace P2 := Lib.hid (P2.out.below hb)
  replace HK := Lib.hid (HK.out.below hb)
  have HX := Lib.hid hx
  clear hb
  clear hx
  go_wp2_with fail
  refine (IM.out _ _ _ _ _ _ _ HK.out NN.out HX.out).mono ?_
  rintro e wk ⟨⟨a3, k3, rfl, hp⟩, hb⟩
  replace HB : Hid (Below w.heap.size w wk) := HB.out.trans (hb.mono HB.out.size)
  clear HK
  clear HX
  replace P0 := Lib.hid (P0.out.below hb)
  replace P2 := Lib.hid (P2.out.below hb)
  have P3 := Lib.hid hp
  clear hb
  clear hp
  go_wp2_with fail
  refine (meqSS_same a3 a0 L.length k3 k0 (fun _ => 2) (Jb.prF L) _ P3.out.at_ P0.out.at_ hL (fun _ _ => by omega)).mono ?_
  rintro e wl ⟨rfl, hb⟩
  replace HB : Hid (Below w.heap.size w wl) := HB.out.trans (hb.mono HB.out.size)
  clear P3
  replace P0 := Lib.hid (P0.out.below hb)
  replace P2 := Lib.hid (P2.out.below hb)
  clear hb
  go_wp2_with fail
  refine (heldPr_any _ _ _ a1 k1 _ P2.out hL).mono ?_
  rintro e wm ⟨rfl, hw⟩
  subst wm
  rw [← HQ.out]
  go_wp2_with fail
  go_ret
  exact ⟨rfl, HB.out⟩
end Go.Proofs.Ytganlipebndeoaa
