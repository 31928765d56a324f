/-
  The law FnExactRenewYears.
-/
import Derived.Test.YtbkpedcabbppbaaRnY3
namespace Go.Proofs.Ytbkpedcabbppbaa
open Go.RowKit Go.Deep

def YsEnd (B m : Nat) (LN : Nat → Nat) (L : Nat → Nat → Int) (e : Ending) (W : World) : Prop := ∃ a k, e = .returned (.slice a m k) ∧ SsO B W.heap.size m a k LN L W
set_option maxRecDepth 100000 in
set_option maxHeartbeats 8000000 in
theorem renewYears_law (w : World) (a : Option Addr) (n k : Nat) (f : Nat → Int) (h : IsIn a (n * 2) f w) (hn9 : n ≤ 9223372036854775807) (pa : Option Addr) (pm pk : Nat) (p : Nat → Int) (hp : IsIn pa pm p w) (hm9 : pm ≤ 9223372036854775807) :
    Calls Try.prog 6 #[.slice a n k, .slice pa pm pk] w fun e w' => e = .returned (.bool true) ∧ Below w.heap.size w w' := by
  by_cases hpm : pm ≤ 1048576
  case neg =>
    have hmz : (1048576 : Int) < (pm : Int) := by omega
    have hmz2 : (pm : Int) ≤ 9223372036854775807 := by omega
    clear h hp
    go_enter Try.func6, Try.ntmps6
    go_wp2_with fail
    go_ret
    exact ⟨rfl, Below.refl _ _⟩
  have hmz : ¬ (1048576 : Int) < (pm : Int) := by omega
  by_cases hn : n ≤ 1048576
  case neg =>
    clear h hp
    go_enter Try.func6, Try.ntmps6
    go_wp2_with fail
    refine (nszAsset_over a n k 1048576 _ (by omega) (by omega) hn9).mono ?_
    rintro e w1 ⟨rfl, rfl⟩
    go_wp2_with fail
    go_ret
    exact ⟨rfl, Below.refl _ _⟩
  have H := Lib.hid h
  have HP := Lib.hid hp
  have HB : Hid (Below w.heap.size w w) := Below.refl _ _
  obtain ⟨m, hm⟩ : ∃ m, m = Rn.ym n f pm p := ⟨_, rfl⟩
  obtain ⟨LN, hLN⟩ : ∃ LN : Nat → Nat, LN = fun j => (Rn.own f n p j).length := ⟨_, rfl⟩
  obtain ⟨L, hL⟩ : ∃ L : Nat → Nat → Int, L = fun j => Rn.nf (Rn.own f n p j) := ⟨_, rfl⟩
  have hbd : m ≤ 20 ∧ (m = 0 ∨ ∀ i, LN i ≤ 40) := by
    by_cases q : Rn.YsOk n f pm p
    · rw [hm, Rn.ym_yes q]
      refine ⟨q.2.1, Or.inr (fun i => ?_)⟩
      rw [hLN]
      exact Nat.le_trans (Rn.own_len f n p i) q.1.1
    · rw [hm, Rn.ym_no q]
      exact ⟨by omega, Or.inl rfl⟩
  have SP : Hid (∀ g g2 V, IsBlk 45 g (n * 2) f V → IsBlk 2 g2 pm p V → Calls Try.prog 22 #[.slice (some ⟨g, 0, none⟩) n n, .slice (some ⟨g2, 0, none⟩) pm pm] V fun e w' => YsEnd V.heap.size m LN L e w' ∧ Below V.heap.size V w') := fun g g2 V q q2 => by
    rw [hm, hLN, hL]; exact specYears_any _ n n f _ pm pm p V q.at_ hn q2.at_ hpm
  have IM : Hid (∀ g g2 V, IsBlk 45 g (n * 2) f V → IsBlk 2 g2 pm p V → Calls Try.prog 24 #[.slice (some ⟨g, 0, none⟩) n n, .slice (some ⟨g2, 0, none⟩) pm pm] V fun e w' => YsEnd V.heap.size m LN L e w' ∧ Below V.heap.size V w') := fun g g2 V q q2 => by
    rw [hm, hLN, hL]; exact implYears_any _ n n f _ pm pm p V q.at_ hn q2.at_ hpm
  have hm20 : m ≤ 20 := hbd.1
  have HLN : Hid (∀ i, i < m → LN i ≤ 1048576) := fun i hi => by
    rcases hbd.2 with q | q
    · omega
    · have := q i; omega
  have HTOT : Hid (Mn.tot LN m ≤ 1048576) := by
    show _ ≤ _
    rcases hbd.2 with q | q
    · rw [q]; exact Nat.zero_le _
    · have : ∀ i, Mn.tot LN i ≤ i * 40 := by
        intro i
        induction i with
        | zero => exact Nat.le_refl _
        | succ i ih =>
          show Mn.tot LN i + LN i ≤ _
          have := q i
          omega
      have := this m
      omega
  clear h hn9 hp hm9 hm hLN hL hbd
  go_enter Try.func6, Try.ntmps6
  go_wp2_with fail
  refine (nszAsset_in a n k 1048576 _ hn (by omega)).mono ?_
  rintro e w1 ⟨rfl, hw⟩
  subst w1
  obtain ⟨left, hleft⟩ : ∃ left : Nat, left = 1048576 - n := ⟨_, rfl⟩
  rw [← hleft]
  have hleftz : ¬ (left : Int) < 0 := by omega
  clear hleft
  go_wp2_with fail
  refine (ntoAssetS_any a n k f _ (H.out.below HB.out) hn).mono ?_
  rintro e w2 ⟨⟨rfl, hx⟩, hb⟩
  replace HB : Hid (Below w.heap.size w w2) := HB.out.trans (hb.mono HB.out.size)
  have HX := Lib.hid hx
  clear hb
  clear hx
  go_wp2_with fail
  refine (ntoInt64S_any pa pm pk p _ (HP.out.below HB.out) hpm).mono ?_
  rintro e w2i ⟨⟨rfl, hx⟩, hb⟩
  replace HB : Hid (Below w.heap.size w w2i) := HB.out.trans (hb.mono HB.out.size)
  replace HX := Lib.hid (HX.out.below hb)
  have HY := Lib.hid hx
  clear hb
  clear hx
  go_wp2_with fail
  refine (SP.out _ _ _ HX.out HY.out).mono ?_
  rintro e w3 ⟨⟨a0, k0, rfl, hp⟩, hb⟩
  replace HB : Hid (Below w.heap.size w w3) := HB.out.trans (hb.mono HB.out.size)
  clear HX
  clear HY
  have P0 := Lib.hid hp
  clear hb
  clear hp
  have LO : Hid (w.heap.size ≤ w3.heap.size) := HB.out.size
  go_wp2_with fail
  refine (ntoAssetS_any a n k f _ (H.out.below HB.out) hn).mono ?_
  rintro e w4 ⟨⟨rfl, hx⟩, hb⟩
  replace HB : Hid (Below w.heap.size w w4) := HB.out.trans (hb.mono HB.out.size)
  replace P0 := Lib.hid (P0.out.below hb)
  have HX := Lib.hid hx
  clear hb
  clear hx
  have L4 : Hid (w3.heap.size < w4.heap.size) := HX.out.lt
  go_wp2_with fail
  refine (ntoInt64S_any pa pm pk p _ (HP.out.below HB.out) hpm).mono ?_
  rintro e w4i ⟨⟨rfl, hx⟩, hb⟩
  replace HB : Hid (Below w.heap.size w w4i) := HB.out.trans (hb.mono HB.out.size)
  replace P0 := Lib.hid (P0.out.below hb)
  replace HX := Lib.hid (HX.out.below hb)
  have HY := Lib.hid hx
  clear hb
  clear hx
  have L4i : Hid (w4.heap.size < w4i.heap.size) := HY.out.lt
  go_wp2_with fail
  refine (IM.out _ _ _ HX.out HY.out).mono ?_
  rintro e w5 ⟨⟨a1, k1, rfl, hp⟩, hb⟩
  replace HB : Hid (Below w.heap.size w w5) := HB.out.trans (hb.mono HB.out.size)
  replace P0 := Lib.hid (P0.out.below hb)
  replace HX := Lib.hid (HX.out.below hb)
  replace HY := Lib.hid (HY.out.below hb)
  have P1 := Lib.hid hp
  clear hb
  clear hp
  go_wp2_with fail
  refine (meqSS_same a1 a0 m k1 k0 LN L _ P1.out.at_ P0.out.at_ (by omega) HLN.out).mono ?_
  rintro e w6 ⟨rfl, hb⟩
  replace HB : Hid (Below w.heap.size w w6) := HB.out.trans (hb.mono HB.out.size)
  replace P0 := Lib.hid (P0.out.below hb)
  replace HX := Lib.hid (HX.out.below hb)
  replace HY := Lib.hid (HY.out.below hb)
  replace P1 := Lib.hid (P1.out.below hb)
  clear hb
  go_wp2_with fail
  refine (ntoAssetS_any a n k f _ (H.out.below HB.out) hn).mono ?_
  rintro e w7 ⟨⟨rfl, hx⟩, hb⟩
  replace HB : Hid (Below w.heap.size w w7) := HB.out.trans (hb.mono HB.out.size)
  replace P0 := Lib.hid (P0.out.below hb)
  replace HX := Lib.hid (HX.out.below hb)
  replace HY := Lib.hid (HY.out.below hb)
  replace P1 := Lib.hid (P1.out.below hb)
  have HX2 := Lib.hid hx
  clear hb
  clear hx
  go_wp2_with fail
  refine (neqAssetS_same _ _ n n n f _ HX.out.at_ HX2.out.at_ hn).mono ?_
  rintro e w8 ⟨rfl, hb⟩
  replace HB : Hid (Below w.heap.size w w8) := HB.out.trans (hb.mono HB.out.size)
  clear HX2
  replace P0 := Lib.hid (P0.out.below hb)
  replace HX := Lib.hid (HX.out.below hb)
  replace HY := Lib.hid (HY.out.below hb)
  replace P1 := Lib.hid (P1.out.below hb)
  clear hb
  go_wp2_with fail
  refine (ntoInt64S_any pa pm pk p _ (HP.out.below HB.out) hpm).mono ?_
  rintro e w7i ⟨⟨rfl, hx⟩, hb⟩
  replace HB : Hid (Below w.heap.size w w7i) := HB.out.trans (hb.mono HB.out.size)
  replace P0 := Lib.hid (P0.out.below hb)
  replace HX := Lib.hid (HX.out.below hb)
  replace HY := Lib.hid (HY.out.below hb)
  replace P1 := Lib.hid (P1.out.below hb)
  have HY2 := Lib.hid hx
  clear hb
  clear hx
  go_wp2_with fail
  refine (neqInt64S_same _ _ pm pm pm p _ HY.out.at_ HY2.out.at_ hpm).mono ?_
  rintro e w8i ⟨rfl, hb⟩
  replace HB : Hid (Below w.heap.size w w8i) := HB.out.trans (hb.mono HB.out.size)
  clear HY2
  replace P0 := Lib.hid (P0.out.below hb)
  replace HX := Lib.hid (HX.out.below hb)
  replace HY := Lib.hid (HY.out.below hb)
  replace P1 := Lib.hid (P1.out.below hb)
  clear hb
  go_wp2_with fail
  refine (nmarkAssetS_any _ n n 1 f _ HX.out hn (by omega)).mono ?_
  rintro e w9 ⟨rfl, _, ho⟩
  have q1 := L4.out
  have q2 := LO.out
  have q3 := L4i.out
  replace P0 := Lib.hid (P0.out.same (fun q _ h2 hl => ho.block q hl (by omega)))
  replace P1 := Lib.hid (P1.out.same (fun q h1 _ hl => ho.block q hl (by omega)))
  replace HY := Lib.hid (HY.out.block (ho.block _ HY.out.lt (by omega)))
  replace HB : Hid (Below w.heap.size w w9) := HB.out.trans (ho.below (by omega) HB.out.size)
  clear ho q1 q2 q3 HX
  obtain ⟨K, hK⟩ : ∃ K : Nat, K = 1 + n * 2 := ⟨_, rfl⟩
  rw [← hK]
  have hKb : K ≤ 4194304 := by omega
  clear hK
  go_wp2_with fail
  refine (nmarkInt64S_any _ pm pm K p _ HY.out hpm (by omega)).mono ?_
  rintro e w9i ⟨rfl, _, ho⟩
  have q1 := L4.out
  have q2 := LO.out
  have q3 := L4i.out
  replace P0 := Lib.hid (P0.out.same (fun q _ h2 hl => ho.block q hl (by omega)))
  replace P1 := Lib.hid (P1.out.same (fun q h1 _ hl => ho.block q hl (by omega)))
  replace HB : Hid (Below w.heap.size w w9i) := HB.out.trans (ho.below (by omega) HB.out.size)
  clear ho q1 q2 q3 HY
  obtain ⟨K2, hK2⟩ : ∃ K2 : Nat, K2 = K + pm := ⟨_, rfl⟩
  rw [← hK2]
  have hKz : ¬ (K2 : Int) < 0 := by omega
  clear hK2
  go_wp2_with fail
  refine (meqSS_same a1 a0 m k1 k0 LN L _ P1.out.at_ P0.out.at_ (by omega) HLN.out).mono ?_
  rintro e wa ⟨rfl, hb⟩
  replace HB : Hid (Below w.heap.size w wa) := HB.out.trans (hb.mono HB.out.size)
  replace P0 := Lib.hid (P0.out.below hb)
  replace P1 := Lib.hid (P1.out.below hb)
  clear hb
  clear hKz
  go_wp2_with fail
  refine (markSs_any _ _ m a1 k1 _ _ _ P1.out (by omega) HTOT.out).mono ?_
  rintro e wb ⟨rfl, hmk, ho⟩
  have q1 := L4.out
  have q2 := LO.out
  have q3 := L4i.out
  replace P0 := Lib.hid (P0.out.same (fun q _ h2 hl => ho.block q hl (by omega)))
  have P2 := Lib.hid hmk
  replace HB : Hid (Below w.heap.size w wb) := HB.out.trans (ho.below (by omega) HB.out.size)
  clear hmk ho q1 q2 q3 P1
  obtain ⟨Q, hQ⟩ : ∃ Q : Nat, Q = 1 + Mn.tot LN m := ⟨_, rfl⟩
  rw [← hQ]
  have hQ0 : ¬ (Q : Int) < 0 := by omega
  have HQ := Lib.hid hQ
  clear hQ
  go_wp2_with fail
  refine (heldSs_any _ _ m a1 k1 _ _ P2.out (by omega) HTOT.out).mono ?_
  rintro e wc ⟨rfl, hw⟩
  subst wc
  rw [← HQ.out]
  go_wp2_with fail
  refine (ntoAssetS_any a n k f _ (H.out.below HB.out) hn).mono ?_
  rintro e wd ⟨⟨rfl, hx⟩, hb⟩
  replace HB : Hid (Below w.heap.size w wd) := HB.out.trans (hb.mono HB.out.size)
  replace P0 := Lib.hid (P0.out.below hb)
  replace P2 := Lib.hid (P2.out.below hb)
  have HX := Lib.hid hx
  clear hb
  clear hx
  go_wp2_with fail
  refine (ntoInt64S_any pa pm pk p _ (HP.out.below HB.out) hpm).mono ?_
  rintro e wdi ⟨⟨rfl, hx⟩, hb⟩
  replace HB : Hid (Below w.heap.size w wdi) := HB.out.trans (hb.mono HB.out.size)
  replace P0 := Lib.hid (P0.out.below hb)
  replace P2 := Lib.hid (P2.out.below hb)
  replace HX := Lib.hid (HX.out.below hb)
  have HY := Lib.hid hx
  clear hb
  clear hx
  go_wp2_with fail
  refine (IM.out _ _ _ HX.out HY.out).mono ?_
  rintro e we ⟨⟨a3, k3, rfl, hp⟩, hb⟩
  replace HB : Hid (Below w.heap.size w we) := HB.out.trans (hb.mono HB.out.size)
  clear HX
  clear HY
  replace P0 := Lib.hid (P0.out.below hb)
  replace P2 := Lib.hid (P2.out.below hb)
  have P3 := Lib.hid hp
  clear hb
  clear hp
  go_wp2_with fail
  refine (meqSS_same a3 a0 m k3 k0 LN L _ P3.out.at_ P0.out.at_ (by omega) HLN.out).mono ?_
  rintro e wf ⟨rfl, hb⟩
  replace HB : Hid (Below w.heap.size w wf) := HB.out.trans (hb.mono HB.out.size)
  clear P3
  replace P0 := Lib.hid (P0.out.below hb)
  replace P2 := Lib.hid (P2.out.below hb)
  clear hb
  go_wp2_with fail
  refine (heldSs_any _ _ m a1 k1 _ _ P2.out (by omega) HTOT.out).mono ?_
  rintro e wg ⟨rfl, hw⟩
  subst wg
  rw [← HQ.out]
  go_wp2_with fail
  go_ret
  exact ⟨rfl, HB.out⟩
end Go.Proofs.Ytbkpedcabbppbaa
