/-
  The law FnExactRenewTable.
-/
import Derived.Test.YtbkpedcabbppbaaRnT5
namespace Go.Proofs.Ytbkpedcabbppbaa
open Go.RowKit Go.Deep

set_option maxRecDepth 100000 in
set_option maxHeartbeats 8000000 in
theorem renewTable_law (w : World) (a : Option Addr) (n k : Nat) (f : Nat → Int) (h : IsIn a (n * 2) f w) (hn9 : n ≤ 9223372036854775807) (z : Int) :
    Calls Try.prog 4 #[.slice a n k, .int .i64 z] w fun e w' => e = .returned (.bool true) ∧ Below w.heap.size w w' := by
  by_cases hn : n ≤ 1048576
  case neg =>
    clear h
    go_enter Try.func4, Try.ntmps4
    go_wp2_with fail
    refine (nszAsset_over a n k 1048576 _ (by omega) (by omega) hn9).mono ?_
    rintro e w1 ⟨rfl, rfl⟩
    go_wp2_with fail
    go_ret
    exact ⟨rfl, Below.refl _ _⟩
  have H := Lib.hid h
  have HB : Hid (Below w.heap.size w w) := Below.refl _ _
  obtain ⟨m, hm⟩ : ∃ m, m = Rn.tn n f z := ⟨_, rfl⟩
  have hm41 : m ≤ 41 := by rw [hm]; exact Rn.tn_le n f z
  obtain ⟨N, hN⟩ : ∃ N, N = z.toNat + 1 := ⟨_, rfl⟩
  obtain ⟨L, hL⟩ : ∃ L, L = Rn.T f n := ⟨_, rfl⟩
  have hN3 : m = 0 ∨ N ≤ 301 := by
    by_cases q : Rn.Right n f ∧ Rn.BudOk z
    · exact Or.inr (by have := q.2.2; omega)
    · exact Or.inl (by rw [hm, Rn.tn_no q])
  have SP : Hid (∀ g V, IsBlk 45 g (n * 2) f V → Calls Try.prog 12 #[.slice (some ⟨g, 0, none⟩) n n, .int .i64 z] V fun e w' => TbEnd V.heap.size m N L e w' ∧ Below V.heap.size V w') := fun g V q => by
    rw [hm, hN, hL]; exact specTable_any _ n n f z V q.at_ hn
  have IM : Hid (∀ g V, IsBlk 45 g (n * 2) f V → Calls Try.prog 13 #[.slice (some ⟨g, 0, none⟩) n n, .int .i64 z] V fun e w' => TbEnd V.heap.size m N L e w' ∧ Below V.heap.size V w') := fun g V q => by
    rw [hm, hN, hL]; exact implTable_any _ n n f z V q.at_ hn
  have HLN : Hid (∀ i, i < m → (fun _ : Nat => N) i ≤ 1048576) := fun i hi => by show N ≤ _; omega
  have HTOT : Hid (Mn.tot (fun _ => N) m ≤ 1048576) := by
    show _ ≤ _
    rcases hN3 with q | q
    · rw [q]; exact Nat.zero_le _
    · have : ∀ i, Mn.tot (fun _ => N) i ≤ i * 301 := by
        intro i
        induction i with
        | zero => exact Nat.le_refl _
        | succ i ih =>
          show Mn.tot (fun _ => N) i + N ≤ _
          omega
      have := this m
      omega
  clear h hn9 hm hN hL hN3
  go_enter Try.func4, Try.ntmps4
  go_wp2_with fail
  refine (nszAsset_in a n k 1048576 _ hn (by omega)).mono ?_
  rintro e w1 ⟨rfl, hw⟩
  subst w1
  obtain ⟨left, hleft⟩ : ∃ left : Nat, left = 1048576 - n := ⟨_, rfl⟩
  rw [← hleft]
  have hleftz : ¬ (left : Int) < 0 := by omega
  clear hleft
  go_wp2_with fail
  refine (ntoAssetS_any a n k f _ (H.out.below HB.out) hn).mono ?_
  rintro e w2 ⟨⟨rfl, hx⟩, hb⟩
  replace HB : Hid (Below w.heap.size w w2) := HB.out.trans (hb.mono HB.out.size)
  have HX := Lib.hid hx
  clear hb
  clear hx
  go_wp2_with fail
  refine (SP.out _ _ HX.out).mono ?_
  rintro e w3 ⟨⟨a0, k0, rfl, hp⟩, hb⟩
  replace HB : Hid (Below w.heap.size w w3) := HB.out.trans (hb.mono HB.out.size)
  clear HX
  have P0 := Lib.hid hp
  clear hb
  clear hp
  have LO : Hid (w.heap.size ≤ w3.heap.size) := HB.out.size
  go_wp2_with fail
  refine (ntoAssetS_any a n k f _ (H.out.below HB.out) hn).mono ?_
  rintro e w4 ⟨⟨rfl, hx⟩, hb⟩
  replace HB : Hid (Below w.heap.size w w4) := HB.out.trans (hb.mono HB.out.size)
  replace P0 := Lib.hid (P0.out.below hb)
  have HX := Lib.hid hx
  clear hb
  clear hx
  have L4 : Hid (w3.heap.size < w4.heap.size) := HX.out.lt
  go_wp2_with fail
  refine (IM.out _ _ HX.out).mono ?_
  rintro e w5 ⟨⟨a1, k1, rfl, hp⟩, hb⟩
  replace HB : Hid (Below w.heap.size w w5) := HB.out.trans (hb.mono HB.out.size)
  replace P0 := Lib.hid (P0.out.below hb)
  replace HX := Lib.hid (HX.out.below hb)
  have P1 := Lib.hid hp
  clear hb
  clear hp
  go_wp2_with fail
  refine (meqSS_same a1 a0 m k1 k0 (fun _ => N) L _ P1.out.at_ P0.out.at_ (by omega) HLN.out).mono ?_
  rintro e w6 ⟨rfl, hb⟩
  replace HB : Hid (Below w.heap.size w w6) := HB.out.trans (hb.mono HB.out.size)
  replace P0 := Lib.hid (P0.out.below hb)
  replace HX := Lib.hid (HX.out.below hb)
  replace P1 := Lib.hid (P1.out.below hb)
  clear hb
  go_wp2_with fail
  refine (ntoAssetS_any a n k f _ (H.out.below HB.out) hn).mono ?_
  rintro e w7 ⟨⟨rfl, hx⟩, hb⟩
  replace HB : Hid (Below w.heap.size w w7) := HB.out.trans (hb.mono HB.out.size)
  replace P0 := Lib.hid (P0.out.below hb)
  replace HX := Lib.hid (HX.out.below hb)
  replace P1 := Lib.hid (P1.out.below hb)
  have HX2 := Lib.hid hx
  clear hb
  clear hx
  go_wp2_with fail
  refine (neqAssetS_same _ _ n n n f _ HX.out.at_ HX2.out.at_ hn).mono ?_
  rintro e w8 ⟨rfl, hb⟩
  replace HB : Hid (Below w.heap.size w w8) := HB.out.trans (hb.mono HB.out.size)
  clear HX2
  replace P0 := Lib.hid (P0.out.below hb)
  replace HX := Lib.hid (HX.out.below hb)
  replace P1 := Lib.hid (P1.out.below hb)
  clear hb
  go_wp2_with fail
  refine (nmarkAssetS_any _ n n 1 f _ HX.out hn (by omega)).mono ?_
  rintro e w9 ⟨rfl, _, ho⟩
  have q1 := L4.out
  have q2 := LO.out
  replace P0 := Lib.hid (P0.out.same (fun q _ h2 hl => ho.block q hl (by omega)))
  replace P1 := Lib.hid (P1.out.same (fun q h1 _ hl => ho.block q hl (by omega)))
  replace HB : Hid (Below w.heap.size w w9) := HB.out.trans (ho.below (by omega) HB.out.size)
  clear ho q1 q2 HX
  obtain ⟨K, hK⟩ : ∃ K : Nat, K = 1 + n * 2 := ⟨_, rfl⟩
  rw [← hK]
  have hKz : ¬ (K : Int) < 0 := by omega
  clear hK
  go_wp2_with fail
  refine (meqSS_same a1 a0 m k1 k0 (fun _ => N) L _ P1.out.at_ P0.out.at_ (by omega) HLN.out).mono ?_
  rintro e wa ⟨rfl, hb⟩
  replace HB : Hid (Below w.heap.size w wa) := HB.out.trans (hb.mono HB.out.size)
  replace P0 := Lib.hid (P0.out.below hb)
  replace P1 := Lib.hid (P1.out.below hb)
  clear hb
  clear hKz
  go_wp2_with fail
  refine (markSs_any _ _ m a1 k1 _ _ _ P1.out (by omega) HTOT.out).mono ?_
  rintro e wb ⟨rfl, hmk, ho⟩
  have q1 := L4.out
  have q2 := LO.out
  replace P0 := Lib.hid (P0.out.same (fun q _ h2 hl => ho.block q hl (by omega)))
  have P2 := Lib.hid hmk
  replace HB : Hid (Below w.heap.size w wb) := HB.out.trans (ho.below (by omega) HB.out.size)
  clear hmk ho q1 q2 P1
  obtain ⟨Q, hQ⟩ : ∃ Q : Nat, Q = 1 + Mn.tot (fun _ => N) m := ⟨_, rfl⟩
  rw [← hQ]
  have hQ0 : ¬ (Q : Int) < 0 := by omega
  have HQ := Lib.hid hQ
  clear hQ
  go_wp2_with fail
  refine (heldSs_any _ _ m a1 k1 _ _ P2.out (by omega) HTOT.out).mono ?_
  rintro e wc ⟨rfl, hw⟩
  subst wc
  rw [← HQ.out]
  go_wp2_with fail
  refine (ntoAssetS_any a n k f _ (H.out.below HB.out) hn).mono ?_
  rintro e wd ⟨⟨rfl, hx⟩, hb⟩
  replace HB : Hid (Below w.heap.size w wd) := HB.out.trans (hb.mono HB.out.size)
  replace P0 := Lib.hid (P0.out.below hb)
  replace P2 := Lib.hid (P2.out.below hb)
  have HX := Lib.hid hx
  clear hb
  clear hx
  go_wp2_with fail
  refine (IM.out _ _ HX.out).mono ?_
  rintro e we ⟨⟨a3, k3, rfl, hp⟩, hb⟩
  replace HB : Hid (Below w.heap.size w we) := HB.out.trans (hb.mono HB.out.size)
  clear HX
  replace P0 := Lib.hid (P0.out.below hb)
  replace P2 := Lib.hid (P2.out.below hb)
  have P3 := Lib.hid hp
  clear hb
  clear hp
  go_wp2_with fail
  refine (meqSS_same a3 a0 m k3 k0 (fun _ => N) L _ P3.out.at_ P0.out.at_ (by omega) HLN.out).mono ?_
  rintro e wf ⟨rfl, hb⟩
  replace HB : Hid (Below w.heap.size w wf) := HB.out.trans (hb.mono HB.out.size)
  clear P3
  replace P0 := Lib.hid (P0.out.below hb)
  replace P2 := Lib.hid (P2.out.below hb)
  clear hb
  go_wp2_with fail
  refine (heldSs_any _ _ m a1 k1 _ _ P2.out (by omega) HTOT.out).mono ?_
  rintro e wg ⟨rfl, hw⟩
  subst wg
  rw [← HQ.out]
  go_wp2_with fail
  go_ret
  exact ⟨rfl, HB.out⟩
end Go.Proofs.Ytbkpedcabbppbaa
