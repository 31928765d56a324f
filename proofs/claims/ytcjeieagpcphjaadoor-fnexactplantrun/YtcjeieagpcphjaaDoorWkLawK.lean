/-
  The law FnExactPlantRun.
-/
import Derived.Test.YtcjeieagpcphjaaDoorWkPk
import Derived.Test.YtcjeieagpcphjaaDoorWkPj
import Derived.Test.YtcjeieagpcphjaaDoorWkIn3
namespace Go.Proofs.YtcjeieagpcphjaaDoor
open Go.RowKit Go.Deep

set_option maxRecDepth 100000 in
set_option maxHeartbeats 16000000 in
theorem plant_law (w : World) (fl : Wk.Fl) (ma : Option Addr) (m mk : Nat) (mi : Nat → Int) (hmi : IntsIn ma m mi w) (_hmm : m ≤ 9223372036854775807) (a : Option Addr) (n cap : Nat) (bs : Nat → Be) (h1 : BtsIn a n bs w) (hm1 : n ≤ 9223372036854775807) (hg : Et w ∧ TabOk w) :
    Calls Tryd.prog 3 #[flV fl, .slice ma m mk, .slice a n cap] w fun e w' => e = .returned (.bool true) ∧ Below w.heap.size w w' := by
  have H1 := Lib.hid h1
  have HMI := Lib.hid hmi
  have HET := Lib.hid hg
  have HM1 := Lib.hid hm1
  obtain ⟨W, hW⟩ : ∃ W, W = w.alloc (.cells #[.int .i64 fl.held, .int .i64 fl.most, .int .i64 fl.catch_, .int .i64 fl.wash] 23) := ⟨_, rfl⟩
  have HB : Hid (Below w.heap.size w W) := by show Below _ _ _; rw [hW]; exact (Below.refl _ _).alloc (Nat.le_refl _) _
  have HR : Hid (W.rowIs w.heap.size 23 4 (rowL (flL fl))) := by show World.rowIs _ _ _ _ _; rw [hW]; exact rowL_alloc w (flL fl) _
  have HW := Lib.hid hW
  obtain ⟨A, hA⟩ : ∃ A, A = Wk.plant m mi (fun i => (bs i).b) fl n := ⟨_, rfl⟩
  have hAn : A.clean.n ≤ 6 ∧ A.waste.n ≤ 6 := by rw [hA]; exact Wk.plant_n m mi _ fl n
  have SPEC : ∀ gi g0 gs W lo hi, InBlk gi m mi W → BxM lo hi g0 n gs bs W → m ≤ 1048576 → n ≤ 1048576 → (∀ i, i < n → (bs i).n ≤ 1048576) → Calls Tryd.prog 6 #[flV fl, .slice (some ⟨gi, 0, none⟩) m m, .slice (some ⟨g0, 0, none⟩) n n] W fun e w' => PoEnd W.heap.size A e w' ∧ Below W.heap.size W w' := fun gi g0 gs W lo hi hi2 h hm hn hb => by rw [hA]; exact specPlant_any fl _ m m mi _ n n (ownE gs bs) W h.at_ (by omega) (fun i hi => by have h2 := hb i hi; show (bs i).n ≤ _; omega) hi2.at_ (by omega)
  have IMPL : ∀ gi g0 gs W lo hi, InBlk gi m mi W → BxM lo hi g0 n gs bs W → m ≤ 1048576 → n ≤ 1048576 → (∀ i, i < n → (bs i).n ≤ 1048576) → Et W ∧ TabOk W → Calls Tryd.prog 10 #[flV fl, .slice (some ⟨gi, 0, none⟩) m m, .slice (some ⟨g0, 0, none⟩) n n] W fun e w' => PoEnd W.heap.size A e w' ∧ Below W.heap.size W w' := fun gi g0 gs W lo hi hi2 h hm hn hb he => by rw [hA]; exact implPlant_any fl _ m m mi _ n n (ownE gs bs) W h.at_ (by omega) (fun i hi => by have h2 := hb i hi; show (bs i).n ≤ _; omega) hi2.at_ (by omega) he
  have HSP := Lib.hid SPEC
  have HIM := Lib.hid IMPL
  have hAX : Hid (A.clean.n ≤ 1048576) := by show A.clean.n ≤ _; omega
  have hAY : Hid (A.waste.n ≤ 1048576) := by show A.waste.n ≤ _; omega
  clear hW h1 hm1 hg hA SPEC IMPL hAn hmi
  by_cases bm : 1048576 < m
  · have hzm : (1048576 : Int) < (m : Int) := by omega
    go_enter Tryd.func3, Tryd.ntmps3
    go_wp2_with fail
    go_ret
    have hB := HB.out
    rw [HW.out] at hB
    exact ⟨rfl, hB⟩
  have hzm : ¬ (1048576 : Int) < (m : Int) := by omega
  have NQ : Hid (m ≤ 1048576) := by show m ≤ _; omega
  clear bm
  go_enter Tryd.func3, Tryd.ntmps3
  go_wp2_with fail
  rw [← HW.out]
  clear HW hzm
  refine (szBatchS_any a n cap bs _ (H1.out.below HB.out) HM1.out).mono ?_
  rintro e w1 ⟨⟨z, rfl, hz⟩, hb⟩
  replace HB : Hid (Below w.heap.size w w1) := HB.out.trans (hb.mono HB.out.size)
  replace HR := Lib.hid (wrow_below HR.out hb)
  clear hb
  rcases hz with hz | ⟨hz, hsum⟩
  · go_wp2_with fail
    go_ret
    exact ⟨rfl, HB.out⟩
  have HSM := Lib.hid hsum
  have NM : Hid (n ≤ 1048576) := by show n ≤ _; omega
  have NN : Hid (∀ i, i < n → (bs i).n ≤ 1048576) := fun i hi => by have := cntB_at bs hi; omega
  clear hsum
  obtain ⟨f0, f1, f2, f3⟩ := row4_cells HR.out
  go_wp2_with fail
  clear f0 f1 f2 f3
  refine (toFilter_any fl _).mono ?_
  rintro e w2 ⟨rfl, hb⟩
  replace HB : Hid (Below w.heap.size w w2) := HB.out.trans (hb.mono HB.out.size)
  replace HR := Lib.hid (wrow_below HR.out hb)
  clear hb
  go_wp2_with fail
  refine (toInt64S_any ma m mk mi _ (HMI.out.below HB.out) NQ.out).mono ?_
  rintro e w3 ⟨⟨rfl, hk⟩, hb⟩
  replace HB : Hid (Below w.heap.size w w3) := HB.out.trans (hb.mono HB.out.size)
  replace HR := Lib.hid (wrow_below HR.out hb)
  have HIs := Lib.hid hk
  clear hb hk
  go_wp2_with fail
  refine (toBatchS_any a n cap bs _ (H1.out.below HB.out) NM.out NN.out).mono ?_
  rintro e w4 ⟨⟨gss, rfl, hk⟩, hb⟩
  replace HB : Hid (Below w.heap.size w w4) := HB.out.trans (hb.mono HB.out.size)
  replace HR := Lib.hid (wrow_below HR.out hb)
  replace HIs := Lib.hid (HIs.out.below hb)
  have HKs := Lib.hid hk
  clear hb hk
  go_wp2_with fail
  refine (HSP.out _ _ _ _ _ _ HIs.out HKs.out NQ.out NM.out NN.out).mono ?_
  rintro e w5 ⟨⟨ax8, kx8, ay8, ky8, rfl, h8⟩, hb⟩
  replace HB : Hid (Below w.heap.size w w5) := HB.out.trans (hb.mono HB.out.size)
  replace HR := Lib.hid (wrow_below HR.out hb)
  replace HIs := Lib.hid (HIs.out.below hb)
  replace HKs := Lib.hid (HKs.out.below hb)
  have hsz := hb.size
  obtain ⟨W8, hW8⟩ : ∃ W8, W8 = w5.alloc (ppO A ax8 kx8 ay8 ky8) := ⟨_, rfl⟩
  have hb' : Below w5.heap.size w5 W8 := by rw [hW8]; exact bel_alloc _ _
  have M8 := Lib.hid (poM_of h8 hsz)
  rw [← hW8] at M8
  replace HB : Hid (Below w.heap.size w W8) := HB.out.trans (hb'.mono HB.out.size)
  replace HR := Lib.hid (wrow_below HR.out hb')
  replace HIs := Lib.hid (HIs.out.below hb')
  replace HKs := Lib.hid (HKs.out.below hb')
  have HW8 := Lib.hid hW8
  clear hb hb' hW8 h8 hsz
  clear HIs HKs
  have L1 : Hid (w5.heap.size + 1 ≤ W8.heap.size ∧ w.heap.size < W8.heap.size) := ⟨by have := M8.out.row.lt; omega, HR.out.lt⟩
  go_wp2_with fail
  rw [← HW8.out]
  clear HW8
  refine (toInt64S_any ma m mk mi _ (HMI.out.below HB.out) NQ.out).mono ?_
  rintro e w9 ⟨⟨rfl, hk⟩, hb⟩
  replace HB : Hid (Below w.heap.size w w9) := HB.out.trans (hb.mono HB.out.size)
  replace HR := Lib.hid (wrow_below HR.out hb)
  replace M8 := Lib.hid (M8.out.below hb)
  have HI9 := Lib.hid hk
  have L2 : Hid (W8.heap.size < w9.heap.size) := hk.lt
  clear hb hk
  go_wp2_with fail
  refine (toBatchS_any a n cap bs _ (H1.out.below HB.out) NM.out NN.out).mono ?_
  rintro e w10 ⟨⟨gst, rfl, hk⟩, hb⟩
  replace HB : Hid (Below w.heap.size w w10) := HB.out.trans (hb.mono HB.out.size)
  replace HR := Lib.hid (wrow_below HR.out hb)
  replace M8 := Lib.hid (M8.out.below hb)
  replace HI9 := Lib.hid (HI9.out.below hb)
  have HKt := Lib.hid hk
  clear hb hk
  have L3 : Hid (w9.heap.size < w10.heap.size) := HKt.out.lt
  obtain ⟨f0, f1, f2, f3⟩ := row4_cells HR.out
  go_wp2_with fail
  clear f0 f1 f2 f3
  refine (toFilter_any fl _).mono ?_
  rintro e w11 ⟨rfl, hb⟩
  have L4 : Hid (w10.heap.size ≤ w11.heap.size) := hb.size
  replace HB : Hid (Below w.heap.size w w11) := HB.out.trans (hb.mono HB.out.size)
  replace HR := Lib.hid (wrow_below HR.out hb)
  replace M8 := Lib.hid (M8.out.below hb)
  replace HI9 := Lib.hid (HI9.out.below hb)
  replace HKt := Lib.hid (HKt.out.below hb)
  clear hb
  go_wp2_with fail
  refine (HIM.out _ _ _ _ _ _ HI9.out HKt.out NQ.out NM.out NN.out ⟨HET.out.1.below HB.out, tab_below HET.out.2 HB.out⟩).mono ?_
  rintro e w12 ⟨⟨axq, kxq, ayq, kyq, rfl, hq⟩, hb⟩
  replace HB : Hid (Below w.heap.size w w12) := HB.out.trans (hb.mono HB.out.size)
  replace HR := Lib.hid (wrow_below HR.out hb)
  replace M8 := Lib.hid (M8.out.below hb)
  replace HI9 := Lib.hid (HI9.out.below hb)
  replace HKt := Lib.hid (HKt.out.below hb)
  have hsz := hb.size
  obtain ⟨⟨b0, b1, b2, b3, b4⟩, b5, b6, b7, b8, b9⟩ := row10_cells M8.out.row
  have lw3 : w5.heap.size < w12.heap.size := M8.out.row.lt
  obtain ⟨Wq, hWq⟩ : ∃ Wq, Wq = w12.alloc (ppO A axq kxq ayq kyq) := ⟨_, rfl⟩
  have hb' : Below w12.heap.size w12 Wq := by rw [hWq]; exact bel_alloc _ _
  have Mq := Lib.hid (poM_of hq hsz)
  rw [← hWq] at Mq
  replace HB : Hid (Below w.heap.size w Wq) := HB.out.trans (hb'.mono HB.out.size)
  replace HR := Lib.hid (wrow_below HR.out hb')
  replace M8 := Lib.hid (M8.out.below hb')
  replace HI9 := Lib.hid (HI9.out.below hb')
  replace HKt := Lib.hid (HKt.out.below hb')
  have HWq := Lib.hid hWq
  clear hb hb' hWq hq hsz
  go_wp2_with fail
  rw [← HWq.out]
  clear b0 b1 b2 b3 b4 b5 b6 b7 b8 b9 lw3 HWq
  refine (eqPo_same A axq ayq ax8 ay8 kxq kyq kx8 ky8 _ Mq.out.two.px.at_ Mq.out.two.py.at_ M8.out.two.px.at_ M8.out.two.py.at_ hAX.out hAY.out).mono ?_
  rintro e w13 ⟨rfl, hb⟩
  replace HB : Hid (Below w.heap.size w w13) := HB.out.trans (hb.mono HB.out.size)
  replace HR := Lib.hid (wrow_below HR.out hb)
  replace M8 := Lib.hid (M8.out.below hb)
  replace HI9 := Lib.hid (HI9.out.below hb)
  replace HKt := Lib.hid (HKt.out.below hb)
  replace Mq := Lib.hid (Mq.out.below hb)
  clear hb
  go_wp2_with fail
  refine (toInt64S_any ma m mk mi _ (HMI.out.below HB.out) NQ.out).mono ?_
  rintro e w14 ⟨⟨rfl, hk⟩, hb⟩
  replace HB : Hid (Below w.heap.size w w14) := HB.out.trans (hb.mono HB.out.size)
  replace HR := Lib.hid (wrow_below HR.out hb)
  replace M8 := Lib.hid (M8.out.below hb)
  replace HI9 := Lib.hid (HI9.out.below hb)
  replace HKt := Lib.hid (HKt.out.below hb)
  replace Mq := Lib.hid (Mq.out.below hb)
  have HIu := Lib.hid hk
  clear hb hk
  go_wp2_with fail
  refine (eqInt64S_same _ _ m m m mi _ HI9.out.at_ HIu.out.at_ NQ.out).mono ?_
  rintro e w15 ⟨rfl, hb⟩
  replace HB : Hid (Below w.heap.size w w15) := HB.out.trans (hb.mono HB.out.size)
  replace HR := Lib.hid (wrow_below HR.out hb)
  replace M8 := Lib.hid (M8.out.below hb)
  replace HI9 := Lib.hid (HI9.out.below hb)
  replace HKt := Lib.hid (HKt.out.below hb)
  replace Mq := Lib.hid (Mq.out.below hb)
  replace HIu := Lib.hid (HIu.out.below hb)
  clear hb
  clear HIu
  go_wp2_with fail
  refine (toBatchS_any a n cap bs _ (H1.out.below HB.out) NM.out NN.out).mono ?_
  rintro e w16 ⟨⟨gsv, rfl, hk⟩, hb⟩
  replace HB : Hid (Below w.heap.size w w16) := HB.out.trans (hb.mono HB.out.size)
  replace HR := Lib.hid (wrow_below HR.out hb)
  replace M8 := Lib.hid (M8.out.below hb)
  replace HI9 := Lib.hid (HI9.out.below hb)
  replace HKt := Lib.hid (HKt.out.below hb)
  replace Mq := Lib.hid (Mq.out.below hb)
  have HKv := Lib.hid hk
  clear hb hk
  go_wp2_with fail
  obtain ⟨bq7, eq7, hc7⟩ : ∃ bq, (some ⟨w9.heap.size, 0, none⟩ : Option Addr) = some ⟨bq, 0, none⟩ ∧ ∀ i, i < n → BeCells bq (i * 2) (ownE gst bs i) w16 ∧ IntsAt (ownE gst bs i).pa (ownE gst bs i).n (ownE gst bs i).f w16 := by
    rcases HKt.out.at_ with h0 | h0
    · exact ⟨_, rfl, fun i hi => by omega⟩
    · exact h0
  obtain ⟨bq9, eq9, hc9⟩ : ∃ bq, (some ⟨w15.heap.size, 0, none⟩ : Option Addr) = some ⟨bq, 0, none⟩ ∧ ∀ i, i < n → BeCells bq (i * 2) (ownE gsv bs i) w16 ∧ IntsAt (ownE gsv bs i).pa (ownE gsv bs i).n (ownE gsv bs i).f w16 := by
    rcases HKv.out.at_ with h0 | h0
    · exact ⟨_, rfl, fun i hi => by omega⟩
    · exact h0
  obtain rfl : w9.heap.size = bq7 := by simpa using eq7
  obtain rfl : w15.heap.size = bq9 := by simpa using eq9
  refine (eqBatchS_same w9.heap.size w15.heap.size n n n (ownE gst bs) (ownE gsv bs) _ hc7 hc9 (fun i _ => rfl) NM.out NN.out).mono ?_
  rintro e w17 ⟨rfl, hb⟩
  replace HB : Hid (Below w.heap.size w w17) := HB.out.trans (hb.mono HB.out.size)
  replace HR := Lib.hid (wrow_below HR.out hb)
  replace M8 := Lib.hid (M8.out.below hb)
  replace HI9 := Lib.hid (HI9.out.below hb)
  replace HKt := Lib.hid (HKt.out.below hb)
  replace Mq := Lib.hid (Mq.out.below hb)
  replace HKv := Lib.hid (HKv.out.below hb)
  clear hb hc7 hc9 eq7 eq9
  clear HKv
  go_wp2_with fail
  refine (markInt64S_any _ m m 1 mi _ HI9.out NQ.out (by omega)).mono ?_
  rintro e w18 ⟨rfl, _, ho⟩
  have l1 := L1.out
  have l2 := L2.out
  have l3 := L3.out
  have l4 := L4.out
  have m8 := M8.out.bd
  have mb := Mq.out.bd
  replace M8 := Lib.hid (M8.out.same (fun g h1 h2 hl => ho.block g hl (by omega)))
  replace Mq := Lib.hid (Mq.out.same (fun g h1 h2 hl => ho.block g hl (by omega)))
  replace HKt := Lib.hid (HKt.out.same (fun g h1 h2 hl => ho.block g hl (by omega)))
  replace HR := Lib.hid (HR.out.of_block (ho.block _ HR.out.lt (by omega)))
  replace HB : Hid (Below w.heap.size w w18) := HB.out.trans (ho.below (by omega) HB.out.size)
  clear ho HI9
  go_wp2_with fail
  refine (markBatchS_from (1 + m) _ _ _ n n (by have := NQ.out; omega) gst bs _ HKt.out.toR HKt.out.up HSM.out).mono ?_
  rintro e w19 ⟨rfl, ho⟩
  replace M8 := Lib.hid (M8.out.same (fun g h1 h2 hl => ho.block g hl (fun h => by omega)))
  replace Mq := Lib.hid (Mq.out.same (fun g h1 h2 hl => ho.block g hl (fun h => by omega)))
  replace HR := Lib.hid (HR.out.of_block (ho.block _ HR.out.lt (fun h => by omega)))
  replace HB : Hid (Below w.heap.size w w19) := HB.out.trans (ho.below (fun g h => by omega) HB.out.size)
  clear ho HKt m8 mb
  have hkz : ¬ ((1 + m + n + cntB bs n : Nat) : Int) < 0 := by omega
  obtain ⟨⟨b0, b1, b2, b3, b4⟩, b5, b6, b7, b8, b9⟩ := row10_cells M8.out.row
  obtain ⟨⟨d0, d1, d2, d3, d4⟩, d5, d6, d7, d8, d9⟩ := row10_cells Mq.out.row
  go_wp2_with fail
  refine (eqPo_same A axq ayq ax8 ay8 kxq kyq kx8 ky8 _ Mq.out.two.px.at_ Mq.out.two.py.at_ M8.out.two.px.at_ M8.out.two.py.at_ hAX.out hAY.out).mono ?_
  rintro e w20 ⟨rfl, hb⟩
  replace HB : Hid (Below w.heap.size w w20) := HB.out.trans (hb.mono HB.out.size)
  replace HR := Lib.hid (wrow_below HR.out hb)
  replace M8 := Lib.hid (M8.out.below hb)
  replace Mq := Lib.hid (Mq.out.below hb)
  clear hb hkz b0 b1 b2 b3 b4 b5 b6 b7 b8 b9 d0 d1 d2 d3 d4 d5 d6 d7 d8 d9
  obtain ⟨⟨d0, d1, d2, d3, d4⟩, d5, d6, d7, d8, d9⟩ := row10_cells Mq.out.row
  go_wp2_with fail
  refine (markPo_any _ _ A axq ayq kxq kyq _ Mq.out.two hAX.out hAY.out).mono ?_
  rintro e w21 ⟨rfl, ⟨hm1, hm2⟩, ho⟩
  have hat : ∀ g, (atP axq g ∨ atP ayq g) → w11.heap.size ≤ g := fun g hg => by
    rcases hg with hg | hg
    · exact (Mq.out.two.px.atp hg).1
    · exact (Mq.out.two.py.atp hg).1
  replace M8 := Lib.hid (M8.out.same (fun g h1 h2 hl => ho.block g hl (fun h => by have := hat g h; omega)))
  have R8 := Lib.hid (Mq.out.row.of_block (ho.block _ Mq.out.row.lt (fun h => Mq.out.far _ h rfl)))
  replace HR := Lib.hid (HR.out.of_block (ho.block _ HR.out.lt (fun h => by have := hat _ h; omega)))
  replace HB : Hid (Below w.heap.size w w21) := HB.out.trans (ho.below (fun g h => by have := hat g h; omega) HB.out.size)
  have K1 := Lib.hid hm1
  have K2 := Lib.hid hm2
  clear ho hat l1 l2 l3 l4 hm1 hm2 Mq d0 d1 d2 d3 d4 d5 d6 d7 d8 d9
  obtain ⟨⟨d0, d1, d2, d3, d4⟩, d5, d6, d7, d8, d9⟩ := row10_cells R8.out
  have hqz : ¬ ((1 + A.clean.n + A.waste.n : Nat) : Int) < 0 := by omega
  go_wp2_with fail
  refine (heldPo_any A axq ayq kxq kyq _ K1.out K2.out hAX.out hAY.out).mono ?_
  rintro e w22 ⟨rfl, hb⟩
  replace HB : Hid (Below w.heap.size w w22) := HB.out.trans (hb.mono HB.out.size)
  replace HR := Lib.hid (wrow_below HR.out hb)
  replace M8 := Lib.hid (M8.out.below hb)
  replace R8 := Lib.hid (wrow_below R8.out hb)
  replace K1 := Lib.hid (K1.out.same (fun g _ hl => hb.block g hl))
  replace K2 := Lib.hid (K2.out.same (fun g _ hl => hb.block g hl))
  clear hb d0 d1 d2 d3 d4 d5 d6 d7 d8 d9
  obtain ⟨f0, f1, f2, f3⟩ := row4_cells HR.out
  go_wp2_with fail
  clear f0 f1 f2 f3
  refine (toFilter_any fl _).mono ?_
  rintro e w23 ⟨rfl, hb⟩
  replace HB : Hid (Below w.heap.size w w23) := HB.out.trans (hb.mono HB.out.size)
  replace HR := Lib.hid (wrow_below HR.out hb)
  replace M8 := Lib.hid (M8.out.below hb)
  replace R8 := Lib.hid (wrow_below R8.out hb)
  replace K1 := Lib.hid (K1.out.same (fun g _ hl => hb.block g hl))
  replace K2 := Lib.hid (K2.out.same (fun g _ hl => hb.block g hl))
  clear hb
  go_wp2_with fail
  refine (toInt64S_any ma m mk mi _ (HMI.out.below HB.out) NQ.out).mono ?_
  rintro e w24 ⟨⟨rfl, hk⟩, hb⟩
  replace HB : Hid (Below w.heap.size w w24) := HB.out.trans (hb.mono HB.out.size)
  replace HR := Lib.hid (wrow_below HR.out hb)
  replace M8 := Lib.hid (M8.out.below hb)
  replace R8 := Lib.hid (wrow_below R8.out hb)
  replace K1 := Lib.hid (K1.out.same (fun g _ hl => hb.block g hl))
  replace K2 := Lib.hid (K2.out.same (fun g _ hl => hb.block g hl))
  have HIx := Lib.hid hk
  clear hb hk
  go_wp2_with fail
  refine (toBatchS_any a n cap bs _ (H1.out.below HB.out) NM.out NN.out).mono ?_
  rintro e w25 ⟨⟨gsx, rfl, hk⟩, hb⟩
  replace HB : Hid (Below w.heap.size w w25) := HB.out.trans (hb.mono HB.out.size)
  replace HR := Lib.hid (wrow_below HR.out hb)
  replace M8 := Lib.hid (M8.out.below hb)
  replace R8 := Lib.hid (wrow_below R8.out hb)
  replace HIx := Lib.hid (HIx.out.below hb)
  replace K1 := Lib.hid (K1.out.same (fun g _ hl => hb.block g hl))
  replace K2 := Lib.hid (K2.out.same (fun g _ hl => hb.block g hl))
  have HKx := Lib.hid hk
  clear hb hk
  go_wp2_with fail
  refine (HIM.out _ _ _ _ _ _ HIx.out HKx.out NQ.out NM.out NN.out ⟨HET.out.1.below HB.out, tab_below HET.out.2 HB.out⟩).mono ?_
  rintro e w26 ⟨⟨axc, kxc, ayc, kyc, rfl, hc⟩, hb⟩
  replace HB : Hid (Below w.heap.size w w26) := HB.out.trans (hb.mono HB.out.size)
  replace HR := Lib.hid (wrow_below HR.out hb)
  replace M8 := Lib.hid (M8.out.below hb)
  replace R8 := Lib.hid (wrow_below R8.out hb)
  replace HIx := Lib.hid (HIx.out.below hb)
  replace HKx := Lib.hid (HKx.out.below hb)
  replace K1 := Lib.hid (K1.out.same (fun g _ hl => hb.block g hl))
  replace K2 := Lib.hid (K2.out.same (fun g _ hl => hb.block g hl))
  have hsz := hb.size
  obtain ⟨⟨b0, b1, b2, b3, b4⟩, b5, b6, b7, b8, b9⟩ := row10_cells M8.out.row
  have lw3 : w5.heap.size < w26.heap.size := M8.out.row.lt
  obtain ⟨Wc, hWc⟩ : ∃ Wc, Wc = w26.alloc (ppO A axc kxc ayc kyc) := ⟨_, rfl⟩
  have hb' : Below w26.heap.size w26 Wc := by rw [hWc]; exact bel_alloc _ _
  have Mc := Lib.hid (poM_of hc hsz)
  rw [← hWc] at Mc
  replace HB : Hid (Below w.heap.size w Wc) := HB.out.trans (hb'.mono HB.out.size)
  replace HR := Lib.hid (wrow_below HR.out hb')
  replace M8 := Lib.hid (M8.out.below hb')
  replace R8 := Lib.hid (wrow_below R8.out hb')
  replace HIx := Lib.hid (HIx.out.below hb')
  replace HKx := Lib.hid (HKx.out.below hb')
  replace K1 := Lib.hid (K1.out.same (fun g _ hl => hb'.block g hl))
  replace K2 := Lib.hid (K2.out.same (fun g _ hl => hb'.block g hl))
  have HWc := Lib.hid hWc
  clear hb hb' hWc hc hsz
  go_wp2_with fail
  rw [← HWc.out]
  clear b0 b1 b2 b3 b4 b5 b6 b7 b8 b9 lw3 HWc
  refine (eqPo_same A axc ayc ax8 ay8 kxc kyc kx8 ky8 _ Mc.out.two.px.at_ Mc.out.two.py.at_ M8.out.two.px.at_ M8.out.two.py.at_ hAX.out hAY.out).mono ?_
  rintro e w27 ⟨rfl, hb⟩
  replace HB : Hid (Below w.heap.size w w27) := HB.out.trans (hb.mono HB.out.size)
  replace HR := Lib.hid (wrow_below HR.out hb)
  replace M8 := Lib.hid (M8.out.below hb)
  replace R8 := Lib.hid (wrow_below R8.out hb)
  replace HIx := Lib.hid (HIx.out.below hb)
  replace HKx := Lib.hid (HKx.out.below hb)
  replace Mc := Lib.hid (Mc.out.below hb)
  replace K1 := Lib.hid (K1.out.same (fun g _ hl => hb.block g hl))
  replace K2 := Lib.hid (K2.out.same (fun g _ hl => hb.block g hl))
  clear hb
  obtain ⟨⟨d0, d1, d2, d3, d4⟩, d5, d6, d7, d8, d9⟩ := row10_cells R8.out
  go_wp2_with fail
  refine (heldPo_any A axq ayq kxq kyq _ K1.out K2.out hAX.out hAY.out).mono ?_
  rintro e w28 ⟨rfl, hb⟩
  replace HB : Hid (Below w.heap.size w w28) := HB.out.trans (hb.mono HB.out.size)
  replace HR := Lib.hid (wrow_below HR.out hb)
  replace M8 := Lib.hid (M8.out.below hb)
  replace R8 := Lib.hid (wrow_below R8.out hb)
  replace HIx := Lib.hid (HIx.out.below hb)
  replace HKx := Lib.hid (HKx.out.below hb)
  replace Mc := Lib.hid (Mc.out.below hb)
  replace K1 := Lib.hid (K1.out.same (fun g _ hl => hb.block g hl))
  replace K2 := Lib.hid (K2.out.same (fun g _ hl => hb.block g hl))
  clear hb d0 d1 d2 d3 d4 d5 d6 d7 d8 d9
  go_wp2_with fail
  go_ret
  exact ⟨rfl, HB.out⟩
end Go.Proofs.YtcjeieagpcphjaaDoor
