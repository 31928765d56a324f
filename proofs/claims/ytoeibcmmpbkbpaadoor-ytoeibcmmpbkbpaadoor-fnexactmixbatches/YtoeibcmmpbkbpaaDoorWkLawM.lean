/-
  The law FnExactMixBatches.
-/
import Derived.Test.YtoeibcmmpbkbpaaDoorWkPa
import Derived.Test.YtoeibcmmpbkbpaaDoorWkMw
import Derived.Test.YtoeibcmmpbkbpaaDoorWkBs
namespace Go.Proofs.YtoeibcmmpbkbpaaDoor
open Go.RowKit Go.Deep

set_option maxRecDepth 100000 in
set_option maxHeartbeats 8000000 in
theorem mix_law (w : World) (a : Option Addr) (m k : Nat) (bs : Nat → Be) (h1 : BtsIn a m bs w) (hm1 : m ≤ 9223372036854775807) (hg : Et w ∧ TabOk w) :
    Calls Tryd.prog 7 #[.slice a m k] w fun e w' => e = .returned (.bool true) ∧ Below w.heap.size w w' := by
  have H1 := Lib.hid h1
  have HET := Lib.hid hg
  have HM1 := Lib.hid hm1
  obtain ⟨A, hA⟩ : ∃ A, A = Wk.mix m (fun i => (bs i).b) := ⟨_, rfl⟩
  have hAn : A.x.n ≤ 6 ∧ A.y.n ≤ 6 := by rw [hA]; exact Wk.mix_n m _
  have SPEC : ∀ g0 gs W lo hi, BxM lo hi g0 m gs bs W → m ≤ 1048576 → (∀ i, i < m → (bs i).n ≤ 1048576) → Calls Tryd.prog 35 #[.slice (some ⟨g0, 0, none⟩) m m] W fun e w' => PaEnd W.heap.size A e w' ∧ Below W.heap.size W w' := fun g0 gs W lo hi h hm hn => by rw [hA]; exact sMix_any _ m m (ownE gs bs) W h.at_ (by omega) (fun i hi => by have h2 := hn i hi; show (bs i).n ≤ _; omega)
  have IMPL : ∀ g0 gs W lo hi, BxM lo hi g0 m gs bs W → m ≤ 1048576 → (∀ i, i < m → (bs i).n ≤ 1048576) → Et W ∧ TabOk W → Calls Tryd.prog 26 #[.slice (some ⟨g0, 0, none⟩) m m] W fun e w' => PaEnd W.heap.size A e w' ∧ Below W.heap.size W w' := fun g0 gs W lo hi h hm hn he => by rw [hA]; exact implMix_any _ m m (ownE gs bs) W h.at_ (by omega) (fun i hi => by have h2 := hn i hi; show (bs i).n ≤ _; omega) he
  have HSP := Lib.hid SPEC
  have HIM := Lib.hid IMPL
  have hAX : Hid (A.x.n ≤ 1048576) := by show A.x.n ≤ _; omega
  have hAY : Hid (A.y.n ≤ 1048576) := by show A.y.n ≤ _; omega
  clear h1 hm1 hg hA SPEC IMPL hAn
  have HB : Hid (Below w.heap.size w w) := Below.refl _ _
  go_enter Tryd.func7, Tryd.ntmps7
  go_wp2_with fail
  refine (szBatchS_any a m k bs _ H1.out HM1.out).mono ?_
  rintro e w1 ⟨⟨z, rfl, hz⟩, hb⟩
  replace HB : Hid (Below w.heap.size w w1) := HB.out.trans (hb.mono HB.out.size)
  clear hb
  rcases hz with hz | ⟨hz, hsum⟩
  · go_wp2_with fail
    go_ret
    exact ⟨rfl, HB.out⟩
  have HSM := Lib.hid hsum
  have NM : Hid (m ≤ 1048576) := by show m ≤ _; omega
  have NN : Hid (∀ i, i < m → (bs i).n ≤ 1048576) := fun i hi => by have := cntB_at bs hi; omega
  clear hsum
  go_wp2_with fail
  refine (toBatchS_any a m k bs _ (H1.out.below HB.out) NM.out NN.out).mono ?_
  rintro e w2 ⟨⟨gss, rfl, hk⟩, hb⟩
  replace HB : Hid (Below w.heap.size w w2) := HB.out.trans (hb.mono HB.out.size)
  have HKs := Lib.hid hk
  clear hb hk
  go_wp2_with fail
  refine (HSP.out _ _ _ _ _ HKs.out NM.out NN.out).mono ?_
  rintro e w3 ⟨⟨ax6, kx6, ay6, ky6, rfl, h6⟩, hb⟩
  replace HB : Hid (Below w.heap.size w w3) := HB.out.trans (hb.mono HB.out.size)
  have hsz := hb.size
  obtain ⟨W6, hW6⟩ : ∃ W6, W6 = w3.alloc (paO A ax6 kx6 ay6 ky6) := ⟨_, rfl⟩
  have hb' : Below w3.heap.size w3 W6 := by rw [hW6]; exact bel_alloc _ _
  have M6 := Lib.hid (paM_of h6 hsz)
  rw [← hW6] at M6
  replace HB : Hid (Below w.heap.size w W6) := HB.out.trans (hb'.mono HB.out.size)
  have HW6 := Lib.hid hW6
  clear hb hb' hW6 h6
  have HL6 : Hid (w3.heap.size + 1 ≤ W6.heap.size) := by have := M6.out.row.lt; show _ ≤ _; omega
  have HBS : Hid (w.heap.size ≤ W6.heap.size) := HB.out.size
  clear HKs hsz
  go_wp2_with fail
  rw [← HW6.out]
  clear HW6
  refine (toBatchS_any a m k bs _ (H1.out.below HB.out) NM.out NN.out).mono ?_
  rintro e w4 ⟨⟨gs7, rfl, hk⟩, hb⟩
  replace HB : Hid (Below w.heap.size w w4) := HB.out.trans (hb.mono HB.out.size)
  replace M6 := Lib.hid (M6.out.below hb)
  have HK7 := Lib.hid hk
  clear hb hk
  have HL4 : Hid (W6.heap.size + 1 ≤ w4.heap.size) := by have := HK7.out.lt; show _ ≤ _; omega
  have HLO : Hid (w3.heap.size + 1 ≤ W6.heap.size) := HL6
  go_wp2_with fail
  refine (HIM.out _ _ _ _ _ HK7.out NM.out NN.out ⟨HET.out.1.below HB.out, tab_below HET.out.2 HB.out⟩).mono ?_
  rintro e w5 ⟨⟨ax8, kx8, ay8, ky8, rfl, h8⟩, hb⟩
  replace HB : Hid (Below w.heap.size w w5) := HB.out.trans (hb.mono HB.out.size)
  replace M6 := Lib.hid (M6.out.below hb)
  replace HK7 := Lib.hid (HK7.out.below hb)
  have hsz := hb.size
  obtain ⟨b0, b1, b2, b3, b4⟩ := row5_cells M6.out.row
  have lw3 : w3.heap.size < w5.heap.size := M6.out.row.lt
  obtain ⟨W8, hW8⟩ : ∃ W8, W8 = w5.alloc (paO A ax8 kx8 ay8 ky8) := ⟨_, rfl⟩
  have hb' : Below w5.heap.size w5 W8 := by rw [hW8]; exact bel_alloc _ _
  have M8 := Lib.hid (paM_of h8 hsz)
  rw [← hW8] at M8
  replace HB : Hid (Below w.heap.size w W8) := HB.out.trans (hb'.mono HB.out.size)
  replace M6 := Lib.hid (M6.out.below hb')
  replace HK7 := Lib.hid (HK7.out.below hb')
  have HW8 := Lib.hid hW8
  clear hb hb' hW8 h8
  clear hsz
  go_wp2_with fail
  rw [← HW8.out]
  clear b0 b1 b2 b3 b4 lw3 HW8
  refine (eqPair_same A ax8 ay8 ax6 ay6 kx8 ky8 kx6 ky6 _ M8.out.two.px.at_ M8.out.two.py.at_ M6.out.two.px.at_ M6.out.two.py.at_ hAX.out hAY.out).mono ?_
  rintro e w9 ⟨rfl, hb⟩
  replace HB : Hid (Below w.heap.size w w9) := HB.out.trans (hb.mono HB.out.size)
  replace M6 := Lib.hid (M6.out.below hb)
  replace HK7 := Lib.hid (HK7.out.below hb)
  replace M8 := Lib.hid (M8.out.below hb)
  clear hb
  go_wp2_with fail
  refine (toBatchS_any a m k bs _ (H1.out.below HB.out) NM.out NN.out).mono ?_
  rintro e wa ⟨⟨gs9, rfl, hk⟩, hb⟩
  replace HB : Hid (Below w.heap.size w wa) := HB.out.trans (hb.mono HB.out.size)
  replace M6 := Lib.hid (M6.out.below hb)
  replace HK7 := Lib.hid (HK7.out.below hb)
  replace M8 := Lib.hid (M8.out.below hb)
  have HK9 := Lib.hid hk
  clear hb hk
  go_wp2_with fail
  obtain ⟨bq7, eq7, hc7⟩ : ∃ bq, (some ⟨W6.heap.size, 0, none⟩ : Option Addr) = some ⟨bq, 0, none⟩ ∧ ∀ i, i < m → BeCells bq (i * 2) (ownE gs7 bs i) wa ∧ IntsAt (ownE gs7 bs i).pa (ownE gs7 bs i).n (ownE gs7 bs i).f wa := by
    rcases HK7.out.at_ with h0 | h0
    · exact ⟨_, rfl, fun i hi => by omega⟩
    · exact h0
  obtain ⟨bq9, eq9, hc9⟩ : ∃ bq, (some ⟨w9.heap.size, 0, none⟩ : Option Addr) = some ⟨bq, 0, none⟩ ∧ ∀ i, i < m → BeCells bq (i * 2) (ownE gs9 bs i) wa ∧ IntsAt (ownE gs9 bs i).pa (ownE gs9 bs i).n (ownE gs9 bs i).f wa := by
    rcases HK9.out.at_ with h0 | h0
    · exact ⟨_, rfl, fun i hi => by omega⟩
    · exact h0
  obtain rfl : W6.heap.size = bq7 := by simpa using eq7
  obtain rfl : w9.heap.size = bq9 := by simpa using eq9
  refine (eqBatchS_same W6.heap.size w9.heap.size m m m (ownE gs7 bs) (ownE gs9 bs) _ hc7 hc9 (fun i _ => rfl) NM.out NN.out).mono ?_
  rintro e wb ⟨rfl, hb⟩
  replace HB : Hid (Below w.heap.size w wb) := HB.out.trans (hb.mono HB.out.size)
  replace M6 := Lib.hid (M6.out.below hb)
  replace HK7 := Lib.hid (HK7.out.below hb)
  replace M8 := Lib.hid (M8.out.below hb)
  clear hb hc7 hc9 eq7 eq9 HK9
  go_wp2_with fail
  refine (markBatchS_any _ _ _ m m gs7 bs _ HK7.out.toR HK7.out.up HSM.out).mono ?_
  rintro e wm ⟨rfl, ho⟩
  have hlo := HLO.out
  have h6b := M6.out.bd
  have h8b := M8.out.bd
  replace M6 := Lib.hid (M6.out.same (fun g h1 h2 hl => ho.block g hl (fun h => by omega)))
  replace M8 := Lib.hid (M8.out.same (fun g h1 h2 hl => ho.block g hl (fun h => by omega)))
  replace HB : Hid (Below w.heap.size w wm) := HB.out.trans (ho.below (fun g h => by have := HBS.out; omega) HB.out.size)
  clear ho hlo h6b h8b HK7
  have hkz : ¬ ((1 + m + cntB bs m : Nat) : Int) < 0 := by omega
  obtain ⟨b0, b1, b2, b3, b4⟩ := row5_cells M6.out.row
  obtain ⟨d0, d1, d2, d3, d4⟩ := row5_cells M8.out.row
  go_wp2_with fail
  refine (eqPair_same A ax8 ay8 ax6 ay6 kx8 ky8 kx6 ky6 _ M8.out.two.px.at_ M8.out.two.py.at_ M6.out.two.px.at_ M6.out.two.py.at_ hAX.out hAY.out).mono ?_
  rintro e wo ⟨rfl, hb⟩
  replace HB : Hid (Below w.heap.size w wo) := HB.out.trans (hb.mono HB.out.size)
  replace M6 := Lib.hid (M6.out.below hb)
  replace M8 := Lib.hid (M8.out.below hb)
  clear hb hkz b0 b1 b2 b3 b4 d0 d1 d2 d3 d4
  obtain ⟨d0, d1, d2, d3, d4⟩ := row5_cells M8.out.row
  go_wp2_with fail
  refine (markPair_any _ _ A ax8 ay8 kx8 ky8 _ M8.out.two hAX.out hAY.out).mono ?_
  rintro e wp ⟨rfl, ⟨hm1, hm2⟩, ho⟩
  have hlo := HLO.out
  have hl4 := HL4.out
  have hbs := HBS.out
  have hat : ∀ g, (atP ax8 g ∨ atP ay8 g) → w4.heap.size ≤ g := fun g hg => by
    rcases hg with hg | hg
    · exact (M8.out.two.px.atp hg).1
    · exact (M8.out.two.py.atp hg).1
  replace M6 := Lib.hid (M6.out.same (fun g h1 h2 hl => ho.block g hl (fun h => by have := hat g h; omega)))
  have R8 := Lib.hid (M8.out.row.of_block (ho.block _ M8.out.row.lt (fun h => M8.out.far _ h rfl)))
  replace HB : Hid (Below w.heap.size w wp) := HB.out.trans (ho.below (fun g h => by have := hat g h; omega) HB.out.size)
  have K1 := Lib.hid hm1
  have K2 := Lib.hid hm2
  clear ho hat hlo hl4 hbs hm1 hm2 M8 d0 d1 d2 d3 d4
  obtain ⟨d0, d1, d2, d3, d4⟩ := row5_cells R8.out
  have hqz : ¬ ((1 + A.x.n + A.y.n : Nat) : Int) < 0 := by omega
  go_wp2_with fail
  refine (heldPair_any A ax8 ay8 kx8 ky8 _ K1.out K2.out hAX.out hAY.out).mono ?_
  rintro e wq ⟨rfl, hb⟩
  replace HB : Hid (Below w.heap.size w wq) := HB.out.trans (hb.mono HB.out.size)
  replace M6 := Lib.hid (M6.out.below hb)
  replace R8 := Lib.hid (wrow_below R8.out hb)
  replace K1 := Lib.hid (K1.out.same (fun g _ hl => hb.block g hl))
  replace K2 := Lib.hid (K2.out.same (fun g _ hl => hb.block g hl))
  clear hb d0 d1 d2 d3 d4
  go_wp2_with fail
  refine (toBatchS_any a m k bs _ (H1.out.below HB.out) NM.out NN.out).mono ?_
  rintro e wr ⟨⟨gsr, rfl, hk⟩, hb⟩
  replace HB : Hid (Below w.heap.size w wr) := HB.out.trans (hb.mono HB.out.size)
  replace M6 := Lib.hid (M6.out.below hb)
  replace R8 := Lib.hid (wrow_below R8.out hb)
  replace K1 := Lib.hid (K1.out.same (fun g _ hl => hb.block g hl))
  replace K2 := Lib.hid (K2.out.same (fun g _ hl => hb.block g hl))
  have HKr := Lib.hid hk
  clear hb hk
  go_wp2_with fail
  refine (HIM.out _ _ _ _ _ HKr.out NM.out NN.out ⟨HET.out.1.below HB.out, tab_below HET.out.2 HB.out⟩).mono ?_
  rintro e wu ⟨⟨axc, kxc, ayc, kyc, rfl, hc⟩, hb⟩
  replace HB : Hid (Below w.heap.size w wu) := HB.out.trans (hb.mono HB.out.size)
  replace M6 := Lib.hid (M6.out.below hb)
  replace R8 := Lib.hid (wrow_below R8.out hb)
  replace K1 := Lib.hid (K1.out.same (fun g _ hl => hb.block g hl))
  replace K2 := Lib.hid (K2.out.same (fun g _ hl => hb.block g hl))
  have hsz := hb.size
  obtain ⟨b0, b1, b2, b3, b4⟩ := row5_cells M6.out.row
  have lw3 : w3.heap.size < wu.heap.size := M6.out.row.lt
  obtain ⟨Wc, hWc⟩ : ∃ Wc, Wc = wu.alloc (paO A axc kxc ayc kyc) := ⟨_, rfl⟩
  clear hb
  have hb : Below wu.heap.size wu Wc := by rw [hWc]; exact bel_alloc _ _
  have Mc := Lib.hid (paM_of hc hsz)
  rw [← hWc] at Mc
  replace HB : Hid (Below w.heap.size w Wc) := HB.out.trans (hb.mono HB.out.size)
  replace M6 := Lib.hid (M6.out.below hb)
  replace R8 := Lib.hid (wrow_below R8.out hb)
  replace K1 := Lib.hid (K1.out.same (fun g _ hl => hb.block g hl))
  replace K2 := Lib.hid (K2.out.same (fun g _ hl => hb.block g hl))
  have HWc := Lib.hid hWc
  clear hb hWc hc hsz HKr
  go_wp2_with fail
  rw [← HWc.out]
  clear b0 b1 b2 b3 b4 lw3 HWc
  refine (eqPair_same A axc ayc ax6 ay6 kxc kyc kx6 ky6 _ Mc.out.two.px.at_ Mc.out.two.py.at_ M6.out.two.px.at_ M6.out.two.py.at_ hAX.out hAY.out).mono ?_
  rintro e wv ⟨rfl, hb⟩
  replace HB : Hid (Below w.heap.size w wv) := HB.out.trans (hb.mono HB.out.size)
  replace M6 := Lib.hid (M6.out.below hb)
  replace R8 := Lib.hid (wrow_below R8.out hb)
  replace K1 := Lib.hid (K1.out.same (fun g _ hl => hb.block g hl))
  replace K2 := Lib.hid (K2.out.same (fun g _ hl => hb.block g hl))
  clear hb Mc
  obtain ⟨d0, d1, d2, d3, d4⟩ := row5_cells R8.out
  go_wp2_with fail
  refine (heldPair_any A ax8 ay8 kx8 ky8 _ K1.out K2.out hAX.out hAY.out).mono ?_
  rintro e wx ⟨rfl, hb⟩
  replace HB : Hid (Below w.heap.size w wx) := HB.out.trans (hb.mono HB.out.size)
  replace M6 := Lib.hid (M6.out.below hb)
  replace R8 := Lib.hid (wrow_below R8.out hb)
  clear hb d0 d1 d2 d3 d4
  go_wp2_with fail
  go_ret
  exact ⟨rfl, HB.out⟩
end Go.Proofs.YtoeibcmmpbkbpaaDoor
