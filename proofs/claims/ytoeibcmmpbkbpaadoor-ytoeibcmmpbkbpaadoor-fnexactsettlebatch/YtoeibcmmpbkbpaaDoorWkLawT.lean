/-
  The law FnExactSettleBatch.
-/
import Derived.Test.YtoeibcmmpbkbpaaDoorWkLawR
import Derived.Test.YtoeibcmmpbkbpaaDoorWkPa
import Derived.Test.YtoeibcmmpbkbpaaDoorWkS2
namespace Go.Proofs.YtoeibcmmpbkbpaaDoor
open Go.RowKit Go.Deep

set_option maxRecDepth 100000 in
set_option maxHeartbeats 8000000 in
theorem settle_law (w : World) (wt : Int) (a : Option Addr) (n k : Nat) (f : Nat → Int) (h1 : IntsIn a n f w) (hm1 : n ≤ 9223372036854775807) (ma : Option Addr) (m mk : Nat) (mi : Nat → Int) (hmi : IntsIn ma m mi w) (_hmm : m ≤ 9223372036854775807) (hg : Et w) :
    Calls Tryd.prog 9 #[btV wt a n k, .slice ma m mk] w fun e w' => e = .returned (.bool true) ∧ Below w.heap.size w w' := by
  have H1 := Lib.hid h1
  have HET := Lib.hid hg
  have HMI := Lib.hid hmi
  obtain ⟨W, hW⟩ : ∃ W, W = w.alloc (.cells #[.int .i64 wt, .slice a n k] 77) := ⟨_, rfl⟩
  have HB : Hid (Below w.heap.size w W) := by show Below _ _ _; rw [hW]; exact (Below.refl _ _).alloc (Nat.le_refl _) _
  have HR : Hid (W.rowIs w.heap.size 77 2 (r2 (.int .i64 wt) (.slice a n k))) := by show World.rowIs _ _ _ _ _; rw [hW]; exact row2 w _ _ _
  have HW := Lib.hid hW
  have HM1 := Lib.hid hm1
  obtain ⟨A, hA⟩ : ∃ A, A = Wk.settle ⟨wt, n, f⟩ m mi := ⟨_, rfl⟩
  have hAn : A.x.n ≤ n ∧ A.y.n ≤ n := by rw [hA]; exact Wk.settle_n ⟨wt, n, f⟩ m mi
  have SPEC : ∀ a' k' ma' mk' W, IntsAt a' n f W → n ≤ 1048576 → IntsAt ma' m mi W → m ≤ 1048576 → Calls Tryd.prog 29 #[btV wt a' n k', .slice ma' m mk'] W fun e w' => PaEnd W.heap.size A e w' ∧ Below W.heap.size W w' := fun a' k' ma' mk' W h hn h' hm => by rw [hA]; exact sSettle_any ⟨wt, n, f⟩ a' k' ma' m mk' mi W h (by show n ≤ _; omega) h' (by omega)
  have IMPL : ∀ a' k' ma' mk' W, IntsAt a' n f W → n ≤ 1048576 → IntsAt ma' m mi W → m ≤ 1048576 → Et W → Calls Tryd.prog 30 #[btV wt a' n k', .slice ma' m mk'] W fun e w' => PaEnd W.heap.size A e w' ∧ Below W.heap.size W w' := fun a' k' ma' mk' W h hn h' hm he => by rw [hA]; exact implSettle_any ⟨wt, n, f⟩ a' k' ma' m mk' mi W h (by show n ≤ _; omega) h' (by omega) he
  have HSP := Lib.hid SPEC
  have HIM := Lib.hid IMPL
  have HAN := Lib.hid hAn
  clear hW h1 hm1 hg hA SPEC IMPL hAn hmi
  by_cases bm : 1048576 < m
  · have hzm : (1048576 : Int) < (m : Int) := by omega
    go_enter Tryd.func9, Tryd.ntmps9
    go_wp2_with fail
    go_ret
    have hB := HB.out
    rw [HW.out] at hB
    exact ⟨rfl, hB⟩
  have hzm : ¬ (1048576 : Int) < (m : Int) := by omega
  have NM : Hid (m ≤ 1048576) := by show m ≤ _; omega
  clear bm
  go_enter Tryd.func9, Tryd.ntmps9
  go_wp2_with fail
  rw [← HW.out]
  refine (szBatch_any wt a n k 1048576 _ (by omega) HM1.out).mono ?_
  rintro e w1 ⟨hz, hb⟩
  replace HB : Hid (Below w.heap.size w w1) := HB.out.trans (hb.mono HB.out.size)
  replace HR := Lib.hid (wrow_below HR.out hb)
  clear hb HW
  obtain ⟨⟨a0, a1⟩, _⟩ := row2_cells HR.out
  rcases hz with ⟨z, rfl, hz⟩ | ⟨hn1, rfl⟩
  · go_wp2_with fail
    go_ret
    exact ⟨rfl, HB.out⟩
  have hz : ¬ ((1048576 - n : Nat) : Int) < 0 := by omega
  have N1 := Lib.hid hn1
  have hAX : Hid (A.x.n ≤ 1048576) := by have := HAN.out; show A.x.n ≤ _; omega
  have hAY : Hid (A.y.n ≤ 1048576) := by have := HAN.out; show A.y.n ≤ _; omega
  clear hn1
  go_wp2_with fail
  refine (toBatch_any wt a n k f _ (H1.out.below HB.out) N1.out).mono ?_
  rintro e w2a ⟨⟨gs, rfl, _, hk⟩, hb⟩
  replace HB : Hid (Below w.heap.size w w2a) := HB.out.trans (hb.mono HB.out.size)
  replace HR := Lib.hid (wrow_below HR.out hb)
  have HKs := Lib.hid hk
  clear hb hk a0 a1
  go_wp2_with fail
  refine (toInt64S_any ma m mk mi _ (HMI.out.below HB.out) NM.out).mono ?_
  rintro e w2b ⟨⟨rfl, hq⟩, hb⟩
  replace HB : Hid (Below w.heap.size w w2b) := HB.out.trans (hb.mono HB.out.size)
  replace HR := Lib.hid (wrow_below HR.out hb)
  replace HKs := Lib.hid (HKs.out.below hb)
  have HQs := Lib.hid hq
  clear hb hq
  go_wp2_with fail
  refine (HSP.out _ n _ m _ HKs.out.at_ N1.out HQs.out.at_ NM.out).mono ?_
  rintro e w3 ⟨⟨ax6, kx6, ay6, ky6, rfl, h6⟩, hb⟩
  replace HB : Hid (Below w.heap.size w w3) := HB.out.trans (hb.mono HB.out.size)
  replace HR := Lib.hid (wrow_below HR.out hb)
  have hsz := hb.size
  obtain ⟨⟨a0, a1⟩, _⟩ := row2_cells HR.out
  have lw3 : w.heap.size < w3.heap.size := HR.out.lt
  obtain ⟨W6, hW6⟩ : ∃ W6, W6 = w3.alloc (paO A ax6 kx6 ay6 ky6) := ⟨_, rfl⟩
  have hb' : Below w3.heap.size w3 W6 := by rw [hW6]; exact bel_alloc _ _
  have M6 := Lib.hid (paM_of h6 hsz)
  rw [← hW6] at M6
  replace HB : Hid (Below w.heap.size w W6) := HB.out.trans (hb'.mono HB.out.size)
  replace HR := Lib.hid (wrow_below HR.out hb')
  have HW6 := Lib.hid hW6
  clear hb hb' hW6 h6
  clear HKs hsz HQs
  go_wp2_with fail
  rw [← HW6.out]
  clear a0 a1 lw3 HW6
  refine (toBatch_any wt a n k f _ (H1.out.below HB.out) N1.out).mono ?_
  rintro e w4 ⟨⟨gi, rfl, hlo7, hk⟩, hb⟩
  obtain ⟨W7, hW7⟩ : ∃ W7, W7 = w4.alloc (.cells #[.int .i64 wt, .slice (some ⟨gi, 0, none⟩) n n] 49) := ⟨_, rfl⟩
  have hb' : Below w4.heap.size w4 W7 := by rw [hW7]; exact bel_alloc _ _
  have X7 : Hid (W7.rowIs w4.heap.size 49 2 (r2 (.int .i64 wt) (.slice (some ⟨gi, 0, none⟩) n n))) := by show World.rowIs _ _ _ _ _; rw [hW7]; exact row2 _ _ _ _
  have HK7 := Lib.hid (hk.below hb')
  have HX7L : Hid (w4.heap.size < W7.heap.size) := X7.out.lt
  have HLO : Hid (w.heap.size < gi ∧ w3.heap.size + 1 ≤ gi ∧ gi < w4.heap.size) := by have h1 := HR.out.lt; have h2 := M6.out.row.lt; have h3 := hk.lt; refine ⟨by omega, by omega, h3⟩
  replace HB : Hid (Below w.heap.size w w4) := HB.out.trans (hb.mono HB.out.size)
  replace HR := Lib.hid (wrow_below HR.out hb)
  replace M6 := Lib.hid (M6.out.below hb)
  replace HB : Hid (Below w.heap.size w W7) := HB.out.trans (hb'.mono HB.out.size)
  replace HR := Lib.hid (wrow_below HR.out hb')
  replace M6 := Lib.hid (M6.out.below hb')
  have HW7 := Lib.hid hW7
  clear hb hb' hW7 hk hlo7
  go_wp2_with fail
  rw [← HW7.out]
  clear HW7
  refine (toInt64S_any ma m mk mi _ (HMI.out.below HB.out) NM.out).mono ?_
  rintro e w4m ⟨⟨rfl, hq⟩, hb⟩
  replace HB : Hid (Below w.heap.size w w4m) := HB.out.trans (hb.mono HB.out.size)
  replace HR := Lib.hid (wrow_below HR.out hb)
  replace M6 := Lib.hid (M6.out.below hb)
  replace X7 := Lib.hid (wrow_below X7.out hb)
  replace HK7 := Lib.hid (HK7.out.below hb)
  have HQ7 := Lib.hid hq
  clear hb hq
  obtain ⟨⟨x0, x1⟩, _⟩ := row2_cells X7.out
  go_wp2_with fail
  clear x0 x1
  have HL4X : Hid (w4.heap.size < W7.heap.size) := HX7L
  have HL4 : Hid (w4.heap.size + 1 ≤ w4m.heap.size) := by have := X7.out.lt; show _ ≤ _; omega
  have HL4M : Hid (W7.heap.size + 1 ≤ w4m.heap.size) := by have := HQ7.out.lt; show _ ≤ _; omega
  refine (HIM.out _ n _ m _ HK7.out.at_ N1.out HQ7.out.at_ NM.out (HET.out.below HB.out)).mono ?_
  rintro e w5 ⟨⟨ax8, kx8, ay8, ky8, rfl, h8⟩, hb⟩
  replace HB : Hid (Below w.heap.size w w5) := HB.out.trans (hb.mono HB.out.size)
  replace HR := Lib.hid (wrow_below HR.out hb)
  replace M6 := Lib.hid (M6.out.below hb)
  replace X7 := Lib.hid (wrow_below X7.out hb)
  replace HK7 := Lib.hid (HK7.out.below hb)
  replace HQ7 := Lib.hid (HQ7.out.below hb)
  have hsz := hb.size
  obtain ⟨b0, b1, b2, b3, b4⟩ := row5_cells M6.out.row
  have lw3 : w3.heap.size < w5.heap.size := M6.out.row.lt
  obtain ⟨W8, hW8⟩ : ∃ W8, W8 = w5.alloc (paO A ax8 kx8 ay8 ky8) := ⟨_, rfl⟩
  have hb' : Below w5.heap.size w5 W8 := by rw [hW8]; exact bel_alloc _ _
  have M8 := Lib.hid (paM_of h8 hsz)
  rw [← hW8] at M8
  replace HB : Hid (Below w.heap.size w W8) := HB.out.trans (hb'.mono HB.out.size)
  replace HR := Lib.hid (wrow_below HR.out hb')
  replace M6 := Lib.hid (M6.out.below hb')
  replace X7 := Lib.hid (wrow_below X7.out hb')
  replace HK7 := Lib.hid (HK7.out.below hb')
  replace HQ7 := Lib.hid (HQ7.out.below hb')
  have HW8 := Lib.hid hW8
  clear hb hb' hW8 h8
  clear hsz
  go_wp2_with fail
  rw [← HW8.out]
  clear b0 b1 b2 b3 b4 lw3 HW8
  refine (eqPair_same A ax8 ay8 ax6 ay6 kx8 ky8 kx6 ky6 _ M8.out.two.px.at_ M8.out.two.py.at_ M6.out.two.px.at_ M6.out.two.py.at_ hAX.out hAY.out).mono ?_
  rintro e w9 ⟨rfl, hb⟩
  replace HB : Hid (Below w.heap.size w w9) := HB.out.trans (hb.mono HB.out.size)
  replace HR := Lib.hid (wrow_below HR.out hb)
  replace M6 := Lib.hid (M6.out.below hb)
  replace X7 := Lib.hid (wrow_below X7.out hb)
  replace HK7 := Lib.hid (HK7.out.below hb)
  replace HQ7 := Lib.hid (HQ7.out.below hb)
  replace M8 := Lib.hid (M8.out.below hb)
  clear hb
  go_wp2_with fail
  have hPb : ∀ W W', (fun W => InBlk gi n f W ∧ PaM w2b.heap.size (w3.heap.size + 1) A ax6 kx6 ay6 ky6 w3.heap.size W ∧ PaM w4m.heap.size (w5.heap.size + 1) A ax8 kx8 ay8 ky8 w5.heap.size W ∧ InBlk W7.heap.size m mi W) W → Below W.heap.size W W' → (fun W => InBlk gi n f W ∧ PaM w2b.heap.size (w3.heap.size + 1) A ax6 kx6 ay6 ky6 w3.heap.size W ∧ PaM w4m.heap.size (w5.heap.size + 1) A ax8 kx8 ay8 ky8 w5.heap.size W ∧ InBlk W7.heap.size m mi W) W' := fun W W' hp hb => ⟨hp.1.below hb, hp.2.1.below hb, hp.2.2.1.below hb, hp.2.2.2.below hb⟩
  have HPB := Lib.hid hPb
  clear hPb
  refine wp_region_held_drew (S := (LwB w w.heap.size w4.heap.size (r2 (.int .i64 wt) (.slice a n k)) (r2 (.int .i64 wt) (.slice (some ⟨gi, 0, none⟩) n n)) (fun W => InBlk gi n f W ∧ PaM w2b.heap.size (w3.heap.size + 1) A ax6 kx6 ay6 ky6 w3.heap.size W ∧ PaM w4m.heap.size (w5.heap.size + 1) A ax8 kx8 ay8 ky8 w5.heap.size W ∧ InBlk W7.heap.size m mi W))) (by kernel_rfl) (LwB.below HPB.out ⟨HR.out, X7.out, ⟨HK7.out, M6.out, M8.out, HQ7.out⟩, HB.out⟩ (Below.refl _ _).drew) (fun hHeld => ?_)
  clear HR X7 HK7 M6 M8 HB HQ7
  refine take_do (i := 0) (v := (btV wt (some ⟨gi, 0, none⟩) n n)) rfl (by kernel_rfl) (by kernel_rfl) (by kernel_rfl) (fun _ _ _ h => h) (by rfl) ?_ (by assumption) ?_
  · intro w hSw
    obtain ⟨⟨a0, a1⟩, _⟩ := row2_cells hSw.1; obtain ⟨⟨x0, x1⟩, _⟩ := row2_cells hSw.2.1
    go_simp
  simp only [Act.put, List.setIfInBounds_toArray, List.set_cons_zero, List.set_cons_succ]
  refine take_do (i := 1) (v := (btV wt a n k)) rfl (by kernel_rfl) (by kernel_rfl) (by kernel_rfl) (fun _ _ _ h => h) (by rfl) ?_ (by assumption) ?_
  · intro w hSw
    obtain ⟨⟨a0, a1⟩, _⟩ := row2_cells hSw.1; obtain ⟨⟨x0, x1⟩, _⟩ := row2_cells hSw.2.1
    go_simp
  simp only [Act.put, List.setIfInBounds_toArray, List.set_cons_zero, List.set_cons_succ]
  refine take_call (i := 2) rfl (by kernel_rfl) (fun K2 hK => ?_)
  go_simp
  refine (toBatch_any wt a n k f _ (H1.out.below hHeld.2.2.2) N1.out).mono ?_
  rintro e wa ⟨⟨gq, rfl, _, hk6⟩, hb6⟩
  have HK6 := Lib.hid hk6
  go_wp2_with fail
  refine hK.out _ _ (LwB.below HPB.out hHeld hb6) (fun hHeld2 => ?_)
  clear hK hHeld hb6 hk6
  refine take_call (i := 3) rfl (by kernel_rfl) (fun K2 hK => ?_)
  go_simp
  refine (eqBatch_same wt _ _ n n n f _ hHeld2.2.2.1.1.at_ HK6.out.at_ N1.out).mono ?_
  rintro e wb ⟨rfl, hb7⟩
  go_wp2_with fail
  refine hK.out _ _ (LwB.below HPB.out hHeld2 hb7) (fun hHeld => ?_)
  clear hK hHeld2 hb7 HK6
  refine take_do (i := 4) (v := (.bool false)) rfl (by kernel_rfl) (by kernel_rfl) (by kernel_rfl) (fun _ _ _ h => h) (by rfl) ?_ (by assumption) ?_
  · intro w hSw
    skip
    go_simp
  simp only [Act.put, List.setIfInBounds_toArray, List.set_cons_zero, List.set_cons_succ]
  refine wpAnyH_done (by kernel_rfl) ?_ _
  have HR := Lib.hid hHeld.1
  have X7 := Lib.hid hHeld.2.1
  have HK7 := Lib.hid hHeld.2.2.1.1
  have M6 := Lib.hid hHeld.2.2.1.2.1
  have M8 := Lib.hid hHeld.2.2.1.2.2.1
  have HB := Lib.hid hHeld.2.2.2
  have HQ7 := Lib.hid hHeld.2.2.1.2.2.2
  clear hHeld HPB
  go_wp2_with fail
  refine (toInt64S_any ma m mk mi _ (HMI.out.below HB.out) NM.out).mono ?_
  rintro e wc ⟨⟨rfl, hq⟩, hb⟩
  replace HB : Hid (Below w.heap.size w wc) := HB.out.trans (hb.mono HB.out.size)
  replace HR := Lib.hid (wrow_below HR.out hb)
  replace M6 := Lib.hid (M6.out.below hb)
  replace X7 := Lib.hid (wrow_below X7.out hb)
  replace HK7 := Lib.hid (HK7.out.below hb)
  replace HQ7 := Lib.hid (HQ7.out.below hb)
  replace M8 := Lib.hid (M8.out.below hb)
  have HQ9 := Lib.hid hq
  clear hb hq
  go_wp2_with fail
  refine (eqInt64S_same _ _ m m m mi _ HQ7.out.at_ HQ9.out.at_ NM.out).mono ?_
  rintro e wd ⟨rfl, hb⟩
  replace HB : Hid (Below w.heap.size w wd) := HB.out.trans (hb.mono HB.out.size)
  replace HR := Lib.hid (wrow_below HR.out hb)
  replace M6 := Lib.hid (M6.out.below hb)
  replace X7 := Lib.hid (wrow_below X7.out hb)
  replace HK7 := Lib.hid (HK7.out.below hb)
  replace HQ7 := Lib.hid (HQ7.out.below hb)
  replace M8 := Lib.hid (M8.out.below hb)
  clear hb HQ9
  obtain ⟨⟨x0, x1⟩, _⟩ := row2_cells X7.out
  go_wp2_with fail
  refine (markBatch_any gi (gi + 1) wt (some ⟨gi, 0, none⟩) n n 1 f _ (Or.inr ⟨gi, rfl, ⟨Nat.le_refl _, by omega⟩, HK7.out⟩) N1.out (by omega)).mono ?_
  rintro e wm ⟨rfl, _, ho⟩
  have hat : ∀ g, atP (some ⟨gi, 0, none⟩) g → g = gi := fun g hg => by unfold atP at hg; simp at hg; omega
  have hlo := HLO.out
  have hl4 := HL4.out
  replace M6 := Lib.hid (M6.out.same (fun g h1 h2 hl => ho.block g hl (fun h => by have := hat g h; omega)))
  replace M8 := Lib.hid (M8.out.same (fun g h1 h2 hl => ho.block g hl (fun h => by have := hat g h; omega)))
  replace HR := Lib.hid (HR.out.of_block (ho.block _ HR.out.lt (fun h => by have := hat _ h; omega)))
  replace HQ7 := Lib.hid (HQ7.out.block (ho.block _ HQ7.out.lt (fun h => by have h1 := hat _ h; have h2 := HL4X.out; omega)))
  replace HB : Hid (Below w.heap.size w wm) := HB.out.trans (ho.below (fun g h => by have := hat g h; omega) HB.out.size)
  clear ho hat hlo hl4 x0 x1 X7 HK7
  go_wp2_with fail
  refine (markInts_any W7.heap.size (W7.heap.size + 1) (some ⟨W7.heap.size, 0, none⟩) m m (1 + n) mi _ (Or.inr ⟨_, rfl, ⟨Nat.le_refl _, by omega⟩, HQ7.out⟩) NM.out (by have := N1.out; omega)).mono ?_
  rintro e wn ⟨rfl, _, ho⟩
  have hat : ∀ g, atP (some ⟨W7.heap.size, 0, none⟩) g → g = W7.heap.size := fun g hg => by unfold atP at hg; simp at hg; omega
  have hlo := HLO.out
  have hl4 := HL4.out
  have hl4m := HL4M.out
  have hl4x := HL4X.out
  replace M6 := Lib.hid (M6.out.same (fun g h1 h2 hl => ho.block g hl (fun h => by have := hat g h; omega)))
  replace M8 := Lib.hid (M8.out.same (fun g h1 h2 hl => ho.block g hl (fun h => by have := hat g h; omega)))
  replace HR := Lib.hid (HR.out.of_block (ho.block _ HR.out.lt (fun h => by have := hat _ h; omega)))
  replace HB : Hid (Below w.heap.size w wn) := HB.out.trans (ho.below (fun g h => by have := hat g h; omega) HB.out.size)
  clear ho hat hlo hl4 hl4m hl4x HQ7
  have hkz : ¬ ((1 + n + m : Nat) : Int) < 0 := by omega
  obtain ⟨b0, b1, b2, b3, b4⟩ := row5_cells M6.out.row
  obtain ⟨d0, d1, d2, d3, d4⟩ := row5_cells M8.out.row
  go_wp2_with fail
  refine (eqPair_same A ax8 ay8 ax6 ay6 kx8 ky8 kx6 ky6 _ M8.out.two.px.at_ M8.out.two.py.at_ M6.out.two.px.at_ M6.out.two.py.at_ hAX.out hAY.out).mono ?_
  rintro e wo ⟨rfl, hb⟩
  replace HB : Hid (Below w.heap.size w wo) := HB.out.trans (hb.mono HB.out.size)
  replace HR := Lib.hid (wrow_below HR.out hb)
  replace M6 := Lib.hid (M6.out.below hb)
  replace M8 := Lib.hid (M8.out.below hb)
  clear hb hkz b0 b1 b2 b3 b4 d0 d1 d2 d3 d4
  obtain ⟨d0, d1, d2, d3, d4⟩ := row5_cells M8.out.row
  go_wp2_with fail
  refine (markPair_any _ _ A ax8 ay8 kx8 ky8 _ M8.out.two hAX.out hAY.out).mono ?_
  rintro e wp ⟨rfl, ⟨hm1, hm2⟩, ho⟩
  have hlo := HLO.out
  have hl4 := HL4.out
  have hat : ∀ g, (atP ax8 g ∨ atP ay8 g) → w4m.heap.size ≤ g := fun g hg => by
    rcases hg with hg | hg
    · exact (M8.out.two.px.atp hg).1
    · exact (M8.out.two.py.atp hg).1
  replace M6 := Lib.hid (M6.out.same (fun g h1 h2 hl => ho.block g hl (fun h => by have := hat g h; omega)))
  have R8 := Lib.hid (M8.out.row.of_block (ho.block _ M8.out.row.lt (fun h => M8.out.far _ h rfl)))
  replace HR := Lib.hid (HR.out.of_block (ho.block _ HR.out.lt (fun h => by have := hat _ h; omega)))
  replace HB : Hid (Below w.heap.size w wp) := HB.out.trans (ho.below (fun g h => by have := hat g h; omega) HB.out.size)
  have K1 := Lib.hid hm1
  have K2 := Lib.hid hm2
  clear ho hat hlo hl4 hm1 hm2 M8 d0 d1 d2 d3 d4
  obtain ⟨d0, d1, d2, d3, d4⟩ := row5_cells R8.out
  have hqz : ¬ ((1 + A.x.n + A.y.n : Nat) : Int) < 0 := by omega
  go_wp2_with fail
  refine (heldPair_any A ax8 ay8 kx8 ky8 _ K1.out K2.out hAX.out hAY.out).mono ?_
  rintro e wq ⟨rfl, hb⟩
  replace HB : Hid (Below w.heap.size w wq) := HB.out.trans (hb.mono HB.out.size)
  replace HR := Lib.hid (wrow_below HR.out hb)
  replace M6 := Lib.hid (M6.out.below hb)
  replace R8 := Lib.hid (wrow_below R8.out hb)
  replace K1 := Lib.hid (K1.out.same (fun g _ hl => hb.block g hl))
  replace K2 := Lib.hid (K2.out.same (fun g _ hl => hb.block g hl))
  clear hb d0 d1 d2 d3 d4
  obtain ⟨⟨a0, a1⟩, _⟩ := row2_cells HR.out
  go_wp2_with fail
  refine (toBatch_any wt a n k f _ (H1.out.below HB.out) N1.out).mono ?_
  rintro e wra ⟨⟨gr, rfl, _, hk⟩, hb⟩
  replace HB : Hid (Below w.heap.size w wra) := HB.out.trans (hb.mono HB.out.size)
  replace HR := Lib.hid (wrow_below HR.out hb)
  replace M6 := Lib.hid (M6.out.below hb)
  replace R8 := Lib.hid (wrow_below R8.out hb)
  have HKr := Lib.hid hk
  replace K1 := Lib.hid (K1.out.same (fun g _ hl => hb.block g hl))
  replace K2 := Lib.hid (K2.out.same (fun g _ hl => hb.block g hl))
  clear hb hk a0 a1
  go_wp2_with fail
  refine (toInt64S_any ma m mk mi _ (HMI.out.below HB.out) NM.out).mono ?_
  rintro e wrb ⟨⟨rfl, hq⟩, hb⟩
  replace HB : Hid (Below w.heap.size w wrb) := HB.out.trans (hb.mono HB.out.size)
  replace HR := Lib.hid (wrow_below HR.out hb)
  replace M6 := Lib.hid (M6.out.below hb)
  replace R8 := Lib.hid (wrow_below R8.out hb)
  replace HKr := Lib.hid (HKr.out.below hb)
  have HQr := Lib.hid hq
  replace K1 := Lib.hid (K1.out.same (fun g _ hl => hb.block g hl))
  replace K2 := Lib.hid (K2.out.same (fun g _ hl => hb.block g hl))
  clear hb hq
  go_wp2_with fail
  refine (HIM.out _ n _ m _ HKr.out.at_ N1.out HQr.out.at_ NM.out (HET.out.below HB.out)).mono ?_
  rintro e wu ⟨⟨axc, kxc, ayc, kyc, rfl, hc⟩, hb⟩
  replace HB : Hid (Below w.heap.size w wu) := HB.out.trans (hb.mono HB.out.size)
  replace HR := Lib.hid (wrow_below HR.out hb)
  replace M6 := Lib.hid (M6.out.below hb)
  replace R8 := Lib.hid (wrow_below R8.out hb)
  replace K1 := Lib.hid (K1.out.same (fun g _ hl => hb.block g hl))
  replace K2 := Lib.hid (K2.out.same (fun g _ hl => hb.block g hl))
  have hsz := hb.size
  obtain ⟨b0, b1, b2, b3, b4⟩ := row5_cells M6.out.row
  have lw3 : w3.heap.size < wu.heap.size := M6.out.row.lt
  obtain ⟨Wc, hWc⟩ : ∃ Wc, Wc = wu.alloc (paO A axc kxc ayc kyc) := ⟨_, rfl⟩
  clear hb
  have hb : Below wu.heap.size wu Wc := by rw [hWc]; exact bel_alloc _ _
  have Mc := Lib.hid (paM_of hc hsz)
  rw [← hWc] at Mc
  replace HB : Hid (Below w.heap.size w Wc) := HB.out.trans (hb.mono HB.out.size)
  replace HR := Lib.hid (wrow_below HR.out hb)
  replace M6 := Lib.hid (M6.out.below hb)
  replace R8 := Lib.hid (wrow_below R8.out hb)
  replace K1 := Lib.hid (K1.out.same (fun g _ hl => hb.block g hl))
  replace K2 := Lib.hid (K2.out.same (fun g _ hl => hb.block g hl))
  have HWc := Lib.hid hWc
  clear hb hWc hc hsz HKr HQr
  go_wp2_with fail
  rw [← HWc.out]
  clear b0 b1 b2 b3 b4 lw3 HWc
  refine (eqPair_same A axc ayc ax6 ay6 kxc kyc kx6 ky6 _ Mc.out.two.px.at_ Mc.out.two.py.at_ M6.out.two.px.at_ M6.out.two.py.at_ hAX.out hAY.out).mono ?_
  rintro e wv ⟨rfl, hb⟩
  replace HB : Hid (Below w.heap.size w wv) := HB.out.trans (hb.mono HB.out.size)
  replace HR := Lib.hid (wrow_below HR.out hb)
  replace M6 := Lib.hid (M6.out.below hb)
  replace R8 := Lib.hid (wrow_below R8.out hb)
  replace K1 := Lib.hid (K1.out.same (fun g _ hl => hb.block g hl))
  replace K2 := Lib.hid (K2.out.same (fun g _ hl => hb.block g hl))
  clear hb Mc
  obtain ⟨d0, d1, d2, d3, d4⟩ := row5_cells R8.out
  go_wp2_with fail
  refine (heldPair_any A ax8 ay8 kx8 ky8 _ K1.out K2.out hAX.out hAY.out).mono ?_
  rintro e wx ⟨rfl, hb⟩
  replace HB : Hid (Below w.heap.size w wx) := HB.out.trans (hb.mono HB.out.size)
  replace HR := Lib.hid (wrow_below HR.out hb)
  replace M6 := Lib.hid (M6.out.below hb)
  replace R8 := Lib.hid (wrow_below R8.out hb)
  clear hb d0 d1 d2 d3 d4
  go_wp2_with fail
  go_ret
  exact ⟨rfl, HB.out⟩
end Go.Proofs.YtoeibcmmpbkbpaaDoor
