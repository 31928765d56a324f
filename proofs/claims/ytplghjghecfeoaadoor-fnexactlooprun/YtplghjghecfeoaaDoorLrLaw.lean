/-
  The law FnExactLoopRun.
-/
import Derived.Test.YtplghjghecfeoaaDoorLrS1
import Derived.Test.YtplghjghecfeoaaDoorLrEx2
namespace Go.Proofs.YtplghjghecfeoaaDoor
open Go.RowKit Go.Deep

attribute [local go_sem] lrun_store_float lrun_store_complex
set_option maxRecDepth 100000 in
set_option maxHeartbeats 8000000 in
theorem loopRun_law_of (w : World) (l : Fl.Lo) (start : Nat) (a : Option Addr) (n k : Nat) (f : Nat → Nat) (h : FlIn a n f w) (hg : Et w ∧ TabOk w) :
    Calls Tryd.prog 4 #[loV l, .float .f64 start, .slice a n k] w fun e w' => e = .returned (.bool true) ∧ Below w.heap.size w w' := by
  by_cases hbig : 1048576 < n
  · have hz : (1048576 : Int) < (n : Int) := by omega
    clear h
    go_enter Tryd.func4, Tryd.ntmps4
    go_wp2_with fail
    go_ret
    exact ⟨rfl, bel_alloc _ _⟩
  have hz : ¬ (1048576 : Int) < (n : Int) := by omega
  obtain ⟨W, hW⟩ : ∃ W, W = w.alloc (.cells #[.float .f64 l.up, .float .f64 l.sum, .float .f64 l.gain, .float .f64 l.lag, .float .f64 l.low, .float .f64 l.high] 35) := ⟨_, rfl⟩
  have HB : Hid (Below w.heap.size w W) := by show Below _ _ _; rw [hW]; exact bel_alloc _ _
  have HRA : Hid (W.rowIs w.heap.size 35 6 (rowL (loL l))) := by show World.rowIs _ _ _ _ _; rw [hW]; exact rowL_alloc w (loL l) _
  have HI := Lib.hid h
  have HG := Lib.hid hg
  have HN : Hid (n ≤ 1048576) := by show _ ≤ _; omega
  have HM : Hid (Fl.loopLen l start n f ≤ 1048576) := by show _ ≤ _; unfold Fl.loopLen; split <;> omega
  have HSP : Hid (∀ g' k' wx, (∀ i, i < n → wx.cell? ⟨g', i, none⟩ = some (.float .f64 (f i))) → Calls Tryd.prog 6 #[loV l, .float .f64 start, .slice (some ⟨g', 0, none⟩) n k'] wx fun e w' => (∃ v1 v2, e = .returned (loOutV v1 v2 (Fl.loopCode l start n f)) ∧ Two wx.heap.size v1 (Fl.loopLen l start n f) (Fl.vals l start f) v2 (Fl.loopLen l start n f) (Fl.drvs l start f) w') ∧ Below wx.heap.size wx w') := fun g' k' wx hx => specLoop_any l start g' n k' f wx hx
  have HIM : Hid (∀ a' k' wx, FlAt a' n f wx → TabOk wx → Et wx → Calls Tryd.prog 7 #[loV l, .float .f64 start, .slice a' n k'] wx fun e w' => (∃ v1 v2, e = .returned (loOutV v1 v2 (Fl.loopCode l start n f)) ∧ Two wx.heap.size v1 (Fl.loopLen l start n f) (Fl.vals l start f) v2 (Fl.loopLen l start n f) (Fl.drvs l start f) w') ∧ Below wx.heap.size wx w') := fun a' k' wx hx ht he => implLoop_any l start a' n k' f wx hx ht he
  generalize Fl.loopLen l start n f = m at HM HSP HIM
  generalize Fl.loopCode l start n f = C at HSP HIM
  generalize Fl.vals l start f = F1 at HSP HIM
  generalize Fl.drvs l start f = F2 at HSP HIM
  obtain ⟨Q, hQ⟩ : ∃ Q : Nat, Q = 1 + m + m := ⟨_, rfl⟩
  have HQ0 : ¬ (Q : Int) < 0 := by omega
  have HMK : Hid (∀ B v1 v2 wx, Two B v1 m F1 v2 m F2 wx → Calls Tryd.prog 15 #[loOutV v1 v2 C, .int .i64 1] wx fun e w' => e = .returned (.int .i64 (Q : Int)) ∧ Two B v1 m (mkW 1) v2 m (mkW (1 + m)) w' ∧ OnlyP (In2 v1 v2) wx w') := fun B v1 v2 wx ht => by rw [hQ]; exact markLo_any B v1 v2 m C F1 F2 wx ht HM.out
  have HHD : Hid (∀ B v1 v2 wx, Two B v1 m (mkW 1) v2 m (mkW (1 + m)) wx → Calls Tryd.prog 16 #[loOutV v1 v2 C, .int .i64 1] wx fun e w' => e = .returned (.int .i64 (Q : Int)) ∧ Below wx.heap.size wx w') := fun B v1 v2 wx ht => by rw [hQ]; exact heldLo_any B v1 v2 m C wx ht HM.out
  obtain ⟨K, hK⟩ : ∃ K : Nat, K = 1 + n := ⟨_, rfl⟩
  have HK0 : ¬ (K : Int) < 0 := by omega
  have HMX : Hid (∀ B g' wx, OwnF B (.slice (some ⟨g', 0, none⟩) n n) n f wx → Calls Tryd.prog 14 #[.slice (some ⟨g', 0, none⟩) n n, .int .i64 1] wx fun e w' => e = .returned (.int .i64 (K : Int)) ∧ wx.grownBy w' (some g')) := fun B g' wx ho => (by rw [hK]; exact (markFl_any B _ n 1 f wx ho HN.out (by omega)).mono (fun e w' hh => ⟨hh.1, hh.2.2⟩))
  have HW := Lib.hid hW
  clear hW h hbig hg hQ hK
  go_enter Tryd.func4, Tryd.ntmps4
  go_wp2_with fail
  rw [← HW.out]
  clear HW
  refine (toLoop_any l _).mono ?_
  rintro e w1 ⟨rfl, hb⟩
  replace HB : Hid (Below w.heap.size w w1) := HB.out.trans (hb.mono HB.out.size)
  replace HRA := Lib.hid (wrow_below HRA.out hb)
  clear hb
  go_wp2_with fail
  refine (toFl_own a n k f _ (HI.out.below HB.out) HN.out).mono ?_
  rintro e w2 ⟨rfl, hown, hb⟩
  have HCE : Hid (∀ i, i < n → w2.cell? ⟨w1.heap.size, i, none⟩ = some (.float .f64 (f i))) := fun i hi => by
    rcases OwnF.form hown with ⟨_, e⟩ | ⟨g, kk, e, _, hf⟩
    · omega
    · injection e with e1 e2 e3
      injection e1 with e1
      injection e1 with e1
      subst e1
      exact hf.cell hi
  replace HB : Hid (Below w.heap.size w w2) := HB.out.trans (hb.mono HB.out.size)
  replace HRA := Lib.hid (wrow_below HRA.out hb)
  clear hb
  clear hown
  go_wp2_with fail
  refine (HSP.out _ _ _ HCE.out).mono ?_
  rintro e w3 ⟨⟨v1, v2, rfl, hT⟩, hb⟩
  replace HB : Hid (Below w.heap.size w w3) := HB.out.trans (hb.mono HB.out.size)
  replace HRA := Lib.hid (wrow_below HRA.out hb)
  clear hb
  obtain ⟨pa, pk, e1, _⟩ := hT.one.sl
  obtain ⟨pb, pl, e2, _⟩ := hT.two.sl
  subst e1 e2
  have TW0 := Lib.hid hT
  clear hT
  obtain ⟨W3, hW3⟩ : ∃ W3, W3 = w3.alloc (.cells #[.slice pa m pk, .slice pb m pl, .int .i64 C] 30) := ⟨_, rfl⟩
  have hb : Below w3.heap.size w3 W3 := by rw [hW3]; exact bel_alloc _ _
  obtain ⟨g7, hg7⟩ : ∃ g7, g7 = w3.heap.size := ⟨_, rfl⟩
  have T7 : Hid (W3.rowIs g7 30 3 (rowL (outL (.slice pa m pk) (.slice pb m pl) C))) := by show World.rowIs _ _ _ _ _; rw [hW3]; exact rowL_alloc' hg7.symm (outL (.slice pa m pk) (.slice pb m pl) C) _
  have HV : Hid (∀ q, In2 (.slice pa m pk) (.slice pb m pl) q → q < g7) := fun q hq => by
    rw [hg7]
    rcases hq with hq | hq
    · exact (World.ownsRow.lt TW0.out.one q hq).2
    · exact (World.ownsRow.lt TW0.out.two q hq).2
  have HL7 : Hid (w.heap.size < g7) := by have := HRA.out.lt; show _ < _; omega
  replace HB : Hid (Below w.heap.size w W3) := HB.out.trans (hb.mono HB.out.size)
  replace HRA := Lib.hid (wrow_below HRA.out hb)
  replace TW0 := Lib.hid (TW0.out.below hb)
  clear hb
  have HW := Lib.hid hW3
  have HGG := Lib.hid hg7
  clear hW3 hg7 HCE
  go_wp2_with fail
  rw [← HW.out]
  try rw [← HGG.out]
  clear HW HGG
  refine (toFl_own a n k f _ (HI.out.below HB.out) HN.out).mono ?_
  rintro e w4 ⟨rfl, hown, hb⟩
  obtain ⟨gx, hgx⟩ : ∃ gx, gx = W3.heap.size := ⟨_, rfl⟩
  rw [← hgx] at hown ⊢
  have HXO := Lib.hid hown
  have HLX : Hid (g7 < gx) := by have := T7.out.lt; show _ < _; omega
  clear hown hgx
  replace HB : Hid (Below w.heap.size w w4) := HB.out.trans (hb.mono HB.out.size)
  replace HRA := Lib.hid (wrow_below HRA.out hb)
  replace TW0 := Lib.hid (TW0.out.below hb)
  replace T7 := Lib.hid (wrow_below T7.out hb)
  clear hb
  obtain ⟨⟨y0, y1, y2⟩, y3, y4, y5⟩ := row6_cells HRA.out
  go_wp2_with fail
  clear y0 y1 y2 y3 y4 y5
  refine (toLoop_any l _).mono ?_
  rintro e w5 ⟨rfl, hb⟩
  replace HB : Hid (Below w.heap.size w w5) := HB.out.trans (hb.mono HB.out.size)
  replace HRA := Lib.hid (wrow_below HRA.out hb)
  replace TW0 := Lib.hid (TW0.out.below hb)
  replace T7 := Lib.hid (wrow_below T7.out hb)
  replace HXO := Lib.hid (HXO.out.below hb)
  clear hb
  go_wp2_with fail
  have HGX5 : Hid (gx < w5.heap.size) := by
    rcases HXO.out.form with ⟨e, _⟩ | ⟨g, kk, e, _, hf⟩
    · cases e
    · injection e with e1 e2 e3
      injection e1 with e1
      injection e1 with e1
      subst e1
      exact hf.lt
  refine (HIM.out _ _ _ (by obtain ⟨a', k', e', hA⟩ := HXO.out.sl; injection e' with e1 e2 e3; subst e1; exact hA) (tab_below HG.out.2 HB.out) (HG.out.1.below HB.out)).mono ?_
  rintro e w6 ⟨⟨v1, v2, rfl, hT⟩, hb⟩
  replace HB : Hid (Below w.heap.size w w6) := HB.out.trans (hb.mono HB.out.size)
  replace HRA := Lib.hid (wrow_below HRA.out hb)
  replace TW0 := Lib.hid (TW0.out.below hb)
  replace T7 := Lib.hid (wrow_below T7.out hb)
  replace HXO := Lib.hid (HXO.out.below hb)
  clear hb
  obtain ⟨ua, uk, e1, _⟩ := hT.one.sl
  obtain ⟨ub, ul, e2, _⟩ := hT.two.sl
  subst e1 e2
  have TW1 := Lib.hid hT
  clear hT
  obtain ⟨⟨p0, p1, p2⟩, _⟩ := row3_cells T7.out
  have l7 := T7.out.lt
  obtain ⟨W6, hW6⟩ : ∃ W6, W6 = w6.alloc (.cells #[.slice ua m uk, .slice ub m ul, .int .i64 C] 30) := ⟨_, rfl⟩
  have hb : Below w6.heap.size w6 W6 := by rw [hW6]; exact bel_alloc _ _
  obtain ⟨g9, hg9⟩ : ∃ g9, g9 = w6.heap.size := ⟨_, rfl⟩
  have T9 : Hid (W6.rowIs g9 30 3 (rowL (outL (.slice ua m uk) (.slice ub m ul) C))) := by show World.rowIs _ _ _ _ _; rw [hW6]; exact rowL_alloc' hg9.symm (outL (.slice ua m uk) (.slice ub m ul) C) _
  have HU : Hid (∀ q, In2 (.slice ua m uk) (.slice ub m ul) q → gx < q ∧ q < g9) := fun q hq => by
    rw [hg9]
    have h5 := HGX5.out
    rcases hq with hq | hq
    · have := World.ownsRow.lt TW1.out.one q hq; omega
    · have := World.ownsRow.lt TW1.out.two q hq; omega
  have HL9 : Hid (gx < g9) := by
    rcases HXO.out.form with ⟨e, _⟩ | ⟨g, kk, e, _, hf⟩
    · cases e
    · injection e with e1 e2 e3
      injection e1 with e1
      injection e1 with e1
      subst e1
      show _ < _
      rw [hg9]; exact hf.lt
  replace HB : Hid (Below w.heap.size w W6) := HB.out.trans (hb.mono HB.out.size)
  replace HRA := Lib.hid (wrow_below HRA.out hb)
  replace TW0 := Lib.hid (TW0.out.below hb)
  replace T7 := Lib.hid (wrow_below T7.out hb)
  replace HXO := Lib.hid (HXO.out.below hb)
  replace TW1 := Lib.hid (TW1.out.below hb)
  clear hb
  have HW := Lib.hid hW6
  have HGG := Lib.hid hg9
  clear hW6 hg9
  go_wp2_with fail
  rw [← HW.out]
  try rw [← HGG.out]
  clear HW HGG p0 p1 p2 l7
  refine (eqLo_same _ _ _ _ m C F1 F2 _ _ _ TW1.out TW0.out HM.out).mono ?_
  rintro e w7 ⟨rfl, hb⟩
  replace HB : Hid (Below w.heap.size w w7) := HB.out.trans (hb.mono HB.out.size)
  replace HRA := Lib.hid (wrow_below HRA.out hb)
  replace TW0 := Lib.hid (TW0.out.below hb)
  replace T7 := Lib.hid (wrow_below T7.out hb)
  replace HXO := Lib.hid (HXO.out.below hb)
  replace TW1 := Lib.hid (TW1.out.below hb)
  replace T9 := Lib.hid (wrow_below T9.out hb)
  clear hb
  go_wp2_with fail
  refine (toFl_own a n k f _ (HI.out.below HB.out) HN.out).mono ?_
  rintro e w8 ⟨rfl, hown, hb⟩
  have HXN := Lib.hid hown
  clear hown
  replace HB : Hid (Below w.heap.size w w8) := HB.out.trans (hb.mono HB.out.size)
  replace HRA := Lib.hid (wrow_below HRA.out hb)
  replace TW0 := Lib.hid (TW0.out.below hb)
  replace T7 := Lib.hid (wrow_below T7.out hb)
  replace HXO := Lib.hid (HXO.out.below hb)
  replace TW1 := Lib.hid (TW1.out.below hb)
  replace T9 := Lib.hid (wrow_below T9.out hb)
  clear hb
  go_wp2_with fail
  refine (eqFl_same _ _ n n n f _ (by obtain ⟨a', k', e', hA⟩ := HXO.out.sl; injection e' with e1 e2 e3; subst e1; exact hA) (by obtain ⟨a', k', e', hA⟩ := HXN.out.sl; injection e' with e1 e2 e3; subst e1; exact hA) HN.out).mono ?_
  rintro e w9 ⟨rfl, hb⟩
  replace HB : Hid (Below w.heap.size w w9) := HB.out.trans (hb.mono HB.out.size)
  replace HRA := Lib.hid (wrow_below HRA.out hb)
  replace TW0 := Lib.hid (TW0.out.below hb)
  replace T7 := Lib.hid (wrow_below T7.out hb)
  replace HXO := Lib.hid (HXO.out.below hb)
  replace TW1 := Lib.hid (TW1.out.below hb)
  replace T9 := Lib.hid (wrow_below T9.out hb)
  clear hb
  clear HXN
  go_wp2_with fail
  refine (HMX.out _ _ _ HXO.out).mono ?_
  rintro e wa ⟨rfl, hgr⟩
  have ho : OnlyP (fun q => q = gx) w9 wa := OnlyP.of_grown hgr (fun q hq => by injection hq with hq; exact hq.symm)
  have hl7 := HL7.out
  have hlx := HLX.out
  have hl9 := HL9.out
  replace HB : Hid (Below w.heap.size w wa) := HB.out.trans (ho.below (fun q hq => by omega) HB.out.size)
  replace HRA := Lib.hid (HRA.out.of_block (ho.block _ HRA.out.lt (fun hq => by omega)))
  replace T7 := Lib.hid (T7.out.of_block (ho.block _ T7.out.lt (fun hq => by omega)))
  replace T9 := Lib.hid (T9.out.of_block (ho.block _ T9.out.lt (fun hq => by omega)))
  replace TW0 := Lib.hid (TW0.out.only ho (fun q h1 hq => by have := HV.out q (Or.inl h1); omega) (fun q h1 hq => by have := HV.out q (Or.inr h1); omega))
  replace TW1 := Lib.hid (TW1.out.only ho (fun q h1 hq => by have := HU.out q (Or.inl h1); omega) (fun q h1 hq => by have := HU.out q (Or.inr h1); omega))
  clear ho hgr hl7 hlx hl9 HXO
  obtain ⟨⟨x0, x1, x2⟩, _⟩ := row3_cells T9.out
  obtain ⟨⟨y0, y1, y2⟩, _⟩ := row3_cells T7.out
  go_wp2_with fail
  clear x0 x1 x2 y0 y1 y2
  refine (eqLo_same _ _ _ _ m C F1 F2 _ _ _ TW1.out TW0.out HM.out).mono ?_
  rintro e wb ⟨rfl, hb⟩
  replace HB : Hid (Below w.heap.size w wb) := HB.out.trans (hb.mono HB.out.size)
  replace HRA := Lib.hid (wrow_below HRA.out hb)
  replace TW0 := Lib.hid (TW0.out.below hb)
  replace T7 := Lib.hid (wrow_below T7.out hb)
  replace TW1 := Lib.hid (TW1.out.below hb)
  replace T9 := Lib.hid (wrow_below T9.out hb)
  clear hb
  obtain ⟨⟨x0, x1, x2⟩, _⟩ := row3_cells T9.out
  go_wp2_with fail
  clear x0 x1 x2
  refine (HMK.out _ _ _ _ TW1.out).mono ?_
  rintro e wd ⟨rfl, hT, ho⟩
  have hl7 := HL7.out
  have hlx := HLX.out
  have hl9 := HL9.out
  replace HB : Hid (Below w.heap.size w wd) := HB.out.trans (ho.below (fun q hq => by have := HU.out q hq; omega) HB.out.size)
  replace HRA := Lib.hid (HRA.out.of_block (ho.block _ HRA.out.lt (fun hq => by have := HU.out _ hq; omega)))
  replace T7 := Lib.hid (T7.out.of_block (ho.block _ T7.out.lt (fun hq => by have := HU.out _ hq; omega)))
  replace T9 := Lib.hid (T9.out.of_block (ho.block _ T9.out.lt (fun hq => by have := HU.out _ hq; omega)))
  replace TW0 := Lib.hid (TW0.out.only ho (fun q h1 hq => by have h2 := HV.out q (Or.inl h1); have := HU.out q hq; omega) (fun q h1 hq => by have h2 := HV.out q (Or.inr h1); have := HU.out q hq; omega))
  replace TW1 := Lib.hid hT
  clear ho hT hl7 hlx hl9
  obtain ⟨⟨x0, x1, x2⟩, _⟩ := row3_cells T9.out
  go_wp2_with fail
  clear x0 x1 x2
  refine (HHD.out _ _ _ _ TW1.out).mono ?_
  rintro e we ⟨rfl, hb⟩
  replace HB : Hid (Below w.heap.size w we) := HB.out.trans (hb.mono HB.out.size)
  replace HRA := Lib.hid (wrow_below HRA.out hb)
  replace TW0 := Lib.hid (TW0.out.below hb)
  replace T7 := Lib.hid (wrow_below T7.out hb)
  replace TW1 := Lib.hid (TW1.out.below hb)
  replace T9 := Lib.hid (wrow_below T9.out hb)
  clear hb
  obtain ⟨⟨y0, y1, y2⟩, y3, y4, y5⟩ := row6_cells HRA.out
  go_wp2_with fail
  clear y0 y1 y2 y3 y4 y5
  refine (toLoop_any l _).mono ?_
  rintro e wf ⟨rfl, hb⟩
  replace HB : Hid (Below w.heap.size w wf) := HB.out.trans (hb.mono HB.out.size)
  replace HRA := Lib.hid (wrow_below HRA.out hb)
  replace TW0 := Lib.hid (TW0.out.below hb)
  replace T7 := Lib.hid (wrow_below T7.out hb)
  replace TW1 := Lib.hid (TW1.out.below hb)
  replace T9 := Lib.hid (wrow_below T9.out hb)
  clear hb
  go_wp2_with fail
  refine (toFl_own a n k f _ (HI.out.below HB.out) HN.out).mono ?_
  rintro e wg ⟨rfl, hown, hb⟩
  have HXN := Lib.hid hown
  clear hown
  replace HB : Hid (Below w.heap.size w wg) := HB.out.trans (hb.mono HB.out.size)
  replace HRA := Lib.hid (wrow_below HRA.out hb)
  replace TW0 := Lib.hid (TW0.out.below hb)
  replace T7 := Lib.hid (wrow_below T7.out hb)
  replace TW1 := Lib.hid (TW1.out.below hb)
  replace T9 := Lib.hid (wrow_below T9.out hb)
  clear hb
  go_wp2_with fail
  refine (HIM.out _ _ _ (by obtain ⟨a', k', e', hA⟩ := HXN.out.sl; injection e' with e1 e2 e3; subst e1; exact hA) (tab_below HG.out.2 HB.out) (HG.out.1.below HB.out)).mono ?_
  rintro e wh ⟨⟨v1, v2, rfl, hT⟩, hb⟩
  replace HB : Hid (Below w.heap.size w wh) := HB.out.trans (hb.mono HB.out.size)
  replace HRA := Lib.hid (wrow_below HRA.out hb)
  replace TW0 := Lib.hid (TW0.out.below hb)
  replace T7 := Lib.hid (wrow_below T7.out hb)
  replace TW1 := Lib.hid (TW1.out.below hb)
  replace T9 := Lib.hid (wrow_below T9.out hb)
  clear hb
  clear HXN
  obtain ⟨ya, yk, e1, _⟩ := hT.one.sl
  obtain ⟨yb, yl, e2, _⟩ := hT.two.sl
  subst e1 e2
  have TW2 := Lib.hid hT
  clear hT
  obtain ⟨⟨p0, p1, p2⟩, _⟩ := row3_cells T7.out
  have l7 := T7.out.lt
  obtain ⟨WH, hWH⟩ : ∃ WH, WH = wh.alloc (.cells #[.slice ya m yk, .slice yb m yl, .int .i64 C] 30) := ⟨_, rfl⟩
  have hb : Below wh.heap.size wh WH := by rw [hWH]; exact bel_alloc _ _
  obtain ⟨gd, hgd⟩ : ∃ gd, gd = wh.heap.size := ⟨_, rfl⟩
  have TD : Hid (WH.rowIs gd 30 3 (rowL (outL (.slice ya m yk) (.slice yb m yl) C))) := by show World.rowIs _ _ _ _ _; rw [hWH]; exact rowL_alloc' hgd.symm (outL (.slice ya m yk) (.slice yb m yl) C) _
  replace HB : Hid (Below w.heap.size w WH) := HB.out.trans (hb.mono HB.out.size)
  replace HRA := Lib.hid (wrow_below HRA.out hb)
  replace TW0 := Lib.hid (TW0.out.below hb)
  replace T7 := Lib.hid (wrow_below T7.out hb)
  replace TW1 := Lib.hid (TW1.out.below hb)
  replace T9 := Lib.hid (wrow_below T9.out hb)
  replace TW2 := Lib.hid (TW2.out.below hb)
  clear hb
  have HW := Lib.hid hWH
  have HGG := Lib.hid hgd
  clear hWH hgd TD
  go_wp2_with fail
  rw [← HW.out]
  clear HW HGG p0 p1 p2 l7
  refine (eqLo_same _ _ _ _ m C F1 F2 _ _ _ TW2.out TW0.out HM.out).mono ?_
  rintro e wi ⟨rfl, hb⟩
  replace HB : Hid (Below w.heap.size w wi) := HB.out.trans (hb.mono HB.out.size)
  replace HRA := Lib.hid (wrow_below HRA.out hb)
  replace TW0 := Lib.hid (TW0.out.below hb)
  replace T7 := Lib.hid (wrow_below T7.out hb)
  replace TW1 := Lib.hid (TW1.out.below hb)
  replace T9 := Lib.hid (wrow_below T9.out hb)
  replace TW2 := Lib.hid (TW2.out.below hb)
  clear hb
  clear TW2
  obtain ⟨⟨x0, x1, x2⟩, _⟩ := row3_cells T9.out
  go_wp2_with fail
  clear x0 x1 x2
  refine (HHD.out _ _ _ _ TW1.out).mono ?_
  rintro e wj ⟨rfl, hb⟩
  replace HB : Hid (Below w.heap.size w wj) := HB.out.trans (hb.mono HB.out.size)
  replace HRA := Lib.hid (wrow_below HRA.out hb)
  replace TW0 := Lib.hid (TW0.out.below hb)
  replace T7 := Lib.hid (wrow_below T7.out hb)
  replace TW1 := Lib.hid (TW1.out.below hb)
  replace T9 := Lib.hid (wrow_below T9.out hb)
  clear hb
  go_wp2_with fail
  go_ret
  exact ⟨rfl, HB.out⟩
theorem loopRun_law (w : World) (z0 z1 z2 z3 z4 z5 start : Nat) (_y : start < 18446744073709551616) (a : Option Addr) (n k : Nat) (f : Nat → Nat) (h : FlIn a n f w) (_u : n ≤ 9223372036854775807) (hg : Et w ∧ TabOk w) :
    Calls Tryd.prog 4 #[.agg #[.float .f64 z0, .float .f64 z1, .float .f64 z2, .float .f64 z3, .float .f64 z4, .float .f64 z5], .float .f64 start, .slice a n k] w fun e w' => e = .returned (.bool true) ∧ Below w.heap.size w w' :=
  loopRun_law_of w ⟨z0, z1, z2, z3, z4, z5⟩ start a n k f h hg
end Go.Proofs.YtplghjghecfeoaaDoor
