/-
  Joined: MnV3, MnV4, MnP1, MnP2, MnP6, MnPo, MnTl, MnAn, MnAnS, MnSz, MnBal, MnLw, MnP7, MnP8, MnP9, MnLow, MnP3, LwAt.
-/
import Derived.Test.YtfgmalnkpgloiaaGreatDoorMnV2
import Derived.Test.YtfgmalnkpgloiaaGreatDoorMnT3
import Derived.Test.YtfgmalnkpgloiaaGreatDoorMnRm
import Derived.Test.YtfgmalnkpgloiaaGreatDoorMnEx4
import Derived.Test.YtfgmalnkpgloiaaGreatDoorMnF
import Derived.Test.YtfgmalnkpgloiaaGreatDoorMnP5
import Derived.Test.YtfgmalnkpgloiaaGreatDoorMnAs
import Derived.Test.YtfgmalnkpgloiaaGreatDoorEt
import Derived.Test.YtfgmalnkpgloiaaGreatDoorMnOw
import Derived.Test.YtfgmalnkpgloiaaGreatDoorMnT1
import Derived.Test.YtfgmalnkpgloiaaGreatDoorSource
namespace Go.Proofs.YtfgmalnkpgloiaaGreatDoor
open Go.RowKit Go.Deep

/-- What a round tells. -/
inductive RdEnd (m : Mn.Mains) (xn : Nat) (f : Nat → Int) (B : Nat) (e : Ending) (W : World) : Prop
  | size : 400 < xn → e = .returned (moV none 0 0 none 0 0 0 0 0 2) → RdEnd m xn f B e W
  | form : xn ≤ 400 → ¬ (Mn.Right m ∧ xn = m.pn ∧ Mn.AllOk m f) → e = .returned (moV none 0 0 none 0 0 0 0 0 1) → RdEnd m xn f B e W
  | ok (a : Option Addr) (c : Nat) : xn ≤ 400 → Mn.Right m → xn = m.pn → Mn.AllOk m f → e = .returned (moV a m.pn c none 0 0 (Mn.rest m (Mn.round m f)) 0 0 0) → OwL 2 B m.pn a c (Mn.round m f) W → RdEnd m xn f B e W
/-- What stands from round to round. -/
structure RdS (m : Mn.Mains) (g : Nat) (F : Nat → Int) (w W : World) : Prop where
  now : IsBlk 2 g m.pn F W
  b : Below w.heap.size w W
theorem RdS.below {m : Mn.Mains} {g : Nat} {F : Nat → Int} {w W W' : World} (h : RdS m g F w W) (hb : Below W.heap.size W W') : RdS m g F w W' := ⟨h.now.below hb, h.b.trans (hb.mono h.b.size)⟩
set_option maxRecDepth 100000 in
set_option maxHeartbeats 16000000 in
theorem sround_any (m : Mn.Mains) (pa : Option Addr) (pk : Nat) (la : Option Addr) (lk : Nat) (wa : Option Addr) (wk : Nat) (xb xn xc : Nat) (f : Nat → Int) (w : World) (h : MnAt m pa la wa w) (hx : ∀ i, i < xn → w.cell? ⟨xb, i, none⟩ = some (.int .i64 (f i))) (hs : MnSmall m) (hxn : xn ≤ 1048576) :
    Calls Tryz.prog 18 #[mnV m pa pk la lk wa wk, .slice (some ⟨xb, 0, none⟩) xn xc] w fun e w' => RdEnd m xn f w.heap.size e w' ∧ Below w.heap.size w w' := by
  obtain ⟨i0, hi, hzz, hz1, hz2⟩ := info_parts minfo_i64
  obtain ⟨W0, hW0⟩ : ∃ W0, W0 = (w.alloc (.cells #[.int .i64 m.nodes, .int .i64 m.head, .slice pa m.pn pk, .slice la m.ln lk, .slice wa m.wn wk] 27)).alloc (.cells #[.slice none 0 0, .slice none 0 0, .int .i64 0, .int .i64 0, .int .i64 0, .int .i64 0] 31) := ⟨_, rfl⟩
  have S0 : Hid (MsS m pa pk la lk wa wk w W0) := by
    show MsS _ _ _ _ _ _ _ _ _
    rw [hW0]
    exact ⟨nrow_below (rowN_alloc w _ _) (nbel_alloc _ _), rowN_alloc' (by simp) _ _, (h.below (nbel_alloc _ _)).below (nbel_alloc _ _), mbel2 _ _ _⟩
  have HW0 := Lib.hid hW0
  have HS := Lib.hid hs
  have HX : Hid (∀ V, Below w.heap.size w V → ∀ i, i < xn → V.cell? ⟨xb, i, none⟩ = some (.int .i64 (f i))) := fun V hV i hi => (hV.cell (World.block_lt_of_cell? _ _ (hx i hi))).trans (hx i hi)
  clear h hW0 hs hx
  by_cases h400 : 400 < xn
  · have h4z : (400 : Int) < (xn : Int) := by omega
    have H4 := Lib.hid h400
    clear h400
    have D : Hid ((set6 W0 (w.heap.size + 1) (.slice none 0 0) (.slice none 0 0) (.int .i64 0) (.int .i64 0) (.int .i64 0) (.int .i64 2)).rowIs (w.heap.size + 1) 31 6 (rowN [.slice none 0 0, .slice none 0 0, .int .i64 0, .int .i64 0, .int .i64 0, .int .i64 2]) ∧ Below w.heap.size w (set6 W0 (w.heap.size + 1) (.slice none 0 0) (.slice none 0 0) (.int .i64 0) (.int .i64 0) (.int .i64 0) (.int .i64 2))) := by
      have := set6_done S0.out.res rfl S0.out.old (by omega) (.slice none 0 0) (.slice none 0 0) (.int .i64 0) (.int .i64 0) (.int .i64 0) (.int .i64 2)
      exact ⟨this.1, this.2.1⟩
    go_enter Tryz.func18, Tryz.ntmps18
    go_wp2_with fail
    refine bodyPost_ret (v := moV none 0 0 none 0 0 0 0 0 2) ?_ rfl ⟨RdEnd.size H4.out rfl, ?_⟩
    · simp [results, Tryz.results18, go_sem]
    · exact mbel2 _ _ _
  have h4z : ¬ (400 : Int) < (xn : Int) := by omega
  have H4 : Hid (xn ≤ 400) := by show _ ≤ _; omega
  clear h400
  go_enter Tryz.func18, Tryz.ntmps18
  go_wp2_with fail
  rw [← HW0.out]
  refine (specMains_any m pa pk la lk wa wk _ S0.out.at_ HS.out).mono ?_
  rintro e w1 ⟨⟨b1, rfl, hb1⟩, hb⟩
  have S1 := Lib.hid (S0.out.below hb)
  have K1 := Lib.hid hb1
  clear hb hb1 S0
  cases b1 with
  | false =>
    have HNR : Hid (¬ (Mn.Right m ∧ xn = m.pn ∧ Mn.AllOk m f)) := fun k => by have := K1.out.2 k.1; cases this
    clear K1
    have D := Lib.hid (set6_done S1.out.res rfl S1.out.old (by omega) (.slice none 0 0) (.slice none 0 0) (.int .i64 0) (.int .i64 0) (.int .i64 0) (.int .i64 1))
    obtain ⟨⟨x0, x1, x2, x3, x4, x5⟩, z0, z1, z2, z3, z4, z5⟩ := rowN6 S1.out.res
    have lx := S1.out.res.lt
    go_wp2_with fail
    obtain ⟨⟨q0, q1, q2, q3, q4, q5⟩, _⟩ := rowN6 D.out.1
    unfold set6 at q0 q1 q2 q3 q4 q5
    refine bodyPost_ret (v := moV none 0 0 none 0 0 0 0 0 1) ?_ rfl ⟨RdEnd.form H4.out HNR.out rfl, D.out.2.1⟩
    simp only [results, Tryz.results18]
    simp [go_sem, q0, q1, q2, q3, q4, q5]
  | true =>
  have HR := Lib.hid (K1.out.1 (by trivial))
  clear K1
  obtain ⟨⟨r0, r1, r2, r3, r4⟩, _⟩ := rowN5 S1.out.row
  by_cases hxp : xn = m.pn
  case neg =>
    have hxz : ((xn : Int) != (m.pn : Int)) = true := by simp; omega
    have HNR : Hid (¬ (Mn.Right m ∧ xn = m.pn ∧ Mn.AllOk m f)) := fun k => hxp k.2.1
    clear hxp
    have D := Lib.hid (set6_done S1.out.res rfl S1.out.old (by omega) (.slice none 0 0) (.slice none 0 0) (.int .i64 0) (.int .i64 0) (.int .i64 0) (.int .i64 1))
    obtain ⟨⟨x0, x1, x2, x3, x4, x5⟩, z0, z1, z2, z3, z4, z5⟩ := rowN6 S1.out.res
    have lx := S1.out.res.lt
    go_wp2_with fail
    obtain ⟨⟨q0, q1, q2, q3, q4, q5⟩, _⟩ := rowN6 D.out.1
    unfold set6 at q0 q1 q2 q3 q4 q5
    refine bodyPost_ret (v := moV none 0 0 none 0 0 0 0 0 1) ?_ rfl ⟨RdEnd.form H4.out HNR.out rfl, D.out.2.1⟩
    simp only [results, Tryz.results18]
    simp [go_sem, q0, q1, q2, q3, q4, q5]
  case pos =>
  subst hxp
  have hxz : ((m.pn : Int) != (m.pn : Int)) = false := by simp
  go_wp2_with fail
  refine (swrong_any m pa pk la lk wa wk (some ⟨xb, 0, none⟩) xc f _ S1.out.at_ (Or.inr ⟨xb, rfl, HX.out _ S1.out.old⟩) HR.out).mono ?_
  rintro e w2 ⟨⟨z, rfl, hwr⟩, hb⟩
  have HWR := Lib.hid hwr
  obtain ⟨hzb1, hzb2⟩ := hwr.pos HR.out.pn
  have S2 := Lib.hid (S1.out.below hb)
  clear hwr hb S1 r0 r1 r2 r3 r4 hxz
  by_cases hz0 : 0 ≤ z
  · have HNR : Hid (¬ Mn.AllOk m f) := fun k => by
      rcases HWR.out with ⟨i, h1, _, h3, _⟩ | ⟨h1, _⟩
      · exact h3 (k i h1)
      · omega
    have D := Lib.hid (set6_done S2.out.res rfl S2.out.old (by omega) (.slice none 0 0) (.slice none 0 0) (.int .i64 0) (.int .i64 0) (.int .i64 0) (.int .i64 1))
    obtain ⟨⟨x0, x1, x2, x3, x4, x5⟩, z0, z1, z2, z3, z4, z5⟩ := rowN6 S2.out.res
    have lx := S2.out.res.lt
    go_wp2_with fail
    obtain ⟨⟨q0, q1, q2, q3, q4, q5⟩, _⟩ := rowN6 D.out.1
    unfold set6 at q0 q1 q2 q3 q4 q5
    refine bodyPost_ret (v := moV none 0 0 none 0 0 0 0 0 1) ?_ rfl ⟨RdEnd.form H4.out (fun k => HNR.out k.2.2) rfl, D.out.2.1⟩
    simp only [results, Tryz.results18]
    simp [go_sem, q0, q1, q2, q3, q4, q5]
  have HO : Hid (Mn.AllOk m f) := by
    rcases HWR.out with ⟨i, _, h2, _⟩ | ⟨_, h2⟩
    · omega
    · exact h2
  have hpn := HR.out.pn
  have hln := HR.out.ln
  have HXC : Hid (∀ j, j < m.pn → w2.cell? ⟨xb, j, none⟩ = some (.int .i64 (f j))) := HX.out _ S2.out.old
  clear HWR hzb1 hzb2
  go_wp2_with (at_builtin; refine wpList_append_own _ rfl _ _ 25 rfl w2.heap.size 2 i0 (.int .i64 0) 1 8 Tryz.underlying25 hi hzz hz1 hz2 rfl (by decide) _ _ _ rfl (World.ownsRow_made w2 #[] 0 (Nat.le_refl _) (Nat.zero_le _) rfl) ⟨xb, 0, none⟩ m.pn xc (isV f m.pn) rfl ?qc1 ?qc2 ?qc3 ?qc4 ?qc5 ?qc6 ?_)
  case qc1 => simp [isV_len]
  case qc2 =>
    intro j u hj
    have hjn : j < m.pn := by
      have := (List.getElem?_eq_some_iff.1 hj).1
      simpa [isV_len] using this
    rw [Addr.add_lit]
    refine Lib.cell?_alloc_some _ ?_
    rw [Nat.zero_add, HXC.out j hjn, ← hj, isV_get f m.pn hjn]
  case qc3 =>
    intro u hu
    unfold isV at hu
    obtain ⟨x, _, rfl⟩ := List.mem_map.1 hu
    rfl
  case qc4 => unfold maxLen; omega
  case qc5 => omega
  case qc6 => simp
  intro v' w3 hown hgrow hnil
  have HB : Hid (Below w2.heap.size w2 w3) := ((Below.refl _ _).alloc (Nat.le_refl _) _).grown hgrow (by simp) (by intro k hk; simp [Value.ownBlock] at hk; omega)
  have hown' : w3.ownsRow w2.heap.size 2 1 v' m.pn (isV f m.pn) := by simpa using hown
  obtain ⟨a2, nc, rfl, ho2⟩ := owl_of hown'
  have ST : Hid (OwL 2 w2.heap.size m.pn a2 nc (Mn.roundTo m f 0) w3 ∧ Below w2.heap.size w2 w3) := ⟨ho2, HB.out⟩
  clear hown hown' hgrow hnil HB ho2 HXC
  go_wp2_with fail
  go_loopw [6] (fun iv wr => ∃ (i : Nat), i ≤ m.ln ∧ iv = .int .i64 i ∧ Hid (OwL 2 w2.heap.size m.pn a2 nc (Mn.roundTo m f i) wr ∧ Below w2.heap.size w2 wr)) (fun iv _ => m.ln - (intOf iv).toNat)
  case atStart => exact ⟨0, Nat.zero_le _, rfl, ST⟩
  case round =>
    obtain ⟨i, hil, rfl, hS⟩ := hrel
    clear ST
    have SW := Lib.hid (S2.out.below hS.out.2)
    obtain ⟨⟨r0, r1, r2, r3, r4⟩, _⟩ := rowN5 SW.out.row
    by_cases hlt : i < m.ln
    · have hltz : (i : Int) < (m.ln : Int) := by omega
      have LO := Lib.hid (HR.out.l i hlt)
      have hp0 : 0 < m.pn := by have := (LO.out.num 0 LO.out.n1).lt; omega
      obtain ⟨g, rfl, hg, hnow⟩ := hS.out.1.pos hp0
      obtain ⟨F, hF⟩ : ∃ F, F = Mn.roundTo m f i := ⟨_, rfl⟩
      have HF := Lib.hid hF
      have S3 : Hid (RdS m g F w2 wr) := ⟨by rw [hF]; exact hnow, hS.out.2⟩
      have HOF : Hid (Mn.AllOk m F) := by show Mn.AllOk _ _; rw [hF]; exact Mn.roundTo_ok HR.out HO.out i hil
      obtain ⟨lb, e, xa, xc2, dl, kx⟩ := SW.out.at_.l.one hlt
      subst e
      have KX : Hid (∀ V, Below w2.heap.size w2 V → IsAt xa (m.LN i) (m.L i) V) := by
        obtain ⟨lb', e', xa', xc', dl', kx'⟩ := S2.out.at_.l.one hlt
        cases e'
        have := (hS.out.2.cell (World.block_lt_of_cell? _ _ dl')).trans dl'
        rw [this] at dl
        cases dl
        exact fun V hV => kx'.below hV
      have HSS := Lib.hid (sum_small HR.out HOF.out hlt)
      clear kx hnow hF hS
      go_wp2_with fail
      clear dl
      refine (ssum_any m pa pk _ lk wa wk (some ⟨g, 0, none⟩) nc F xa (m.LN i) xc2 (m.L i) _ SW.out.at_ S3.out.now.at_ (KX.out _ S3.out.b) HR.out HOF.out LO.out.num LO.out.n2).mono ?_
      rintro e w4 ⟨rfl, hb⟩
      have S4 := Lib.hid (S3.out.below hb)
      clear hb S3 SW r0 r1 r2 r3 r4
      obtain ⟨n, hn⟩ : ∃ n, n = m.LN i := ⟨_, rfl⟩
      obtain ⟨L, hL⟩ : ∃ L, L = m.L i := ⟨_, rfl⟩
      rw [← hn, ← hL] at LO HSS KX ⊢
      have HNL : Hid (n = m.LN i ∧ L = m.L i) := ⟨hn, hL⟩
      obtain ⟨SU, hSU⟩ : ∃ SU, SU = Mn.sumTo m F L n := ⟨_, rfl⟩
      obtain ⟨WT, hWT⟩ : ∃ WT, WT = Mn.wtTo m F L n := ⟨_, rfl⟩
      rw [← hSU, ← hWT] at HSS ⊢
      have HSW : Hid (SU = Mn.sumTo m F L n ∧ WT = Mn.wtTo m F L n) := ⟨hSU, hWT⟩
      have ss := HSS.out
      obtain ⟨⟨ss1, ss2⟩, ss3, ss4⟩ := ss
      have hn40 : n ≤ 40 := LO.out.n2
      clear hn hL hSU hWT
      by_cases hw0 : WT = 0
      · have hw0' : (WT == 0) = true := by simp [hw0]
        have HRT : Hid (Mn.roundTo m f (i + 1) = F) := by
          show Mn.loopR m (Mn.roundTo m f i) (m.L i) (m.LN i) = F
          rw [← HF.out, ← HNL.out.1, ← HNL.out.2]
          unfold Mn.loopR Mn.chg
          rw [← HSW.out.2, if_pos hw0, Mn.ap_zero]
        clear hw0
        go_wp2_with fail
        go_roundw
        case rel => exact ⟨i + 1, by omega, by go_num, by rw [HRT.out]; exact Or.inr ⟨g, rfl, hg, S4.out.now⟩, S4.out.b⟩
        case measure => simp [intOf]; omega
      · have hw0' : (WT == 0) = false := by simp [hw0]
        have hw0n : ¬ WT = 0 := hw0
        obtain ⟨c0, hc0⟩ : ∃ c0, c0 = (-SU).tdiv WT := ⟨_, rfl⟩
        have hcb : -50000000000000000 ≤ c0 ∧ c0 ≤ 50000000000000000 := by
          have h1 := Int.natAbs_tdiv_le_natAbs (-SU) WT
          rw [← hc0] at h1
          omega
        have HC0 : Hid ((-SU).tdiv WT = c0) := hc0.symm
        have HRT : Hid (Mn.roundTo m f (i + 1) = Mn.apTo L (Mn.chTo m F L c0 n) F n) := by
          show Mn.loopR m (Mn.roundTo m f i) (m.L i) (m.LN i) = _
          rw [← HF.out, ← HNL.out.1, ← HNL.out.2]
          unfold Mn.loopR Mn.chg
          rw [← HSW.out.2, if_neg hw0n, ← HSW.out.1, HC0.out]
        clear hw0 hc0
        have hq1 : (-SU).tdiv WT = c0 := HC0.out
        go_wp2_with fail
        clear hq1
        go_loopw [10, 11] (fun cv kv wq => ∃ (k : Nat), k ≤ n ∧ cv = .int .i64 (Mn.chTo m F L c0 k) ∧ kv = .int .i64 k ∧ Hid (RdS m g F w2 wq)) (fun _ kv _ => n - (intOf kv).toNat)
        case atStart => exact ⟨0, Nat.zero_le _, rfl, rfl, S4⟩
        case round =>
          obtain ⟨k, hk, rfl, rfl, S5⟩ := hrel
          clear S4
          by_cases hlt2 : k < n
          · have hltz2 : (k : Int) < (n : Int) := by omega
            obtain ⟨xb2, e, dx⟩ := (KX.out _ S5.out.b).at1 hlt2
            subst e
            have nk := LO.out.num k hlt2
            obtain ⟨pp, hpe⟩ : ∃ pp, pp = Mn.place (L k) := ⟨_, rfl⟩
            have hpp : pp < m.pn := by rw [hpe]; exact nk.lt
            have hppz : ((pp : Nat) : Int) < (m.pn : Int) := by omega
            have HPP := Lib.hid (HR.out.p pp hpp)
            have fbd := Mn.okF_bd HPP.out (HOF.out pp hpp)
            have lh := Mn.lohi HPP.out
            have HQ1 : Hid (IntKind.i64.wrap (Mn.hi m pp - F pp) = Mn.hi m pp - F pp) := mwrap_id (by omega) (by omega)
            have HQ2 : Hid (IntKind.i64.wrap (Mn.lo m pp - F pp) = Mn.lo m pp - F pp) := mwrap_id (by omega) (by omega)
            have HQ3 : Hid (IntKind.i64.wrap (F pp - Mn.lo m pp) = F pp - Mn.lo m pp) := mwrap_id (by omega) (by omega)
            have HQ4 : Hid (IntKind.i64.wrap (F pp - Mn.hi m pp) = F pp - Mn.hi m pp) := mwrap_id (by omega) (by omega)
            obtain ⟨CV, hCV⟩ : ∃ CV, CV = Mn.chTo m F L c0 k := ⟨_, rfl⟩
            have HCH : Hid (Mn.chTo m F L c0 (k + 1) = Mn.clampI CV (Mn.loK m F (L k)) (Mn.hiK m F (L k))) := by show _ = _; rw [hCV]; rfl
            rw [← hCV]
            have SV := Lib.hid (S2.out.below S5.out.b)
            obtain ⟨⟨r0, r1, r2, r3, r4⟩, _⟩ := rowN5 SV.out.row
            obtain ⟨pb, ep, d0, d1, d2, d3, d4⟩ := SV.out.at_.p.at5 hpp
            subst ep
            have NK := Lib.hid nk
            have HPE := Lib.hid hpe
            have HPN := Lib.hid hpn
            clear fbd lh nk hpe hCV
            go_wp2_with fail
            refine (splace_any (L k) _ NK.out.1 (by have := NK.out.2; have := HPN.out; omega) (by have := NK.out.2; have := HPN.out; omega)).mono ?_
            rintro e w3 ⟨rfl, e3⟩
            subst w3
            rw [← HPE.out]
            go_wp2_with fail
            refine (srange_any m pp HPP.out _).mono ?_
            rintro e w4 ⟨rfl, hb⟩
            have S8 := Lib.hid (S5.out.below hb)
            have DN : Hid (w4.cell? ⟨g, pp, none⟩ = some (.int .i64 (F pp))) := S8.out.now.cell hpp
            clear hb S5 SV r0 r1 r2 r3 r4 d0 d1 d2 d3 d4 dx
            obtain ⟨xb3, e3, dx⟩ := (KX.out _ S8.out.b).at1 hlt2
            cases e3
            by_cases hzp : 0 < L k
            · have HKE : Hid (Mn.chTo m F L c0 (k + 1) = max (min CV (Mn.hi m pp - F pp)) (Mn.lo m pp - F pp)) := by
                show _ = _
                rw [HCH.out, HPE.out]
                unfold Mn.clampI Mn.loK Mn.hiK
                rw [if_neg (by omega), if_neg (by omega)]
              go_wp2_with fail
              clear dx
              refine wp_region_held_drew (S := fun V => Below w4.heap.size w4 V) (by kernel_rfl) (Below.refl _ _).drew (fun hHeld => ?_)
              obtain ⟨Z, hZ⟩ : ∃ Z, Z = w4.drew := ⟨_, rfl⟩
              rw [← hZ] at hHeld ⊢
              clear hZ
              refine take_do (i := 0) (v := (.int .i64 CV)) rfl (by kernel_rfl) (by kernel_rfl) (by kernel_rfl) (fun _ _ _ h => h) (by rfl) ?_ (by assumption) ?_
              · intro w hSw
                skip
                go_simp
              simp only [Act.put, List.setIfInBounds_toArray, List.set_cons_zero, List.set_cons_succ]
              refine take_do (i := 1) (v := (.int .i64 (Mn.hi m pp))) rfl (by kernel_rfl) (by kernel_rfl) (by kernel_rfl) (fun _ _ _ h => h) (by rfl) ?_ (by assumption) ?_
              · intro w hSw
                skip
                go_simp
              simp only [Act.put, List.setIfInBounds_toArray, List.set_cons_zero, List.set_cons_succ]
              refine take_do (i := 2) (v := (.slice (some ⟨g, 0, none⟩) m.pn nc)) rfl (by kernel_rfl) (by kernel_rfl) (by kernel_rfl) (fun _ _ _ h => h) (by rfl) ?_ (by assumption) ?_
              · intro w hSw
                skip
                go_simp
              simp only [Act.put, List.setIfInBounds_toArray, List.set_cons_zero, List.set_cons_succ]
              refine take_do (i := 3) (v := (.int .i64 ((pp : Nat) : Int))) rfl (by kernel_rfl) (by kernel_rfl) (by kernel_rfl) (fun _ _ _ h => h) (by rfl) ?_ (by assumption) ?_
              · intro w hSw
                skip
                go_simp
              simp only [Act.put, List.setIfInBounds_toArray, List.set_cons_zero, List.set_cons_succ]
              refine take_do (i := 4) (v := (.pointer (some ⟨g, pp, none⟩))) rfl (by kernel_rfl) (by kernel_rfl) (by kernel_rfl) (fun _ _ _ h => h) (by rfl) ?_ (by assumption) ?_
              · intro w hSw
                skip
                go_simp
              simp only [Act.put, List.setIfInBounds_toArray, List.set_cons_zero, List.set_cons_succ]
              refine take_do (i := 5) (v := (.int .i64 (F pp))) rfl (by kernel_rfl) (by kernel_rfl) (by kernel_rfl) (fun _ _ _ h => h) (by rfl) ?_ (by assumption) ?_
              · intro w hSw
                have dn := (hSw.cell (World.block_lt_of_cell? _ _ DN.out)).trans DN.out
                go_simp
              simp only [Act.put, List.setIfInBounds_toArray, List.set_cons_zero, List.set_cons_succ]
              refine take_do (i := 6) (v := (.int .i64 (Mn.hi m pp - F pp))) rfl (by kernel_rfl) (by kernel_rfl) (by kernel_rfl) (fun _ _ _ h => h) (by rfl) ?_ (by assumption) ?_
              · intro w hSw
                have hq := HQ1.out
                go_simp
              simp only [Act.put, List.setIfInBounds_toArray, List.set_cons_zero, List.set_cons_succ]
              refine take_do (i := 8) (v := (.int .i64 (Mn.lo m pp))) rfl (by kernel_rfl) (by kernel_rfl) (by kernel_rfl) (fun _ _ _ h => h) (by rfl) ?_ (by assumption) ?_
              · intro w hSw
                skip
                go_simp
              simp only [Act.put, List.setIfInBounds_toArray, List.set_cons_zero, List.set_cons_succ]
              refine take_do (i := 9) (v := (.slice (some ⟨g, 0, none⟩) m.pn nc)) rfl (by kernel_rfl) (by kernel_rfl) (by kernel_rfl) (fun _ _ _ h => h) (by rfl) ?_ (by assumption) ?_
              · intro w hSw
                skip
                go_simp
              simp only [Act.put, List.setIfInBounds_toArray, List.set_cons_zero, List.set_cons_succ]
              refine take_do (i := 10) (v := (.int .i64 ((pp : Nat) : Int))) rfl (by kernel_rfl) (by kernel_rfl) (by kernel_rfl) (fun _ _ _ h => h) (by rfl) ?_ (by assumption) ?_
              · intro w hSw
                skip
                go_simp
              simp only [Act.put, List.setIfInBounds_toArray, List.set_cons_zero, List.set_cons_succ]
              refine take_do (i := 11) (v := (.pointer (some ⟨g, pp, none⟩))) rfl (by kernel_rfl) (by kernel_rfl) (by kernel_rfl) (fun _ _ _ h => h) (by rfl) ?_ (by assumption) ?_
              · intro w hSw
                skip
                go_simp
              simp only [Act.put, List.setIfInBounds_toArray, List.set_cons_zero, List.set_cons_succ]
              refine take_do (i := 12) (v := (.int .i64 (F pp))) rfl (by kernel_rfl) (by kernel_rfl) (by kernel_rfl) (fun _ _ _ h => h) (by rfl) ?_ (by assumption) ?_
              · intro w hSw
                have dn := (hSw.cell (World.block_lt_of_cell? _ _ DN.out)).trans DN.out
                go_simp
              simp only [Act.put, List.setIfInBounds_toArray, List.set_cons_zero, List.set_cons_succ]
              refine take_do (i := 13) (v := (.int .i64 (Mn.lo m pp - F pp))) rfl (by kernel_rfl) (by kernel_rfl) (by kernel_rfl) (fun _ _ _ h => h) (by rfl) ?_ (by assumption) ?_
              · intro w hSw
                have hq := HQ2.out
                go_simp
              simp only [Act.put, List.setIfInBounds_toArray, List.set_cons_zero, List.set_cons_succ]
              refine take_call (i := 7) rfl (by kernel_rfl) (fun K2 hK => ?_)
              go_simp
              refine (smin_any CV (Mn.hi m pp - F pp) _).mono ?_
              rintro e w5 ⟨rfl, rfl⟩
              go_wp2_with fail
              refine hK.out _ _ hHeld (fun hHeld2 => ?_)
              clear hK hHeld
              have hHeld := hHeld2
              clear hHeld2
              refine take_call (i := 14) rfl (by kernel_rfl) (fun K2 hK => ?_)
              go_simp
              refine (smax_any (min CV (Mn.hi m pp - F pp)) (Mn.lo m pp - F pp) _).mono ?_
              rintro e w6 ⟨rfl, rfl⟩
              go_wp2_with fail
              refine hK.out _ _ hHeld (fun hHeld2 => ?_)
              clear hK hHeld
              have hHeld := hHeld2
              clear hHeld2
              refine take_do (i := 15) (v := (.int .i64 (max (min CV (Mn.hi m pp - F pp)) (Mn.lo m pp - F pp)))) rfl (by kernel_rfl) (by kernel_rfl) (by kernel_rfl) (fun _ _ _ h => h) (by rfl) ?_ (by assumption) ?_
              · intro w hSw
                skip
                go_simp
              simp only [Act.put, List.setIfInBounds_toArray, List.set_cons_zero, List.set_cons_succ]
              refine wpAnyH_done (by kernel_rfl) ?_ _
              have S9 := Lib.hid (S8.out.below hHeld)
              clear hHeld
              obtain ⟨C2, hC2⟩ : ∃ C2, C2 = max (min CV (Mn.hi m pp - F pp)) (Mn.lo m pp - F pp) := ⟨_, rfl⟩
              rw [← hC2] at HKE ⊢
              clear hC2
              go_wp2_with fail
              go_roundw
              case rel => exact ⟨k + 1, by omega, by rw [HKE.out], by go_num, S9⟩
              case measure => simp [intOf]; omega
            · have HKE : Hid (Mn.chTo m F L c0 (k + 1) = max (min CV (F pp - Mn.lo m pp)) (F pp - Mn.hi m pp)) := by
                show _ = _
                have hzn : L k < 0 := by have := NK.out.1; omega
                rw [HCH.out, HPE.out]
                unfold Mn.clampI Mn.loK Mn.hiK
                rw [if_pos hzn, if_pos hzn]
              go_wp2_with fail
              clear dx
              refine wp_region_held_drew (S := fun V => Below w4.heap.size w4 V) (by kernel_rfl) (Below.refl _ _).drew (fun hHeld => ?_)
              obtain ⟨Z, hZ⟩ : ∃ Z, Z = w4.drew := ⟨_, rfl⟩
              rw [← hZ] at hHeld ⊢
              clear hZ
              refine take_do (i := 0) (v := (.int .i64 CV)) rfl (by kernel_rfl) (by kernel_rfl) (by kernel_rfl) (fun _ _ _ h => h) (by rfl) ?_ (by assumption) ?_
              · intro w hSw
                skip
                go_simp
              simp only [Act.put, List.setIfInBounds_toArray, List.set_cons_zero, List.set_cons_succ]
              refine take_do (i := 1) (v := (.slice (some ⟨g, 0, none⟩) m.pn nc)) rfl (by kernel_rfl) (by kernel_rfl) (by kernel_rfl) (fun _ _ _ h => h) (by rfl) ?_ (by assumption) ?_
              · intro w hSw
                skip
                go_simp
              simp only [Act.put, List.setIfInBounds_toArray, List.set_cons_zero, List.set_cons_succ]
              refine take_do (i := 2) (v := (.int .i64 ((pp : Nat) : Int))) rfl (by kernel_rfl) (by kernel_rfl) (by kernel_rfl) (fun _ _ _ h => h) (by rfl) ?_ (by assumption) ?_
              · intro w hSw
                skip
                go_simp
              simp only [Act.put, List.setIfInBounds_toArray, List.set_cons_zero, List.set_cons_succ]
              refine take_do (i := 3) (v := (.pointer (some ⟨g, pp, none⟩))) rfl (by kernel_rfl) (by kernel_rfl) (by kernel_rfl) (fun _ _ _ h => h) (by rfl) ?_ (by assumption) ?_
              · intro w hSw
                skip
                go_simp
              simp only [Act.put, List.setIfInBounds_toArray, List.set_cons_zero, List.set_cons_succ]
              refine take_do (i := 4) (v := (.int .i64 (F pp))) rfl (by kernel_rfl) (by kernel_rfl) (by kernel_rfl) (fun _ _ _ h => h) (by rfl) ?_ (by assumption) ?_
              · intro w hSw
                have dn := (hSw.cell (World.block_lt_of_cell? _ _ DN.out)).trans DN.out
                go_simp
              simp only [Act.put, List.setIfInBounds_toArray, List.set_cons_zero, List.set_cons_succ]
              refine take_do (i := 5) (v := (.int .i64 (Mn.lo m pp))) rfl (by kernel_rfl) (by kernel_rfl) (by kernel_rfl) (fun _ _ _ h => h) (by rfl) ?_ (by assumption) ?_
              · intro w hSw
                skip
                go_simp
              simp only [Act.put, List.setIfInBounds_toArray, List.set_cons_zero, List.set_cons_succ]
              refine take_do (i := 6) (v := (.int .i64 (F pp - Mn.lo m pp))) rfl (by kernel_rfl) (by kernel_rfl) (by kernel_rfl) (fun _ _ _ h => h) (by rfl) ?_ (by assumption) ?_
              · intro w hSw
                have hq := HQ3.out
                go_simp
              simp only [Act.put, List.setIfInBounds_toArray, List.set_cons_zero, List.set_cons_succ]
              refine take_do (i := 8) (v := (.slice (some ⟨g, 0, none⟩) m.pn nc)) rfl (by kernel_rfl) (by kernel_rfl) (by kernel_rfl) (fun _ _ _ h => h) (by rfl) ?_ (by assumption) ?_
              · intro w hSw
                skip
                go_simp
              simp only [Act.put, List.setIfInBounds_toArray, List.set_cons_zero, List.set_cons_succ]
              refine take_do (i := 9) (v := (.int .i64 ((pp : Nat) : Int))) rfl (by kernel_rfl) (by kernel_rfl) (by kernel_rfl) (fun _ _ _ h => h) (by rfl) ?_ (by assumption) ?_
              · intro w hSw
                skip
                go_simp
              simp only [Act.put, List.setIfInBounds_toArray, List.set_cons_zero, List.set_cons_succ]
              refine take_do (i := 10) (v := (.pointer (some ⟨g, pp, none⟩))) rfl (by kernel_rfl) (by kernel_rfl) (by kernel_rfl) (fun _ _ _ h => h) (by rfl) ?_ (by assumption) ?_
              · intro w hSw
                skip
                go_simp
              simp only [Act.put, List.setIfInBounds_toArray, List.set_cons_zero, List.set_cons_succ]
              refine take_do (i := 11) (v := (.int .i64 (F pp))) rfl (by kernel_rfl) (by kernel_rfl) (by kernel_rfl) (fun _ _ _ h => h) (by rfl) ?_ (by assumption) ?_
              · intro w hSw
                have dn := (hSw.cell (World.block_lt_of_cell? _ _ DN.out)).trans DN.out
                go_simp
              simp only [Act.put, List.setIfInBounds_toArray, List.set_cons_zero, List.set_cons_succ]
              refine take_do (i := 12) (v := (.int .i64 (Mn.hi m pp))) rfl (by kernel_rfl) (by kernel_rfl) (by kernel_rfl) (fun _ _ _ h => h) (by rfl) ?_ (by assumption) ?_
              · intro w hSw
                skip
                go_simp
              simp only [Act.put, List.setIfInBounds_toArray, List.set_cons_zero, List.set_cons_succ]
              refine take_do (i := 13) (v := (.int .i64 (F pp - Mn.hi m pp))) rfl (by kernel_rfl) (by kernel_rfl) (by kernel_rfl) (fun _ _ _ h => h) (by rfl) ?_ (by assumption) ?_
              · intro w hSw
                have hq := HQ4.out
                go_simp
              simp only [Act.put, List.setIfInBounds_toArray, List.set_cons_zero, List.set_cons_succ]
              refine take_call (i := 7) rfl (by kernel_rfl) (fun K2 hK => ?_)
              go_simp
              refine (smin_any CV (F pp - Mn.lo m pp) _).mono ?_
              rintro e w5 ⟨rfl, rfl⟩
              go_wp2_with fail
              refine hK.out _ _ hHeld (fun hHeld2 => ?_)
              clear hK hHeld
              have hHeld := hHeld2
              clear hHeld2
              refine take_call (i := 14) rfl (by kernel_rfl) (fun K2 hK => ?_)
              go_simp
              refine (smax_any (min CV (F pp - Mn.lo m pp)) (F pp - Mn.hi m pp) _).mono ?_
              rintro e w6 ⟨rfl, rfl⟩
              go_wp2_with fail
              refine hK.out _ _ hHeld (fun hHeld2 => ?_)
              clear hK hHeld
              have hHeld := hHeld2
              clear hHeld2
              refine take_do (i := 15) (v := (.int .i64 (max (min CV (F pp - Mn.lo m pp)) (F pp - Mn.hi m pp)))) rfl (by kernel_rfl) (by kernel_rfl) (by kernel_rfl) (fun _ _ _ h => h) (by rfl) ?_ (by assumption) ?_
              · intro w hSw
                skip
                go_simp
              simp only [Act.put, List.setIfInBounds_toArray, List.set_cons_zero, List.set_cons_succ]
              refine wpAnyH_done (by kernel_rfl) ?_ _
              have S9 := Lib.hid (S8.out.below hHeld)
              clear hHeld
              obtain ⟨C2, hC2⟩ : ∃ C2, C2 = max (min CV (F pp - Mn.lo m pp)) (F pp - Mn.hi m pp) := ⟨_, rfl⟩
              rw [← hC2] at HKE ⊢
              clear hC2
              go_wp2_with fail
              go_roundw
              case rel => exact ⟨k + 1, by omega, by rw [HKE.out], by go_num, S9⟩
              case measure => simp [intOf]; omega
          · have hkz : ¬ (k : Int) < (n : Int) := by omega
            obtain ⟨CH, hCH⟩ : ∃ CH, CH = Mn.chTo m F L c0 k := ⟨_, rfl⟩
            have HCN : Hid (CH = Mn.chTo m F L c0 n) := by show _ = _; rw [hCH, show k = n by omega]
            have HCB : Hid (∀ j, j < n → Mn.loK m F (L j) ≤ CH ∧ CH ≤ Mn.hiK m F (L j)) := by
              show ∀ _, _
              rw [HCN.out]
              exact Mn.ch_in HR.out HOF.out c0 n LO.out.num
            rw [← hCH]
            clear hCH
            go_wp2_with fail
            go_loopw [15] (fun kv wq => ∃ (k3 : Nat), k3 ≤ n ∧ kv = .int .i64 k3 ∧ Hid (RdS m g (Mn.apTo L CH F k3) w2 wq)) (fun kv _ => n - (intOf kv).toNat)
            case atStart => exact ⟨0, Nat.zero_le _, rfl, S5⟩
            case round =>
              obtain ⟨k3, hk3, rfl, S6⟩ := hrel
              clear S5
              by_cases hlt3 : k3 < n
              · have hltz3 : (k3 : Int) < (n : Int) := by omega
                obtain ⟨xb2, e, dx⟩ := (KX.out _ S6.out.b).at1 hlt3
                subst e
                have nk := LO.out.num k3 hlt3
                obtain ⟨pp, hpe⟩ : ∃ pp, pp = Mn.place (L k3) := ⟨_, rfl⟩
                have hpp : pp < m.pn := by rw [hpe]; exact nk.lt
                have hppz : ((pp : Nat) : Int) < (m.pn : Int) := by omega
                have fbd := Mn.okF_bd (HR.out.p pp hpp) (HOF.out pp hpp)
                have kb := Mn.k_bd HR.out HOF.out nk
                have cb := HCB.out k3 hlt3
                have ev : Mn.apTo L CH F k3 pp = F pp := Mn.ap_other k3 (fun j hj => by rw [hpe]; exact LO.out.one k3 hlt3 j hj)
                have HG : Hid (Mn.apTo L CH F (k3 + 1) = updI (Mn.apTo L CH F k3) pp (F pp + Mn.sg (L k3) CH)) := by
                  show _ = _
                  rw [← ev, hpe]
                  rfl
                have dn := S6.out.now.cell hpp
                rw [ev] at dn
                have zn := S6.out.now.frozen pp
                have ln := S6.out.now.lt
                have NK := Lib.hid nk
                have HPE := Lib.hid hpe
                have HPN := Lib.hid hpn
                have HE1 := Lib.hid fbd
                have cb1 : -200000 ≤ CH := by omega
                have cb2 : CH ≤ 200000 := by omega
                have fb1 := fbd.1
                have fb2 := fbd.2
                clear fbd nk hpe kb cb ev
                go_wp2_with fail
                refine (splace_any (L k3) _ NK.out.1 (by have := NK.out.2; have := HPN.out; omega) (by have := NK.out.2; have := HPN.out; omega)).mono ?_
                rintro e w3 ⟨rfl, e3⟩
                subst w3
                rw [← HPE.out]
                by_cases hzp : 0 < L k3
                · have HK : Hid (Mn.apTo L CH F (k3 + 1) = updI (Mn.apTo L CH F k3) pp (F pp + CH)) := by
                    show _ = _
                    rw [HG.out]
                    unfold Mn.sg
                    rw [if_neg (by omega)]
                  go_wp2_with fail
                  go_roundw
                  case rel => exact ⟨k3 + 1, by omega, by go_num, by rw [HK.out]; exact S6.out.now.set pp _, S6.out.b.setCell (p := ⟨g, pp, none⟩) hg _⟩
                  case measure => simp [intOf]; omega
                · have HK : Hid (Mn.apTo L CH F (k3 + 1) = updI (Mn.apTo L CH F k3) pp (F pp - CH)) := by
                    show _ = _
                    have hzn : L k3 < 0 := by have := NK.out.1; omega
                    rw [HG.out]
                    unfold Mn.sg
                    rw [if_pos hzn]
                    rfl
                  go_wp2_with fail
                  go_roundw
                  case rel => exact ⟨k3 + 1, by omega, by go_num, by rw [HK.out]; exact S6.out.now.set pp _, S6.out.b.setCell (p := ⟨g, pp, none⟩) hg _⟩
                  case measure => simp [intOf]; omega
              · have hkz3 : ¬ (k3 : Int) < (n : Int) := by omega
                have HRE : Hid (Mn.roundTo m f (i + 1) = Mn.apTo L CH F k3) := by show _ = _; rw [HRT.out, ← HCN.out, show k3 = n by omega]
                go_wp2_with fail
                go_roundw
                case rel => exact ⟨i + 1, by omega, by go_num, by rw [HRE.out]; exact Or.inr ⟨g, rfl, hg, S6.out.now⟩, S6.out.b⟩
                case measure => simp [intOf]; omega
    · obtain rfl : i = m.ln := by omega
      go_wp2_with fail
      refine (srest_any m pa pk la lk wa wk a2 nc (Mn.round m f) _ SW.out.at_ hS.out.1.at_ HR.out (Mn.roundTo_ok HR.out HO.out _ (Nat.le_refl _))).mono ?_
      rintro e w9 ⟨rfl, hb⟩
      have S9 := Lib.hid (SW.out.below hb)
      have N9 : Hid (OwL 2 w2.heap.size m.pn a2 nc (Mn.round m f) w9) := hS.out.1.below hb
      have L2 : Hid (w.heap.size + 1 < w2.heap.size) := S2.out.res.lt
      have D := Lib.hid (set6_done S9.out.res rfl S9.out.old (by omega) (.slice a2 m.pn nc) (.slice none 0 0) (.int .i64 (Mn.rest m (Mn.round m f))) (.int .i64 0) (.int .i64 0) (.int .i64 0))
      obtain ⟨⟨x0, x1, x2, x3, x4, x5⟩, z0, z1, z2, z3, z4, z5⟩ := rowN6 S9.out.res
      have lx := S9.out.res.lt
      clear hb hS SW r0 r1 r2 r3 r4
      go_wp2_with fail
      obtain ⟨⟨q0, q1, q2, q3, q4, q5⟩, _⟩ := rowN6 D.out.1
      unfold set6 at q0 q1 q2 q3 q4 q5
      have l2 := L2.out
      refine bodyPost_ret (v := moV a2 m.pn nc none 0 0 (Mn.rest m (Mn.round m f)) 0 0 0) ?_ rfl ⟨RdEnd.ok a2 nc H4.out HR.out rfl HO.out rfl ((N9.out.keep (fun k e hk => D.out.2.2 k (by have := (N9.out.lt e).1; omega))).low (by omega)), D.out.2.1⟩
      simp only [results, Tryz.results18]
      simp [go_sem, q0, q1, q2, q3, q4, q5]
end Go.Proofs.YtfgmalnkpgloiaaGreatDoor
namespace Go.Proofs.YtfgmalnkpgloiaaGreatDoor
open Go.RowKit Go.Deep

namespace Mn
theorem cnt_all {s : Nat → Bool} : ∀ n, (∀ j, j < n → s j = true) → cnt s n = n
  | 0, _ => rfl
  | n + 1, h => by
    have := cnt_all n (fun j hj => h j (by omega))
    simp only [cnt, this, h n (by omega), if_true]
/-- Where all nodes are in, the tree has a branch for each but the first. -/
theorem fin_len {m : Mains} (hr : Right m) (ho : OutAt (fin m).1 (Mn.nn m) (-1)) : (fin m).2.length + 1 = Mn.nn m := by
  have key : ∀ t, ∃ k, Real m k ∧ iter m t = iter m k := by
    intro t
    induction t with
    | zero => exact ⟨0, fun k hk => absurd hk (Nat.not_lt_zero _), rfl⟩
    | succ t ih =>
      obtain ⟨k, h2, h3⟩ := ih
      cases e : nextP m (iter m k).1 with
      | none =>
        refine ⟨k, h2, ?_⟩
        show stepT m (iter m t) = _
        rw [h3]; simp [stepT, e]
      | some i =>
        refine ⟨k + 1, real_succ h2 e, ?_⟩
        show stepT m (iter m t) = stepT m (iter m k)
        rw [h3]
  obtain ⟨k, h2, h3⟩ := key 12
  have h := it_ok hr k h2
  have ha : ∀ j, j < Mn.nn m → (fin m).1 j = true := by
    rcases ho with ⟨i, _, h4, _⟩ | ⟨_, h4⟩
    · omega
    · exact h4
  unfold fin at ha ⊢
  rw [h3] at ha ⊢
  have h5 := cnt_all _ ha
  rw [h.cnt] at h5
  rw [h.len]; exact h5
end Mn
structure HdS (m : Mn.Mains) (pa : Option Addr) (pk : Nat) (la : Option Addr) (lk : Nat) (wa : Option Addr) (wk : Nat) (l : List (Nat × Bool)) (ta : Option Addr) (tc : Nat) (H : Nat → Int) (w W : World) : Prop where
  row : W.rowIs w.heap.size 27 5 (rowN (mnL m pa pk la lk wa wk))
  t : SpAt (.slice ta l.length tc) l W
  tb : ∀ g, ta = some ⟨g, 0, none⟩ → w.heap.size + 1 < g
  hd : IsBlk 2 (w.heap.size + 1) (Mn.nn m) H W
  old : Below w.heap.size w W
theorem HdS.below {m : Mn.Mains} {pa : Option Addr} {pk : Nat} {la : Option Addr} {lk : Nat} {wa : Option Addr} {wk : Nat} {l : List (Nat × Bool)} {ta : Option Addr} {tc : Nat} {H : Nat → Int} {w W W' : World} (h : HdS m pa pk la lk wa wk l ta tc H w W) (hb : Below W.heap.size W W') : HdS m pa pk la lk wa wk l ta tc H w W' := ⟨nrow_below h.row hb, h.t.below hb, h.tb, h.hd.below hb, h.old.trans (hb.mono h.old.size)⟩
theorem HdS.put {m : Mn.Mains} {pa : Option Addr} {pk : Nat} {la : Option Addr} {lk : Nat} {wa : Option Addr} {wk : Nat} {l : List (Nat × Bool)} {ta : Option Addr} {tc : Nat} {H : Nat → Int} {w W : World} (h : HdS m pa pk la lk wa wk l ta tc H w W) (i : Nat) (x : Int) : HdS m pa pk la lk wa wk l ta tc (updI H i x) w (W.setCell ⟨w.heap.size + 1, i, none⟩ (.int .i64 x)) := by
  refine ⟨h.row.of_block (Below.heap_setCell _ _ _ _ (by show w.heap.size ≠ w.heap.size + 1; omega)), ?_, h.tb, h.hd.set i x, h.old.setCell (p := ⟨w.heap.size + 1, i, none⟩) (by show w.heap.size ≤ w.heap.size + 1; omega) _⟩
  obtain ⟨a, c, e, h2⟩ := h.t
  cases e
  refine ⟨ta, tc, rfl, ?_⟩
  rcases h2 with h2 | ⟨g, e1, h1, h2⟩
  · exact Or.inl h2
  · have hg := h.tb g e1
    refine Or.inr ⟨g, e1, by rw [World.size_setCell]; exact h1, fun k x hk => ?_⟩
    have := h2 k x hk
    exact ⟨(World.cell?_setCell_far _ _ _ _ (by show w.heap.size + 1 ≠ g; omega)).trans this.1, (World.cell?_setCell_far _ _ _ _ (by show w.heap.size + 1 ≠ g; omega)).trans this.2⟩
theorem mmk_nodes2 (m : Mn.Mains) (hr : Mn.Right m) (w : World) : (Instr.makeSlice 25 (.int .i64 m.nodes) (.int .i64 m.nodes)).run Tryz.prog w = .ok (.slice (some ⟨w.heap.size, 0, none⟩) (Mn.nn m) (Mn.nn m)) (w.alloc (.cells (madeCells #[.int .i64 0] (Mn.nn m)) 2)) := by
  have h := hr.nn
  rw [h.1]
  exact mmk_i64 (Mn.nn m) (by omega) w
theorem mis_new1 (w : World) (n : Nat) (x : Int) (hn : 1 ≤ n) : IsBlk 2 w.heap.size n (updI (fun _ => 0) 0 x) (w.alloc (.cells ((madeCells #[.int .i64 0] n).setIfInBounds 0 (.int .i64 x)) 2)) := by
  refine ⟨n, fun j => .int .i64 (updI (fun _ => 0) 0 x j), Nat.le_refl _, ⟨_, blk_alloc_new _ _, by simp [size_madeCells], fun i hi => ?_⟩, fun _ _ => rfl⟩
  rw [Array.getElem?_setIfInBounds]
  by_cases e : i = 0
  · subst e; simp [size_madeCells, updI]; omega
  · have e' : ¬ 0 = i := fun h => e h.symm
    simp [madeCells, hi, e', Nat.mod_one, updI, e]
set_option maxRecDepth 100000 in
set_option maxHeartbeats 16000000 in
theorem sheads_any (m : Mn.Mains) (pa : Option Addr) (pk : Nat) (la : Option Addr) (lk : Nat) (wa : Option Addr) (wk : Nat) (fa : Option Addr) (fc : Nat) (f : Nat → Int) (w : World) (h : MnAt m pa la wa w) (hf : IsAt fa m.pn f w) (hr : Mn.Right m) (ho : Mn.AllOk m f) :
    Calls Tryz.prog 34 #[mnV m pa pk la lk wa wk, .slice fa m.pn fc] w fun e w' => (∃ g, e = .returned (.slice (some ⟨g, 0, none⟩) (Mn.nn m) (Mn.nn m)) ∧ IsBlk 2 g (Mn.nn m) (Mn.heads m f) w' ∧ w.heap.size ≤ g) ∧ Below w.heap.size w w' := by
  have hmk := mmk_nodes2 m hr
  have hmc : (madeCells #[.int .i64 0] (Mn.nn m))[0]? = some (.int .i64 0) := by have h := hr.nn; have h0 : 0 < Mn.nn m := h.2.1; simp [madeCells, h0]
  obtain ⟨hnn, hn1, hn2, hwn⟩ := hr.nn
  have hn0 : (0 : Int) < (Mn.nn m : Int) := by omega
  have HR := Lib.hid hr
  have HO := Lib.hid ho
  obtain ⟨W0, hW0⟩ : ∃ W0, W0 = (w.alloc (.cells #[.int .i64 m.nodes, .int .i64 m.head, .slice pa m.pn pk, .slice la m.ln lk, .slice wa m.wn wk] 27)).alloc (.cells ((madeCells #[.int .i64 0] (Mn.nn m)).setIfInBounds 0 (.int .i64 m.head)) 2) := ⟨_, rfl⟩
  have S0 : Hid (W0.rowIs w.heap.size 27 5 (rowN (mnL m pa pk la lk wa wk)) ∧ MnAt m pa la wa W0 ∧ IsAt fa m.pn f W0 ∧ IsBlk 2 (w.heap.size + 1) (Mn.nn m) (Mn.head0 m) W0 ∧ Below w.heap.size w W0) := by
    show _ ∧ _
    rw [hW0]
    refine ⟨nrow_below (rowN_alloc w _ _) (nbel_alloc _ _), (h.below (nbel_alloc _ _)).below (nbel_alloc _ _), (hf.below (nbel_alloc _ _)).below (nbel_alloc _ _), ?_, mbel2 _ _ _⟩
    have := mis_new1 (w.alloc (.cells #[.int .i64 m.nodes, .int .i64 m.head, .slice pa m.pn pk, .slice la m.ln lk, .slice wa m.wn wk] 27)) (Mn.nn m) m.head hn1
    rw [World.size_alloc] at this
    exact this
  have HW0 := Lib.hid hW0
  have HA := Lib.hid h
  have HFA := Lib.hid hf
  clear h hf hr ho hnn hwn hW0
  go_enter Tryz.func34, Tryz.ntmps34
  go_wp2_with fail
  rw [← HW0.out]
  refine (stree_any m pa pk la lk wa wk _ S0.out.2.1 HR.out).mono ?_
  rintro e w2 ⟨⟨tv, r, rfl, hot, hout⟩, hb⟩
  have hrb : -1 ≤ r ∧ r < 12 := by
    have := HR.out.nn
    rcases hout with ⟨i, h1, h2, _⟩ | ⟨h1, _⟩ <;> omega
  obtain ⟨hrb1, hrb2⟩ := hrb
  obtain ⟨ta, tc, etv, _⟩ := sp_of hot
  subst etv
  have hsp := sp_of hot
  have htb : ∀ g, ta = some ⟨g, 0, none⟩ → w.heap.size + 1 < g := fun g eg => by
    have h1 := (hot.lt g (by rw [eg]; rfl)).1
    have h2 := S0.out.2.2.2.1.lt
    omega
  obtain ⟨l, hl⟩ : ∃ l, l = (Mn.fin m).2 := ⟨_, rfl⟩
  have hfin := Mn.fin_ok HR.out
  rw [← hl] at hsp hfin ⊢
  have HFI := Lib.hid hfin
  have HHE : Hid (Mn.heads m f = Mn.headTo m f l (Mn.head0 m) l.length) := by show _ = _; rw [hl]; rfl
  have hll : l.length ≤ 11 := by omega
  have ST : Hid (HdS m pa pk la lk wa wk l ta tc (Mn.headTo m f l (Mn.head0 m) 0) w w2) := ⟨nrow_below S0.out.1 hb, hsp, htb, S0.out.2.2.2.1.below hb, S0.out.2.2.2.2.trans (hb.mono S0.out.2.2.2.2.size)⟩
  clear hout hot hb S0 HW0 hsp htb hl hfin hmk hmc
  go_wp2_with fail
  go_loopw [8] (fun kv wr => ∃ (k : Nat), k ≤ l.length ∧ kv = .int .i64 k ∧ Hid (HdS m pa pk la lk wa wk l ta tc (Mn.headTo m f l (Mn.head0 m) k) w wr)) (fun kv _ => l.length - (intOf kv).toNat)
  case atStart => exact ⟨0, Nat.zero_le _, rfl, ST⟩
  case round =>
    obtain ⟨k, hk, rfl, hS⟩ := hrel
    clear ST
    by_cases hlt : k < l.length
    · have hltz : (k : Int) < (l.length : Int) := by omega
      obtain ⟨xe, hx⟩ : ∃ xe, l[k]? = some xe := ⟨_, List.getElem?_eq_getElem hlt⟩
      have hxp := HFI.out.2 xe (List.mem_of_getElem? hx)
      have hhb := Mn.head_bd HR.out HO.out HFI.out.2 k
      have HSX : Hid (Mn.headTo m f l (Mn.head0 m) (k + 1) = Mn.headStep m f xe (Mn.headTo m f l (Mn.head0 m) k)) := by show _ = _; simp only [Mn.headTo, hx]
      obtain ⟨_, _, e3, q3⟩ := hS.out.t
      rcases q3 with q3 | ⟨tg, q4, q5, q6⟩
      · rw [q3] at hlt; exact absurd hlt (by simp)
      cases e3
      subst q4
      obtain ⟨t0, t1⟩ := q6 k xe hx
      obtain ⟨x, fw⟩ := xe
      simp only at hxp t0 t1
      have hff := HR.out.fN hxp
      have htt := HR.out.tN hxp
      have hne := HR.out.ftne hxp
      have HPP := Lib.hid (HR.out.p x hxp)
      have fbd := Mn.okF_bd HPP.out (HO.out x hxp)
      have HB1 := Lib.hid fbd.1
      have HB2 := Lib.hid fbd.2
      have HQB := Lib.hid (Mn.fall_bd HPP.out fbd.1 fbd.2)
      obtain ⟨fb, ef, df⟩ := (HFA.out.below hS.out.old).at1 hxp
      subst ef
      obtain ⟨pb, epb, c0, c1, c2, c3, c4⟩ := (HA.out.below hS.out.old).p.at5 hxp
      subst epb
      obtain ⟨⟨r0, r1, r2, r3, r4⟩, _⟩ := rowN5 hS.out.row
      have hxz : (x : Int) < (m.pn : Int) := by omega
      have lpb : pb < wr.heap.size := World.block_lt_of_cell? _ _ c0
      have ltg : tg < wr.heap.size := q5
      have lzz : w.heap.size < wr.heap.size := hS.out.row.lt
      have DF0 := Lib.hid df
      have T00 := Lib.hid t0
      have T10 := Lib.hid t1
      have HFF := Lib.hid hff
      have HTT := Lib.hid htt
      obtain ⟨H, hH⟩ : ∃ H, H = Mn.headTo m f l (Mn.head0 m) k := ⟨_, rfl⟩
      rw [← hH] at HSX hS hhb
      have HHS : Hid (Mn.headTo m f l (Mn.head0 m) (k + 1) = if fw then updI H (Mn.tN m x) (H (Mn.fN m x) - Mn.fall m x (f x)) else updI H (Mn.fN m x) (H (Mn.tN m x) + Mn.fall m x (f x))) := by show _ = _; rw [HSX.out]; rfl
      have HHB : Hid (∀ j, -20000000000000000 ≤ H j ∧ H j ≤ 20000000000000000) := by
        intro j
        have h1 := hhb j
        have h2 : (k : Int) ≤ 11 := by omega
        omega
      clear hx fbd df q5 q6 hff htt hhb HSX hH t1
      go_wp2_with fail
      go_cut [9] (fun p V => ∃ gb, p = .pointer (some ⟨gb, 0, none⟩) ∧ Hid (V.rowIs gb 36 5 (rowN [.int .i64 (m.P (x * 5)), .int .i64 (m.P (x * 5 + 1)), .int .i64 (m.P (x * 5 + 2)), .int .i64 (m.P (x * 5 + 3)), .int .i64 (m.P (x * 5 + 4))]) ∧ Below wr.heap.size wr V))
      case first =>
        go_region
        go_wp2_with fail
        go_meet
        case rel => exact ⟨wr.heap.size, rfl, nrow_below (rowN_alloc wr _ _) (Below.refl _ _).drew, (nbel_alloc wr _).drew⟩
      case rest =>
        obtain ⟨gb, rfl, hC⟩ := hcut
        obtain ⟨V0, hV0⟩ : ∃ V0, V0 = wc := ⟨_, rfl⟩
        rw [← hV0] at hC ⊢
        clear hV0
        have SV := Lib.hid (hS.out.below hC.out.2)
        have RP := Lib.hid hC.out.1
        have DF : Hid (V0.cell? ⟨fb, x, none⟩ = some (.int .i64 (f x))) := (hC.out.2.cell (World.block_lt_of_cell? _ _ DF0.out)).trans DF0.out
        have T0 : Hid (V0.cell? ⟨tg, k * 2, none⟩ = some (.int .i64 (x : Int))) := (hC.out.2.cell (World.block_lt_of_cell? _ _ T00.out)).trans T00.out
        have T1 : Hid (V0.cell? ⟨tg, k * 2 + 1, none⟩ = some (.bool fw)) := (hC.out.2.cell (World.block_lt_of_cell? _ _ T10.out)).trans T10.out
        clear hC hS DF0 T00 T10 r0 r1 r2 r3 r4 c0 c1 c2 c3 c4 t0 lpb ltg
        go_wp2_with fail
        refine wp_region_held_drew (S := fun V => Below V0.heap.size V0 V) (by kernel_rfl) (Below.refl _ _).drew (fun hHeld => ?_)
        obtain ⟨Z, hZ⟩ : ∃ Z, Z = V0.drew := ⟨_, rfl⟩
        rw [← hZ] at hHeld ⊢
        clear hZ
        refine take_do (i := 0) (v := (pipeV m x)) rfl (by kernel_rfl) (by kernel_rfl) (by kernel_rfl) (fun _ _ _ h => h) (by rfl) ?_ (by assumption) ?_
        · intro w hSw
          obtain ⟨⟨r0, r1, r2, r3, r4⟩, _⟩ := rowN5 (nrow_below RP.out hSw)
          go_simp
        simp only [Act.put, List.setIfInBounds_toArray, List.set_cons_zero, List.set_cons_succ]
        refine take_do (i := 1) (v := (.slice (some ⟨fb, 0, none⟩) m.pn fc)) rfl (by kernel_rfl) (by kernel_rfl) (by kernel_rfl) (fun _ _ _ h => h) (by rfl) ?_ (by assumption) ?_
        · intro w hSw
          skip
          go_simp
        simp only [Act.put, List.setIfInBounds_toArray, List.set_cons_zero, List.set_cons_succ]
        refine take_do (i := 2) (v := (.slice (some ⟨tg, 0, none⟩) l.length tc)) rfl (by kernel_rfl) (by kernel_rfl) (by kernel_rfl) (fun _ _ _ h => h) (by rfl) ?_ (by assumption) ?_
        · intro w hSw
          skip
          go_simp
        simp only [Act.put, List.setIfInBounds_toArray, List.set_cons_zero, List.set_cons_succ]
        refine take_do (i := 3) (v := (.int .i64 k)) rfl (by kernel_rfl) (by kernel_rfl) (by kernel_rfl) (fun _ _ _ h => h) (by rfl) ?_ (by assumption) ?_
        · intro w hSw
          skip
          go_simp
        simp only [Act.put, List.setIfInBounds_toArray, List.set_cons_zero, List.set_cons_succ]
        refine take_do (i := 4) (v := (.pointer (some ⟨tg, k * 2, none⟩))) rfl (by kernel_rfl) (by kernel_rfl) (by kernel_rfl) (fun _ _ _ h => h) (by rfl) ?_ (by assumption) ?_
        · intro w hSw
          skip
          go_simp
        simp only [Act.put, List.setIfInBounds_toArray, List.set_cons_zero, List.set_cons_succ]
        refine take_do (i := 5) (v := (.pointer (some ⟨tg, k * 2, none⟩))) rfl (by kernel_rfl) (by kernel_rfl) (by kernel_rfl) (fun _ _ _ h => h) (by rfl) ?_ (by assumption) ?_
        · intro w hSw
          skip
          go_simp
        simp only [Act.put, List.setIfInBounds_toArray, List.set_cons_zero, List.set_cons_succ]
        refine take_do (i := 6) (v := (.int .i64 ((x : Nat) : Int))) rfl (by kernel_rfl) (by kernel_rfl) (by kernel_rfl) (fun _ _ _ h => h) (by rfl) ?_ (by assumption) ?_
        · intro w hSw
          have t0 := (hSw.cell (World.block_lt_of_cell? _ _ T0.out)).trans T0.out
          go_simp
        simp only [Act.put, List.setIfInBounds_toArray, List.set_cons_zero, List.set_cons_succ]
        refine take_do (i := 7) (v := (.pointer (some ⟨fb, x, none⟩))) rfl (by kernel_rfl) (by kernel_rfl) (by kernel_rfl) (fun _ _ _ h => h) (by rfl) ?_ (by assumption) ?_
        · intro w hSw
          skip
          go_simp
        simp only [Act.put, List.setIfInBounds_toArray, List.set_cons_zero, List.set_cons_succ]
        refine take_do (i := 8) (v := (.int .i64 (f x))) rfl (by kernel_rfl) (by kernel_rfl) (by kernel_rfl) (fun _ _ _ h => h) (by rfl) ?_ (by assumption) ?_
        · intro w hSw
          have df := (hSw.cell (World.block_lt_of_cell? _ _ DF.out)).trans DF.out
          go_simp
        simp only [Act.put, List.setIfInBounds_toArray, List.set_cons_zero, List.set_cons_succ]
        refine take_call (i := 9) rfl (by kernel_rfl) (fun K2 hK => ?_)
        go_simp
        refine (sfall_any m x HPP.out (f x) HB1.out HB2.out _).mono ?_
        rintro e w3 ⟨rfl, hb⟩
        go_wp2_with fail
        refine hK.out _ _ (hHeld.trans (hb.mono hHeld.size)) (fun hHeld2 => ?_)
        clear hK hHeld hb
        have hHeld := hHeld2
        clear hHeld2
        obtain ⟨Q, hQ⟩ : ∃ Q, Q = Mn.fall m x (f x) := ⟨_, rfl⟩
        rw [← hQ] at HQB HHS ⊢
        clear hQ
        refine take_do (i := 10) (v := (.int .i64 Q)) rfl (by kernel_rfl) (by kernel_rfl) (by kernel_rfl) (fun _ _ _ h => h) (by rfl) ?_ (by assumption) ?_
        · intro w hSw
          skip
          go_simp
        simp only [Act.put, List.setIfInBounds_toArray, List.set_cons_zero, List.set_cons_succ]
        refine wpAnyH_done (by kernel_rfl) ?_ _
        have S3 := Lib.hid (SV.out.below hHeld)
        have RP3 := Lib.hid (nrow_below RP.out hHeld)
        have T13 : Hid (w3.cell? ⟨tg, k * 2 + 1, none⟩ = some (.bool fw)) := (hHeld.cell (World.block_lt_of_cell? _ _ T1.out)).trans T1.out
        clear hHeld
        obtain ⟨⟨p0, p1, p2, p3, p4⟩, _⟩ := rowN5 RP3.out
        have l3 := RP3.out.lt
        rw [HFF.out.1] at p1
        rw [HTT.out.1] at p2
        have t1 := T13.out
        have hc1 := S3.out.hd.cell HFF.out.2
        have hc2 := S3.out.hd.cell HTT.out.2
        have zc1 := S3.out.hd.frozen (Mn.fN m x)
        have zc2 := S3.out.hd.frozen (Mn.tN m x)
        have lh := S3.out.hd.lt
        obtain ⟨b1, b2⟩ := HHB.out (Mn.fN m x)
        obtain ⟨b3, b4⟩ := HHB.out (Mn.tN m x)
        obtain ⟨b5, b6⟩ := HQB.out
        have hfz : (Mn.fN m x : Int) < (Mn.nn m : Int) := by have := HFF.out.2; omega
        have htz : (Mn.tN m x : Int) < (Mn.nn m : Int) := by have := HTT.out.2; omega
        clear SV RP DF T0 T1 lzz
        cases fw with
        | true =>
          have HK : Hid (Mn.headTo m f l (Mn.head0 m) (k + 1) = updI H (Mn.tN m x) (H (Mn.fN m x) - Q)) := by show _ = _; rw [HHS.out]; rfl
          clear HHS
          go_wp2_with fail
          go_region
          go_wp2_with fail
          go_roundw
          case rel => exact ⟨k + 1, by omega, by go_num, by rw [HK.out]; exact (S3.out.put _ _).below ((Below.refl _ _).drew)⟩
          case measure => simp [intOf]; omega
        | false =>
          have HK : Hid (Mn.headTo m f l (Mn.head0 m) (k + 1) = updI H (Mn.fN m x) (H (Mn.tN m x) + Q)) := by show _ = _; rw [HHS.out]; rfl
          clear HHS
          go_wp2_with fail
          go_region
          go_wp2_with fail
          go_roundw
          case rel => exact ⟨k + 1, by omega, by go_num, by rw [HK.out]; exact (S3.out.put _ _).below ((Below.refl _ _).drew)⟩
          case measure => simp [intOf]; omega
    · have hkz : ¬ (k : Int) < (l.length : Int) := by omega
      have HEQ : Hid (Mn.heads m f = Mn.headTo m f l (Mn.head0 m) k) := by show _ = _; rw [HHE.out, show k = l.length by omega]
      go_wp2_with fail
      go_ret
      exact ⟨⟨_, rfl, by rw [HEQ.out]; exact hS.out.hd, by omega⟩, hS.out.old⟩
end Go.Proofs.YtfgmalnkpgloiaaGreatDoor
namespace Go.Proofs.YtfgmalnkpgloiaaGreatDoor
open Go.RowKit Go.Deep
/-- What is told of mains with given flows. -/
inductive GvEnd (m : Mn.Mains) (xn : Nat) (f : Nat → Int) (B : Nat) (la : Option Addr) (lk : Nat) (e : Ending) (W : World) : Prop
  | no (c : Int) (s : ByteArray) : (c = 2 ∧ 400 < xn) ∨ (c = 1 ∧ xn ≤ 400 ∧ ¬ (Mn.Right m ∧ xn = m.pn ∧ Mn.AllOk m f)) → e = .returned (.tuple #[rmZ, errV s c]) → GvEnd m xn f B la lk e W
  | ok (gk : Nat) (a : Option Addr) (c : Nat) : xn ≤ 400 → Mn.Right m → xn = m.pn → Mn.AllOk m f → e = .returned (.tuple #[rmV la m.ln lk gk m.pn a c, .nilIface]) → KdBlk gk m W → OwL 2 B m.pn a c f W → B ≤ gk → GvEnd m xn f B la lk e W
set_option maxRecDepth 100000 in
set_option maxHeartbeats 8000000 in
theorem given_any (m : Mn.Mains) (pa : Option Addr) (pk : Nat) (la : Option Addr) (lk : Nat) (wa : Option Addr) (wk : Nat) (xb xn xc : Nat) (f : Nat → Int) (w : World) (h : MnAt m pa la wa w) (hx : ∀ i, i < xn → w.cell? ⟨xb, i, none⟩ = some (.int .i64 (f i))) (hxn : xn ≤ 1048576) :
    Calls Tryz.prog 39 #[mnV m pa pk la lk wa wk, .slice (some ⟨xb, 0, none⟩) xn xc] w fun e w' => GvEnd m xn f w.heap.size la lk e w' ∧ Below w.heap.size w w' := by
  obtain ⟨W0, hW0⟩ : ∃ W0, W0 = (w.alloc (.cells #[.int .i64 m.nodes, .int .i64 m.head, .slice pa m.pn pk, .slice la m.ln lk, .slice wa m.wn wk] 27)).alloc (.cells #[.slice none 0 0, .slice none 0 0, .slice none 0 0] 70) := ⟨_, rfl⟩
  have S0 : Hid (SmS m pa pk la lk wa wk w W0) := by
    show SmS _ _ _ _ _ _ _ _ _
    rw [hW0]
    exact ⟨nrow_below (rowN_alloc w _ _) (nbel_alloc _ _), rowN_alloc' (by simp) _ _, (h.below (nbel_alloc _ _)).below (nbel_alloc _ _), mbel2 _ _ _⟩
  have HW0 := Lib.hid hW0
  have HX : Hid (∀ V, Below w.heap.size w V → ∀ i, i < xn → V.cell? ⟨xb, i, none⟩ = some (.int .i64 (f i))) := fun V hV i hi => (hV.cell (World.block_lt_of_cell? _ _ (hx i hi))).trans (hx i hi)
  clear h hW0 hx
  by_cases h400 : 400 < xn
  · have h4z : (400 : Int) < (xn : Int) := by omega
    have H4 := Lib.hid h400
    clear h400
    go_enter Tryz.func39, Tryz.ntmps39
    go_wp2_with fail
    refine bodyPost_ret (v := .tuple #[rmZ, errV ⟨#[102, 108, 111, 119, 115]⟩ 2]) ?_ rfl ⟨GvEnd.no 2 _ (Or.inl ⟨rfl, H4.out⟩) rfl, ?_⟩
    · simp [results, Tryz.results39, go_sem]
    · exact mbel2 _ _ _
  have h4z : ¬ (400 : Int) < (xn : Int) := by omega
  have H4 : Hid (xn ≤ 400) := by show _ ≤ _; omega
  clear h400
  go_enter Tryz.func39, Tryz.ntmps39
  go_wp2_with fail
  rw [← HW0.out]
  refine (implMains_any m pa pk la lk wa wk _ S0.out.at_).mono ?_
  rintro e w1 ⟨⟨b1, rfl, hb1⟩, hb⟩
  have S1 := Lib.hid (S0.out.below hb)
  have K1 := Lib.hid hb1
  clear hb hb1 S0
  cases b1 with
  | false =>
    have HNR : Hid (¬ (Mn.Right m ∧ xn = m.pn ∧ Mn.AllOk m f)) := fun k => by have := K1.out.2 k.1; cases this
    clear K1
    have D := Lib.hid (S1.out.done (.slice none 0 0) (.slice none 0 0) (.slice none 0 0))
    obtain ⟨⟨x0, x1, x2⟩, z0, z1, z2⟩ := rowN3 S1.out.res
    have lx := S1.out.res.lt
    go_wp2_with fail
    obtain ⟨⟨q0, q1, q2⟩, _⟩ := rowN3 D.out.1
    refine bodyPost_ret (v := .tuple #[rmZ, errV ⟨#[109, 97, 105, 110, 115]⟩ 1]) ?_ rfl ⟨GvEnd.no 1 _ (Or.inr ⟨rfl, H4.out, HNR.out⟩) rfl, D.out.2.1⟩
    simp only [results, Tryz.results39]
    simp [go_sem, q0, q1, q2]
  | true =>
  have HR := Lib.hid (K1.out.1 (by trivial))
  clear K1
  obtain ⟨⟨r0, r1, r2, r3, r4⟩, _⟩ := rowN5 S1.out.row
  by_cases hxp : xn = m.pn
  case neg =>
    have hxz : ((xn : Int) != (m.pn : Int)) = true := by simp; omega
    have HNR : Hid (¬ (Mn.Right m ∧ xn = m.pn ∧ Mn.AllOk m f)) := fun k => hxp k.2.1
    clear hxp
    have D := Lib.hid (S1.out.done (.slice none 0 0) (.slice none 0 0) (.slice none 0 0))
    obtain ⟨⟨x0, x1, x2⟩, z0, z1, z2⟩ := rowN3 S1.out.res
    have lx := S1.out.res.lt
    go_wp2_with fail
    obtain ⟨⟨q0, q1, q2⟩, _⟩ := rowN3 D.out.1
    refine bodyPost_ret (v := .tuple #[rmZ, errV ⟨#[97, 115, 32, 109, 97, 110, 121, 32, 102, 108, 111, 119, 115, 32, 97, 115, 32, 112, 105, 112, 101, 115]⟩ 1]) ?_ rfl ⟨GvEnd.no 1 _ (Or.inr ⟨rfl, H4.out, HNR.out⟩) rfl, D.out.2.1⟩
    simp only [results, Tryz.results39]
    simp [go_sem, q0, q1, q2]
  case pos =>
  subst hxp
  have hxz : ((m.pn : Int) != (m.pn : Int)) = false := by simp
  have HX1 : Hid (∀ i, i < m.pn → w1.cell? ⟨xb, i, none⟩ = some (.int .i64 (f i))) := HX.out _ S1.out.old
  go_wp2_with fail
  clear r0 r1 r2 r3 r4
  go_cut [6] (fun p V => ∃ gb gk a2 c2, p = .pointer (some ⟨gb, 0, none⟩) ∧ Hid (V.rowIs gb 70 3 (rowN [.slice la m.ln lk, .slice (some ⟨gk, 0, none⟩) m.pn m.pn, .slice a2 m.pn c2]) ∧ KdBlk gk m V ∧ OwL 2 w1.heap.size m.pn a2 c2 f V ∧ Below w1.heap.size w1 V ∧ w1.heap.size ≤ gk ∧ w1.heap.size ≤ gb))
  case first =>
    refine wp_region_held_drew (S := fun V => Below w1.heap.size w1 V) (by kernel_rfl) (Below.refl _ _).drew (fun hHeld => ?_)
    obtain ⟨Z, hZ⟩ : ∃ Z, Z = w1.drew := ⟨_, rfl⟩
    rw [← hZ] at hHeld ⊢
    clear hZ
    refine take_do (i := 0) (v := (.pointer (some ⟨w.heap.size, 3, none⟩))) rfl (by kernel_rfl) (by kernel_rfl) (by kernel_rfl) (fun _ _ _ h => h) (by rfl) ?_ (by assumption) ?_
    · intro w hSw
      skip
      go_simp
    simp only [Act.put, List.setIfInBounds_toArray, List.set_cons_zero, List.set_cons_succ]
    refine take_do (i := 1) (v := (.slice la m.ln lk)) rfl (by kernel_rfl) (by kernel_rfl) (by kernel_rfl) (fun _ _ _ h => h) (by rfl) ?_ (by assumption) ?_
    · intro w hSw
      obtain ⟨⟨r0, r1, r2, r3, r4⟩, _⟩ := rowN5 (nrow_below S1.out.row hSw)
      go_simp
    simp only [Act.put, List.setIfInBounds_toArray, List.set_cons_zero, List.set_cons_succ]
    refine take_do (i := 2) (v := (.pointer (some ⟨w.heap.size, 2, none⟩))) rfl (by kernel_rfl) (by kernel_rfl) (by kernel_rfl) (fun _ _ _ h => h) (by rfl) ?_ (by assumption) ?_
    · intro w hSw
      skip
      go_simp
    simp only [Act.put, List.setIfInBounds_toArray, List.set_cons_zero, List.set_cons_succ]
    refine take_do (i := 3) (v := (.slice pa m.pn pk)) rfl (by kernel_rfl) (by kernel_rfl) (by kernel_rfl) (fun _ _ _ h => h) (by rfl) ?_ (by assumption) ?_
    · intro w hSw
      obtain ⟨⟨r0, r1, r2, r3, r4⟩, _⟩ := rowN5 (nrow_below S1.out.row hSw)
      go_simp
    simp only [Act.put, List.setIfInBounds_toArray, List.set_cons_zero, List.set_cons_succ]
    refine take_do (i := 5) (v := (.slice (some ⟨xb, 0, none⟩) m.pn xc)) rfl (by kernel_rfl) (by kernel_rfl) (by kernel_rfl) (fun _ _ _ h => h) (by rfl) ?_ (by assumption) ?_
    · intro w hSw
      skip
      go_simp
    simp only [Act.put, List.setIfInBounds_toArray, List.set_cons_zero, List.set_cons_succ]
    refine wpAnyH_ready (rs := [4, 8]) (by kernel_rfl) (by simp) (AllReadyH.cons (at_drop (i := 4) rfl) (fun K2 hK => ?_) (AllReadyH.cons (at_drop (i := 8) rfl) (fun K2 hK => ?_) (AllReadyH.nil)))
    · go_simp
      refine (kindsOf_any m pa pk _ (S1.out.at_.p.below hHeld) HR.out).mono ?_
      rintro e Z1 ⟨⟨he, hkd⟩, hb⟩
      obtain ⟨gk, hgk⟩ : ∃ gk, gk = Z.heap.size := ⟨_, rfl⟩
      rw [← hgk] at hkd he
      subst he
      have KD := Lib.hid hkd
      have HGK : Hid (w1.heap.size ≤ gk) := by show _ ≤ _; rw [hgk]; exact hHeld.size
      clear hkd hgk
      go_wp2_with fail
      refine hK.out _ _ (hHeld.trans (hb.mono hHeld.size)) (fun hHeld2 => ?_)
      clear hK hHeld
      have hHeld := hHeld2
      clear hHeld2
      clear hb
      refine wpAnyH_ready (rs := [6, 8]) (by kernel_rfl) (by simp) (AllReadyH.cons (at_drop (i := 6) rfl) (fun K2 hK => ?_) (AllReadyH.cons (at_drop (i := 8) rfl) (fun K2 hK => ?_) (AllReadyH.nil)))
      · go_simp
        refine (mclone_any xb m.pn xc f _ (fun j hj => (hHeld.cell (World.block_lt_of_cell? _ _ (HX1.out j hj))).trans (HX1.out j hj)) (by have := HR.out.pn; omega)).mono ?_
        rintro e Z2 ⟨⟨a2, c2, rfl, hcl⟩, hb⟩
        have CL : Hid (OwL 2 w1.heap.size m.pn a2 c2 f Z2) := hcl.low hHeld.size
        replace KD := Lib.hid (KD.out.below hb)
        clear hcl
        go_wp2_with fail
        refine hK.out _ _ (hHeld.trans (hb.mono hHeld.size)) (fun hHeld2 => ?_)
        clear hK hHeld
        have hHeld := hHeld2
        clear hHeld2
        clear hb
        refine take_do (i := 7) (v := (.agg #[.slice la m.ln lk, .slice (some ⟨gk, 0, none⟩) m.pn m.pn, .slice a2 m.pn c2])) rfl (by kernel_rfl) (by kernel_rfl) (by kernel_rfl) (fun _ _ _ h => h) (by rfl) ?_ (by assumption) ?_
        · intro w hSw
          skip
          go_simp
        simp only [Act.put, List.setIfInBounds_toArray, List.set_cons_zero, List.set_cons_succ]
        refine take_call (i := 8) rfl (by kernel_rfl) (fun K2 hK => ?_)
        obtain ⟨Z3, hZ3⟩ : ∃ Z3, Z3 = Z2.alloc (.cells #[.slice none 0 0, .slice none 0 0, .slice none 0 0] 70) := ⟨_, rfl⟩
        have hb : Below Z2.heap.size Z2 Z3 := by rw [hZ3]; exact nbel_alloc _ _
        obtain ⟨gb, hgb⟩ : ∃ gb, gb = Z2.heap.size := ⟨_, rfl⟩
        have RZ : Hid (Z3.rowIs gb 70 3 (rowN [.slice none 0 0, .slice none 0 0, .slice none 0 0])) := by show World.rowIs _ _ _ _ _; rw [hZ3, hgb]; exact rowN_alloc _ _ _
        have HGB : Hid (w1.heap.size ≤ gb) := by show _ ≤ _; rw [hgb]; exact hHeld.size
        have HNK : Hid (gk ≠ gb) := by show _ ≠ _; have := KD.out.lt; omega
        replace KD := Lib.hid (KD.out.below hb)
        have HNC : Hid (∀ k, a2 = some ⟨k, 0, none⟩ → k ≠ gb) := fun k e => by have := (CL.out.lt e).2; omega
        replace CL := Lib.hid (CL.out.below hb)
        go_simp
        rw [← hZ3, ← hgb]
        refine hK.out _ _ (hHeld.trans (hb.mono hHeld.size)) (fun hHeld2 => ?_)
        clear hK hHeld
        have hHeld := hHeld2
        clear hHeld2
        clear hb
        clear hZ3 hgb
        have o0 := RZ.out.cell (i := 0) (by omega)
        have z0 := RZ.out.frozen 0
        have o1 := RZ.out.cell (i := 1) (by omega)
        have z1 := RZ.out.frozen 1
        have o2 := RZ.out.cell (i := 2) (by omega)
        have z2 := RZ.out.frozen 2
        have l0 := RZ.out.lt
        obtain ⟨WZ, hWZ⟩ : ∃ WZ, WZ = (((Z3.setCell ⟨gb, 0, none⟩ (.slice la m.ln lk)).setCell ⟨gb, 1, none⟩ (.slice (some ⟨gk, 0, none⟩) m.pn m.pn)).setCell ⟨gb, 2, none⟩ (.slice a2 m.pn c2)) := ⟨_, rfl⟩
        have hbZ : Below w1.heap.size w1 WZ := by rw [hWZ]; exact (((hHeld.setCell (p := ⟨gb, 0, none⟩) HGB.out _).setCell (p := ⟨gb, 1, none⟩) HGB.out _).setCell (p := ⟨gb, 2, none⟩) HGB.out _)
        have HFM : Hid (WZ.rowIs gb 70 3 (rowN [.slice la m.ln lk, .slice (some ⟨gk, 0, none⟩) m.pn m.pn, .slice a2 m.pn c2])) := by show World.rowIs _ _ _ _ _; rw [hWZ]; exact (rowN_put (rowN_put (rowN_put RZ.out 0 (.slice la m.ln lk) (by simp)) 1 (.slice (some ⟨gk, 0, none⟩) m.pn m.pn) (by simp)) 2 (.slice a2 m.pn c2) (by simp))
        have HKD : Hid (KdBlk gk m WZ) := by show KdPart _ _ _ _; rw [hWZ]; exact (((KD.out.block (Below.heap_setCell _ _ _ _ HNK.out)).block (Below.heap_setCell _ _ _ _ HNK.out)).block (Below.heap_setCell _ _ _ _ HNK.out))
        have HCL : Hid (OwL 2 w1.heap.size m.pn a2 c2 f WZ) := by
          show OwL _ _ _ _ _ _ _
          rw [hWZ]
          refine CL.out.keep (fun k e hk => ?_)
          have ne := HNC.out k e
          rw [Below.heap_setCell _ _ _ _ ne, Below.heap_setCell _ _ _ _ ne, Below.heap_setCell _ _ _ _ ne]
        have HWZ := Lib.hid hWZ
        have HBZ := Lib.hid hbZ
        clear hWZ hbZ
        refine take_call (i := 9) rfl (by kernel_rfl) (fun K2 hK => ?_)
        go_simp
        rw [← HWZ.out]
        refine hK.out _ _ HBZ.out (fun hHeld2 => ?_)
        clear hK hHeld hHeld2 HWZ o0 z0 o1 z1 o2 z2 l0
        refine wpAnyH_done (by kernel_rfl) ?_ _
        go_wp2_with fail
        go_meet
        case rel => exact ⟨gb, gk, a2, c2, rfl, HFM.out, HKD.out, HCL.out, HBZ.out, HGK.out, HGB.out⟩
      · obtain ⟨Z4, hZ4⟩ : ∃ Z4, Z4 = Z1.alloc (.cells #[.slice none 0 0, .slice none 0 0, .slice none 0 0] 70) := ⟨_, rfl⟩
        have hb : Below Z1.heap.size Z1 Z4 := by rw [hZ4]; exact nbel_alloc _ _
        obtain ⟨gb, hgb⟩ : ∃ gb, gb = Z1.heap.size := ⟨_, rfl⟩
        have RZ : Hid (Z4.rowIs gb 70 3 (rowN [.slice none 0 0, .slice none 0 0, .slice none 0 0])) := by show World.rowIs _ _ _ _ _; rw [hZ4, hgb]; exact rowN_alloc _ _ _
        have HGB : Hid (w1.heap.size ≤ gb) := by show _ ≤ _; rw [hgb]; exact hHeld.size
        have HNK : Hid (gk ≠ gb) := by show _ ≠ _; have := KD.out.lt; omega
        replace KD := Lib.hid (KD.out.below hb)
        go_simp
        rw [← hZ4, ← hgb]
        refine hK.out _ _ (hHeld.trans (hb.mono hHeld.size)) (fun hHeld2 => ?_)
        clear hK hHeld
        have hHeld := hHeld2
        clear hHeld2
        clear hb
        clear hZ4 hgb
        refine take_call (i := 6) rfl (by kernel_rfl) (fun K2 hK => ?_)
        go_simp
        refine (mclone_any xb m.pn xc f _ (fun j hj => (hHeld.cell (World.block_lt_of_cell? _ _ (HX1.out j hj))).trans (HX1.out j hj)) (by have := HR.out.pn; omega)).mono ?_
        rintro e Z5 ⟨⟨a2, c2, rfl, hcl⟩, hb⟩
        have CL : Hid (OwL 2 w1.heap.size m.pn a2 c2 f Z5) := hcl.low hHeld.size
        have HNC : Hid (∀ k, a2 = some ⟨k, 0, none⟩ → k ≠ gb) := fun k e => by have h1 := (hcl.lt e).1; have h2 := RZ.out.lt; omega
        replace RZ := Lib.hid (nrow_below RZ.out hb)
        replace KD := Lib.hid (KD.out.below hb)
        clear hcl
        go_wp2_with fail
        refine hK.out _ _ (hHeld.trans (hb.mono hHeld.size)) (fun hHeld2 => ?_)
        clear hK hHeld
        have hHeld := hHeld2
        clear hHeld2
        clear hb
        refine take_do (i := 7) (v := (.agg #[.slice la m.ln lk, .slice (some ⟨gk, 0, none⟩) m.pn m.pn, .slice a2 m.pn c2])) rfl (by kernel_rfl) (by kernel_rfl) (by kernel_rfl) (fun _ _ _ h => h) (by rfl) ?_ (by assumption) ?_
        · intro w hSw
          skip
          go_simp
        simp only [Act.put, List.setIfInBounds_toArray, List.set_cons_zero, List.set_cons_succ]
        have o0 := RZ.out.cell (i := 0) (by omega)
        have z0 := RZ.out.frozen 0
        have o1 := RZ.out.cell (i := 1) (by omega)
        have z1 := RZ.out.frozen 1
        have o2 := RZ.out.cell (i := 2) (by omega)
        have z2 := RZ.out.frozen 2
        have l0 := RZ.out.lt
        obtain ⟨WZ, hWZ⟩ : ∃ WZ, WZ = (((Z5.setCell ⟨gb, 0, none⟩ (.slice la m.ln lk)).setCell ⟨gb, 1, none⟩ (.slice (some ⟨gk, 0, none⟩) m.pn m.pn)).setCell ⟨gb, 2, none⟩ (.slice a2 m.pn c2)) := ⟨_, rfl⟩
        have hbZ : Below w1.heap.size w1 WZ := by rw [hWZ]; exact (((hHeld.setCell (p := ⟨gb, 0, none⟩) HGB.out _).setCell (p := ⟨gb, 1, none⟩) HGB.out _).setCell (p := ⟨gb, 2, none⟩) HGB.out _)
        have HFM : Hid (WZ.rowIs gb 70 3 (rowN [.slice la m.ln lk, .slice (some ⟨gk, 0, none⟩) m.pn m.pn, .slice a2 m.pn c2])) := by show World.rowIs _ _ _ _ _; rw [hWZ]; exact (rowN_put (rowN_put (rowN_put RZ.out 0 (.slice la m.ln lk) (by simp)) 1 (.slice (some ⟨gk, 0, none⟩) m.pn m.pn) (by simp)) 2 (.slice a2 m.pn c2) (by simp))
        have HKD : Hid (KdBlk gk m WZ) := by show KdPart _ _ _ _; rw [hWZ]; exact (((KD.out.block (Below.heap_setCell _ _ _ _ HNK.out)).block (Below.heap_setCell _ _ _ _ HNK.out)).block (Below.heap_setCell _ _ _ _ HNK.out))
        have HCL : Hid (OwL 2 w1.heap.size m.pn a2 c2 f WZ) := by
          show OwL _ _ _ _ _ _ _
          rw [hWZ]
          refine CL.out.keep (fun k e hk => ?_)
          have ne := HNC.out k e
          rw [Below.heap_setCell _ _ _ _ ne, Below.heap_setCell _ _ _ _ ne, Below.heap_setCell _ _ _ _ ne]
        have HWZ := Lib.hid hWZ
        have HBZ := Lib.hid hbZ
        clear hWZ hbZ
        refine take_call (i := 9) rfl (by kernel_rfl) (fun K2 hK => ?_)
        go_simp
        rw [← HWZ.out]
        refine hK.out _ _ HBZ.out (fun hHeld2 => ?_)
        clear hK hHeld hHeld2 HWZ o0 z0 o1 z1 o2 z2 l0
        refine wpAnyH_done (by kernel_rfl) ?_ _
        go_wp2_with fail
        go_meet
        case rel => exact ⟨gb, gk, a2, c2, rfl, HFM.out, HKD.out, HCL.out, HBZ.out, HGK.out, HGB.out⟩
    · obtain ⟨Z6, hZ6⟩ : ∃ Z6, Z6 = Z.alloc (.cells #[.slice none 0 0, .slice none 0 0, .slice none 0 0] 70) := ⟨_, rfl⟩
      have hb : Below Z.heap.size Z Z6 := by rw [hZ6]; exact nbel_alloc _ _
      obtain ⟨gb, hgb⟩ : ∃ gb, gb = Z.heap.size := ⟨_, rfl⟩
      have RZ : Hid (Z6.rowIs gb 70 3 (rowN [.slice none 0 0, .slice none 0 0, .slice none 0 0])) := by show World.rowIs _ _ _ _ _; rw [hZ6, hgb]; exact rowN_alloc _ _ _
      have HGB : Hid (w1.heap.size ≤ gb) := by show _ ≤ _; rw [hgb]; exact hHeld.size
      go_simp
      rw [← hZ6, ← hgb]
      refine hK.out _ _ (hHeld.trans (hb.mono hHeld.size)) (fun hHeld2 => ?_)
      clear hK hHeld
      have hHeld := hHeld2
      clear hHeld2
      clear hb
      clear hZ6 hgb
      refine take_call (i := 4) rfl (by kernel_rfl) (fun K2 hK => ?_)
      go_simp
      refine (kindsOf_any m pa pk _ (S1.out.at_.p.below hHeld) HR.out).mono ?_
      rintro e Z7 ⟨⟨he, hkd⟩, hb⟩
      obtain ⟨gk, hgk⟩ : ∃ gk, gk = Z6.heap.size := ⟨_, rfl⟩
      rw [← hgk] at hkd he
      subst he
      have KD := Lib.hid hkd
      have HGK : Hid (w1.heap.size ≤ gk) := by show _ ≤ _; rw [hgk]; exact hHeld.size
      have HNK : Hid (gk ≠ gb) := by show _ ≠ _; have := RZ.out.lt; omega
      replace RZ := Lib.hid (nrow_below RZ.out hb)
      clear hkd hgk
      go_wp2_with fail
      refine hK.out _ _ (hHeld.trans (hb.mono hHeld.size)) (fun hHeld2 => ?_)
      clear hK hHeld
      have hHeld := hHeld2
      clear hHeld2
      clear hb
      refine take_call (i := 6) rfl (by kernel_rfl) (fun K2 hK => ?_)
      go_simp
      refine (mclone_any xb m.pn xc f _ (fun j hj => (hHeld.cell (World.block_lt_of_cell? _ _ (HX1.out j hj))).trans (HX1.out j hj)) (by have := HR.out.pn; omega)).mono ?_
      rintro e Z8 ⟨⟨a2, c2, rfl, hcl⟩, hb⟩
      have CL : Hid (OwL 2 w1.heap.size m.pn a2 c2 f Z8) := hcl.low hHeld.size
      have HNC : Hid (∀ k, a2 = some ⟨k, 0, none⟩ → k ≠ gb) := fun k e => by have h1 := (hcl.lt e).1; have h2 := RZ.out.lt; omega
      replace RZ := Lib.hid (nrow_below RZ.out hb)
      replace KD := Lib.hid (KD.out.below hb)
      clear hcl
      go_wp2_with fail
      refine hK.out _ _ (hHeld.trans (hb.mono hHeld.size)) (fun hHeld2 => ?_)
      clear hK hHeld
      have hHeld := hHeld2
      clear hHeld2
      clear hb
      refine take_do (i := 7) (v := (.agg #[.slice la m.ln lk, .slice (some ⟨gk, 0, none⟩) m.pn m.pn, .slice a2 m.pn c2])) rfl (by kernel_rfl) (by kernel_rfl) (by kernel_rfl) (fun _ _ _ h => h) (by rfl) ?_ (by assumption) ?_
      · intro w hSw
        skip
        go_simp
      simp only [Act.put, List.setIfInBounds_toArray, List.set_cons_zero, List.set_cons_succ]
      have o0 := RZ.out.cell (i := 0) (by omega)
      have z0 := RZ.out.frozen 0
      have o1 := RZ.out.cell (i := 1) (by omega)
      have z1 := RZ.out.frozen 1
      have o2 := RZ.out.cell (i := 2) (by omega)
      have z2 := RZ.out.frozen 2
      have l0 := RZ.out.lt
      obtain ⟨WZ, hWZ⟩ : ∃ WZ, WZ = (((Z8.setCell ⟨gb, 0, none⟩ (.slice la m.ln lk)).setCell ⟨gb, 1, none⟩ (.slice (some ⟨gk, 0, none⟩) m.pn m.pn)).setCell ⟨gb, 2, none⟩ (.slice a2 m.pn c2)) := ⟨_, rfl⟩
      have hbZ : Below w1.heap.size w1 WZ := by rw [hWZ]; exact (((hHeld.setCell (p := ⟨gb, 0, none⟩) HGB.out _).setCell (p := ⟨gb, 1, none⟩) HGB.out _).setCell (p := ⟨gb, 2, none⟩) HGB.out _)
      have HFM : Hid (WZ.rowIs gb 70 3 (rowN [.slice la m.ln lk, .slice (some ⟨gk, 0, none⟩) m.pn m.pn, .slice a2 m.pn c2])) := by show World.rowIs _ _ _ _ _; rw [hWZ]; exact (rowN_put (rowN_put (rowN_put RZ.out 0 (.slice la m.ln lk) (by simp)) 1 (.slice (some ⟨gk, 0, none⟩) m.pn m.pn) (by simp)) 2 (.slice a2 m.pn c2) (by simp))
      have HKD : Hid (KdBlk gk m WZ) := by show KdPart _ _ _ _; rw [hWZ]; exact (((KD.out.block (Below.heap_setCell _ _ _ _ HNK.out)).block (Below.heap_setCell _ _ _ _ HNK.out)).block (Below.heap_setCell _ _ _ _ HNK.out))
      have HCL : Hid (OwL 2 w1.heap.size m.pn a2 c2 f WZ) := by
        show OwL _ _ _ _ _ _ _
        rw [hWZ]
        refine CL.out.keep (fun k e hk => ?_)
        have ne := HNC.out k e
        rw [Below.heap_setCell _ _ _ _ ne, Below.heap_setCell _ _ _ _ ne, Below.heap_setCell _ _ _ _ ne]
      have HWZ := Lib.hid hWZ
      have HBZ := Lib.hid hbZ
      clear hWZ hbZ
      refine take_call (i := 9) rfl (by kernel_rfl) (fun K2 hK => ?_)
      go_simp
      rw [← HWZ.out]
      refine hK.out _ _ HBZ.out (fun hHeld2 => ?_)
      clear hK hHeld hHeld2 HWZ o0 z0 o1 z1 o2 z2 l0
      refine wpAnyH_done (by kernel_rfl) ?_ _
      go_wp2_with fail
      go_meet
      case rel => exact ⟨gb, gk, a2, c2, rfl, HFM.out, HKD.out, HCL.out, HBZ.out, HGK.out, HGB.out⟩
  case rest =>
    obtain ⟨gb, gk, a2, c2, rfl, C⟩ := hcut
    obtain ⟨⟨x0, x1, x2⟩, _⟩ := rowN3 C.out.1
    have S6 := Lib.hid (S1.out.below C.out.2.2.2.1)
    go_wp2_with fail
    refine (wrongFlow_any m la m.ln lk gk a2 c2 f _ C.out.2.1 C.out.2.2.1.at_ HR.out).mono ?_
    rintro e w7 ⟨⟨z, rfl, hwr⟩, hb⟩
    have HWR := Lib.hid hwr
    obtain ⟨hzb1, hzb2⟩ := hwr.pos HR.out.pn
    have S7 := Lib.hid (S6.out.below hb)
    have C7 : Hid (w7.rowIs gb 70 3 (rowN [.slice la m.ln lk, .slice (some ⟨gk, 0, none⟩) m.pn m.pn, .slice a2 m.pn c2]) ∧ KdBlk gk m w7 ∧ OwL 2 w1.heap.size m.pn a2 c2 f w7 ∧ w1.heap.size ≤ gk ∧ w1.heap.size ≤ gb) := ⟨nrow_below C.out.1 hb, C.out.2.1.below hb, C.out.2.2.1.below hb, C.out.2.2.2.2.1, C.out.2.2.2.2.2⟩
    have LZ : Hid (w.heap.size + 1 < w1.heap.size) := S1.out.res.lt
    clear hwr hb C S6 x0 x1 x2 S1
    by_cases hz0 : 0 ≤ z
    · have HNR : Hid (¬ Mn.AllOk m f) := fun k => by
        rcases HWR.out with ⟨i, h1, _, h3, _⟩ | ⟨h1, _⟩
        · exact h3 (k i h1)
        · omega
      have D := Lib.hid (S7.out.done (.slice none 0 0) (.slice none 0 0) (.slice none 0 0))
      obtain ⟨⟨x0, x1, x2⟩, z0, z1, z2⟩ := rowN3 S7.out.res
      have lx := S7.out.res.lt
      go_wp2_with fail
      obtain ⟨⟨q0, q1, q2⟩, _⟩ := rowN3 D.out.1
      refine bodyPost_ret (v := .tuple #[rmZ, errV ⟨#[97, 32, 102, 108, 111, 119]⟩ 1]) ?_ rfl ⟨GvEnd.no 1 _ (Or.inr ⟨rfl, H4.out, (fun k => HNR.out k.2.2)⟩) rfl, D.out.2.1⟩
      simp only [results, Tryz.results39]
      simp [go_sem, q0, q1, q2]
    · have HO : Hid (Mn.AllOk m f) := by
        rcases HWR.out with ⟨i, _, h2, _⟩ | ⟨_, h2⟩
        · omega
        · exact h2
      have D := Lib.hid (S7.out.done (.slice la m.ln lk) (.slice (some ⟨gk, 0, none⟩) m.pn m.pn) (.slice a2 m.pn c2))
      obtain ⟨⟨x0, x1, x2⟩, z0, z1, z2⟩ := rowN3 S7.out.res
      obtain ⟨⟨y0, y1, y2⟩, _⟩ := rowN3 C7.out.1
      have lx := S7.out.res.lt
      have lz := LZ.out
      have lg := C7.out.2.2.2.2
      have hne : ¬ gb = w.heap.size + 1 := by omega
      clear lz lg
      go_wp2_with fail
      obtain ⟨⟨q0, q1, q2⟩, _⟩ := rowN3 D.out.1
      have lz := LZ.out
      refine bodyPost_ret (v := .tuple #[rmV la m.ln lk gk m.pn a2 c2, .nilIface]) ?_ rfl ⟨GvEnd.ok gk a2 c2 H4.out HR.out rfl HO.out rfl (C7.out.2.1.block (D.out.2.2 _ (by have := C7.out.2.2.2.1; omega))) ((C7.out.2.2.1.keep (fun k e hk => D.out.2.2 k (by have := (C7.out.2.2.1.lt e).1; omega))).low (by omega)) (by have := C7.out.2.2.2.1; omega), D.out.2.1⟩
      simp only [results, Tryz.results39]
      simp [go_sem, q0, q1, q2]
end Go.Proofs.YtfgmalnkpgloiaaGreatDoor
namespace Go.Proofs.YtfgmalnkpgloiaaGreatDoor
open Go.RowKit Go.Deep
/-- What stands from branch to branch. -/
structure HpS (m : Mn.Mains) (la : Option Addr) (ln lk gk : Nat) (fa : Option Addr) (fc : Nat) (H : Nat → Int) (w W : World) : Prop where
  rr : W.rowIs w.heap.size 70 3 (rowN [.slice la ln lk, .slice (some ⟨gk, 0, none⟩) m.pn m.pn, .slice fa m.pn fc])
  hd : IsBlk 2 (w.heap.size + 1) (Mn.nn m) H W
  old : Below w.heap.size w W
theorem HpS.below {m : Mn.Mains} {la : Option Addr} {ln lk gk : Nat} {fa : Option Addr} {fc : Nat} {H : Nat → Int} {w W W' : World} (h : HpS m la ln lk gk fa fc H w W) (hb : Below W.heap.size W W') : HpS m la ln lk gk fa fc H w W' := ⟨nrow_below h.rr hb, h.hd.below hb, h.old.trans (hb.mono h.old.size)⟩
/-- What is read while one branch is gone along. -/
structure HgS (m : Mn.Mains) (x fn tn : Nat) (wy : Int) (fr : Nat) (gb gk : Nat) (fa : Option Addr) (fc : Nat) (la : Option Addr) (ln lk : Nat) (H : Nat → Int) (w W : World) : Prop where
  rb : W.rowIs gb 117 4 (rowN [.int .i64 (x : Int), .int .i64 wy, .int .i64 (fn : Int), .int .i64 (tn : Int)])
  rr : W.rowIs w.heap.size 70 3 (rowN [.slice la ln lk, .slice (some ⟨gk, 0, none⟩) m.pn m.pn, .slice fa m.pn fc])
  c : W.cell? ⟨w.heap.size + 1, fn, none⟩ = some (.int .i64 (H fn))
  old : Below w.heap.size w W
  du : fr = fr
theorem HgS.below {m : Mn.Mains} {x fn tn : Nat} {wy : Int} {fr gb gk : Nat} {fa : Option Addr} {fc : Nat} {la : Option Addr} {ln lk : Nat} {H : Nat → Int} {w W W' : World} (h : HgS m x fn tn wy fr gb gk fa fc la ln lk H w W) (hb : Below W.heap.size W W') : HgS m x fn tn wy fr gb gk fa fc la ln lk H w W' := ⟨nrow_below h.rb hb, nrow_below h.rr hb, (hb.cell (World.block_lt_of_cell? _ _ h.c)).trans h.c, h.old.trans (hb.mono h.old.size), rfl⟩
theorem HgS.put {m : Mn.Mains} {x fn tn : Nat} {wy : Int} {fr gb gk : Nat} {fa : Option Addr} {fc : Nat} {la : Option Addr} {ln lk : Nat} {H : Nat → Int} {w W : World} (h : HgS m x fn tn wy fr gb gk fa fc la ln lk H w W) (hne : fn ≠ tn) (hgb : gb ≠ w.heap.size + 1) (v : Value) : HgS m x fn tn wy fr gb gk fa fc la ln lk H w (W.setCell ⟨w.heap.size + 1, tn, none⟩ v) := by
  refine ⟨h.rb.of_block (Below.heap_setCell _ _ _ _ hgb), h.rr.of_block (Below.heap_setCell _ _ _ _ (by show w.heap.size ≠ w.heap.size + 1; omega)), ?_, h.old.setCell (p := ⟨w.heap.size + 1, tn, none⟩) (by show w.heap.size ≤ w.heap.size + 1; omega) _, rfl⟩
  have hA : (⟨w.heap.size + 1, tn, none⟩ : Addr) ≠ ⟨w.heap.size + 1, fn, none⟩ := by intro e; injection e; omega
  first
  | exact (World.cell?_setCell_other hA).trans h.c
  | exact (World.cell?_setCell_other _ hA).trans h.c
  | exact (World.cell?_setCell_other _ _ hA).trans h.c
  | exact (World.cell?_setCell_other _ _ _ hA).trans h.c
  | exact (World.cell?_setCell_other _ _ _ _ hA).trans h.c
set_option maxRecDepth 100000 in
set_option maxHeartbeats 8000000 in
theorem headsAlong_any (m : Mn.Mains) (la : Option Addr) (ln lk gk : Nat) (fa : Option Addr) (fc : Nat) (f : Nat → Int) (tv : Value) (w : World) (hk : KdBlk gk m w) (hf : IsAt fa m.pn f w) (ht : TrAt m tv (Mn.fin m).2 w) (hr : Mn.Right m) (ho : Mn.AllOk m f) (hout : Mn.OutAt (Mn.fin m).1 (Mn.nn m) (-1)) :
    Calls Tryz.prog 40 #[rmV la ln lk gk m.pn fa fc, tv, .int .i64 m.head] w fun e w' => (∃ g, e = .returned (.slice (some ⟨g, 0, none⟩) (Mn.nn m) (Mn.nn m)) ∧ IsBlk 2 g (Mn.nn m) (Mn.heads m f) w' ∧ w.heap.size ≤ g) ∧ Below w.heap.size w w' := by
  have hlen := Mn.fin_len hr hout
  obtain ⟨hnn, hn1, hn2, hwn⟩ := hr.nn
  have hmc : (madeCells #[.int .i64 0] (Mn.nn m))[0]? = some (.int .i64 0) := by have h0 : 0 < Mn.nn m := hn1; simp [madeCells, h0]
  have hn0 : (0 : Int) < (Mn.nn m : Int) := by omega
  have hfin := Mn.fin_ok hr
  obtain ⟨l, hl⟩ : ∃ l, l = (Mn.fin m).2 := ⟨_, rfl⟩
  rw [← hl] at hlen ht hfin
  have HHE : Hid (Mn.heads m f = Mn.headTo m f l (Mn.head0 m) l.length) := by show _ = _; rw [hl]; rfl
  have HFI := Lib.hid hfin
  have hmk : ∀ w : World, (Instr.makeSlice 25 (.int .i64 ((l.length : Int) + 1)) (.int .i64 ((l.length : Int) + 1))).run Tryz.prog w = .ok (.slice (some ⟨w.heap.size, 0, none⟩) (Mn.nn m) (Mn.nn m)) (w.alloc (.cells (madeCells #[.int .i64 0] (Mn.nn m)) 2)) := fun w => by
    rw [show ((l.length : Int) + 1) = ((Mn.nn m : Nat) : Int) by omega]
    exact mmk_i64 (Mn.nn m) (by omega) w
  have HK := Lib.hid hk
  have HF := Lib.hid hf
  have HT := Lib.hid ht
  have HR := Lib.hid hr
  have HO := Lib.hid ho
  have HLEN : Hid (l.length + 1 = Mn.nn m) := hlen
  have hll : l.length ≤ 11 := by omega
  obtain ⟨ta, tc, etv, _⟩ := ht
  subst etv
  obtain ⟨W0, hW0⟩ : ∃ W0, W0 = (w.alloc (.cells #[.slice la ln lk, .slice (some ⟨gk, 0, none⟩) m.pn m.pn, .slice fa m.pn fc] 70)).alloc (.cells ((madeCells #[.int .i64 0] (Mn.nn m)).setIfInBounds 0 (.int .i64 m.head)) 2) := ⟨_, rfl⟩
  have ST : Hid (HpS m la ln lk gk fa fc (Mn.headTo m f l (Mn.head0 m) 0) w W0) := by
    show HpS _ _ _ _ _ _ _ _ _ _
    rw [hW0]
    refine ⟨nrow_below (rowN_alloc w _ _) (nbel_alloc _ _), ?_, mbel2 _ _ _⟩
    have := mis_new1 (w.alloc (.cells #[.slice la ln lk, .slice (some ⟨gk, 0, none⟩) m.pn m.pn, .slice fa m.pn fc] 70)) (Mn.nn m) m.head hn1
    rw [World.size_alloc] at this
    exact this
  have HW0 := Lib.hid hW0
  clear hk hf hr ho hout hnn hwn hW0 hlen hfin hl
  go_enter Tryz.func40, Tryz.ntmps40
  go_wp2_with fail
  rw [← HW0.out]
  clear hmk hmc HW0
  go_loopw [19] (fun kv wr => ∃ (k : Nat), k ≤ l.length ∧ kv = .int .i64 k ∧ Hid (HpS m la ln lk gk fa fc (Mn.headTo m f l (Mn.head0 m) k) w wr)) (fun kv _ => l.length - (intOf kv).toNat)
  case atStart => exact ⟨0, Nat.zero_le _, rfl, ST⟩
  case round =>
    obtain ⟨k, hk, rfl, hS⟩ := hrel
    clear ST
    by_cases hlt : k < l.length
    · have hltz : (k : Int) < (l.length : Int) := by omega
      obtain ⟨xe, hx⟩ : ∃ xe, l[k]? = some xe := ⟨_, List.getElem?_eq_getElem hlt⟩
      have hxp0 := HFI.out.2 xe (List.mem_of_getElem? hx)
      have hhb := Mn.head_bd HR.out HO.out HFI.out.2 k
      have HSX : Hid (Mn.headTo m f l (Mn.head0 m) (k + 1) = Mn.headStep m f xe (Mn.headTo m f l (Mn.head0 m) k)) := by show _ = _; simp only [Mn.headTo, hx]
      obtain ⟨_, _, e3, q3⟩ := HT.out
      rcases q3 with q3 | ⟨tg, q4, q5, q6⟩
      · rw [q3] at hlt; exact absurd hlt (by simp)
      cases e3
      subst q4
      obtain ⟨t0, t1, t2, t3⟩ := q6 k xe hx
      have old := hS.out.old
      replace t0 := (old.cell q5).trans t0
      replace t1 := (old.cell q5).trans t1
      replace t2 := (old.cell q5).trans t2
      replace t3 := (old.cell q5).trans t3
      have ltg : tg < wr.heap.size := Nat.lt_of_lt_of_le q5 old.size
      obtain ⟨x, fw⟩ := xe
      simp only at hxp0 t0 t1 t2 t3
      have hxp := Lib.hid hxp0
      have hff := HR.out.fN hxp0
      have htt := HR.out.tN hxp0
      have hne := HR.out.ftne hxp0
      have HPP := Lib.hid (HR.out.p x hxp0)
      have fbd := Mn.okF_bd HPP.out (HO.out x hxp0)
      have HQB := Lib.hid (Mn.fall_bd HPP.out fbd.1 fbd.2)
      obtain ⟨KT, KV, ff, rr, hkv, hm, he, hcf⟩ := fall_of m x HPP.out (f x) fbd.1 fbd.2
      have HCF := Lib.hid hcf
      have HKV := Lib.hid hkv
      obtain ⟨fb, ef, df⟩ := HF.out.at1 hxp0
      subst ef
      have DF := Lib.hid df
      have hxz : (x : Int) < (m.pn : Int) := by omega
      obtain ⟨H, hH⟩ : ∃ H, H = Mn.headTo m f l (Mn.head0 m) k := ⟨_, rfl⟩
      rw [← hH] at HSX hS hhb
      obtain ⟨wy, hwy⟩ : ∃ wy : Int, wy = if fw then 1 else -1 := ⟨_, rfl⟩
      obtain ⟨fn, hfn⟩ : ∃ fn : Nat, fn = if fw then Mn.fN m x else Mn.tN m x := ⟨_, rfl⟩
      obtain ⟨tn, htn0⟩ : ∃ tn : Nat, tn = if fw then Mn.tN m x else Mn.fN m x := ⟨_, rfl⟩
      have HWY : Hid (wy = 1 ∨ wy = -1) := by show _ ∨ _; rw [hwy]; cases fw <;> simp
      have HHS : Hid (Mn.headTo m f l (Mn.head0 m) (k + 1) = updI H tn (H fn - wy * Mn.fall m x (f x))) := by
        show _ = _
        rw [HSX.out, hwy, hfn, htn0]
        cases fw with
        | true => simp [Mn.headStep]
        | false =>
          have e1 : H (Mn.tN m x) - -1 * Mn.fall m x (f x) = H (Mn.tN m x) + Mn.fall m x (f x) := by omega
          simp only [Mn.headStep]
          simp only [Bool.false_eq_true, if_false]
          rw [e1]
      have HHB : Hid (∀ j, -20000000000000000 ≤ H j ∧ H j ≤ 20000000000000000) := by
        intro j
        have h1 := hhb j
        have h2 : (k : Int) ≤ 11 := by omega
        omega
      have hfnb : fn < Mn.nn m := by rw [hfn]; cases fw <;> simp [hff.2, htt.2]
      have htnb : tn < Mn.nn m := by rw [htn0]; cases fw <;> simp [hff.2, htt.2]
      have HNE : Hid (fn ≠ tn) := by
        show _ ≠ _
        rw [hfn, htn0]
        cases fw
        · simp; exact fun e => hne e.symm
        · simp; exact hne
      have t2' : wr.cell? ⟨tg, k * 4 + 2, none⟩ = some (.int .i64 (fn : Int)) := by rw [t2, hfn]; cases fw <;> rfl
      have t3' : wr.cell? ⟨tg, k * 4 + 3, none⟩ = some (.int .i64 (tn : Int)) := by rw [t3, htn0]; cases fw <;> rfl
      rw [← hwy] at t1
      have htn := Lib.hid htnb
      have hfz : (fn : Int) < (Mn.nn m : Int) := by omega
      have htz : (tn : Int) < (Mn.nn m : Int) := by omega
      have RB : Hid ((wr.alloc (.cells #[.int .i64 (x : Int), .int .i64 wy, .int .i64 (fn : Int), .int .i64 (tn : Int)] 117)).rowIs wr.heap.size 117 4 (rowN [.int .i64 (x : Int), .int .i64 wy, .int .i64 (fn : Int), .int .i64 (tn : Int)])) := rowN_alloc wr _ _
      have HFC := Lib.hid hfnb
      clear hx hxp0 fbd df q5 q6 hff htt hhb HSX hH hne t2 t3 hcf hkv old hwy hfn htn0 htnb hfnb
      go_wp2_with fail
      obtain ⟨V0, hV0⟩ : ∃ V0, V0 = wr.alloc (.cells #[.int .i64 (x : Int), .int .i64 wy, .int .i64 (fn : Int), .int .i64 (tn : Int)] 117) := ⟨_, rfl⟩
      rw [← hV0] at RB ⊢
      have hbV : Below wr.heap.size wr V0 := by rw [hV0]; exact nbel_alloc _ _
      have HGB : Hid (wr.heap.size ≠ w.heap.size + 1) := by show _ ≠ _; have := hS.out.hd.lt; omega
      have SV := Lib.hid (hS.out.below hbV)
      obtain ⟨gb, hgb⟩ : ∃ gb, gb = wr.heap.size := ⟨_, rfl⟩
      rw [← hgb] at RB HGB ⊢
      have HG0 : Hid (HgS m x fn tn wy 0 gb gk (some ⟨fb, 0, none⟩) fc la ln lk H w V0.drew) := HgS.below ⟨RB.out, SV.out.rr, SV.out.hd.cell HFC.out, SV.out.old, rfl⟩ (Below.refl _ _).drew
      have HDI : Hid (IsBlk 2 (w.heap.size + 1) (Mn.nn m) H V0) := SV.out.hd
      clear hV0 hbV hS hgb t0 t1 t2' t3' ltg RB
      refine wp_region_held_drew (S := HgS m x fn tn wy 0 gb gk (some ⟨fb, 0, none⟩) fc la ln lk H w) (by kernel_rfl) HG0.out (fun hHeld => ?_)
      refine take_do (i := 0) (v := (.slice (some ⟨w.heap.size + 1, 0, none⟩) (Mn.nn m) (Mn.nn m))) rfl (by kernel_rfl) (by kernel_rfl) (by kernel_rfl) (fun _ _ _ h => h) (by rfl) ?_ (by assumption) ?_
      · intro w' hSw
        skip
        go_simp
      simp only [Act.put, List.setIfInBounds_toArray, List.set_cons_zero, List.set_cons_succ]
      refine take_do (i := 1) (v := (.pointer (some ⟨gb, 3, none⟩))) rfl (by kernel_rfl) (by kernel_rfl) (by kernel_rfl) (fun _ _ _ h => h) (by rfl) ?_ (by assumption) ?_
      · intro w' hSw
        skip
        go_simp
      simp only [Act.put, List.setIfInBounds_toArray, List.set_cons_zero, List.set_cons_succ]
      refine take_do (i := 2) (v := (.int .i64 (tn : Int))) rfl (by kernel_rfl) (by kernel_rfl) (by kernel_rfl) (fun _ _ _ h => h) (by rfl) ?_ (by assumption) ?_
      · intro w' hSw
        obtain ⟨⟨b0, b1, b2, b3⟩, _⟩ := rowN4 hSw.rb
        go_simp
      simp only [Act.put, List.setIfInBounds_toArray, List.set_cons_zero, List.set_cons_succ]
      refine take_do (i := 3) (v := (.slice (some ⟨w.heap.size + 1, 0, none⟩) (Mn.nn m) (Mn.nn m))) rfl (by kernel_rfl) (by kernel_rfl) (by kernel_rfl) (fun _ _ _ h => h) (by rfl) ?_ (by assumption) ?_
      · intro w' hSw
        skip
        go_simp
      simp only [Act.put, List.setIfInBounds_toArray, List.set_cons_zero, List.set_cons_succ]
      refine take_do (i := 4) (v := (.pointer (some ⟨gb, 2, none⟩))) rfl (by kernel_rfl) (by kernel_rfl) (by kernel_rfl) (fun _ _ _ h => h) (by rfl) ?_ (by assumption) ?_
      · intro w' hSw
        skip
        go_simp
      simp only [Act.put, List.setIfInBounds_toArray, List.set_cons_zero, List.set_cons_succ]
      refine take_do (i := 5) (v := (.int .i64 (fn : Int))) rfl (by kernel_rfl) (by kernel_rfl) (by kernel_rfl) (fun _ _ _ h => h) (by rfl) ?_ (by assumption) ?_
      · intro w' hSw
        obtain ⟨⟨b0, b1, b2, b3⟩, _⟩ := rowN4 hSw.rb
        go_simp
      simp only [Act.put, List.setIfInBounds_toArray, List.set_cons_zero, List.set_cons_succ]
      refine take_do (i := 6) (v := (.pointer (some ⟨w.heap.size + 1, fn, none⟩))) rfl (by kernel_rfl) (by kernel_rfl) (by kernel_rfl) (fun _ _ _ h => h) (by rfl) ?_ (by assumption) ?_
      · intro w' hSw
        skip
        go_simp
      simp only [Act.put, List.setIfInBounds_toArray, List.set_cons_zero, List.set_cons_succ]
      refine take_do (i := 7) (v := (.int .i64 (H fn))) rfl (by kernel_rfl) (by kernel_rfl) (by kernel_rfl) (fun _ _ _ h => h) (by rfl) ?_ (by assumption) ?_
      · intro w' hSw
        have hc := hSw.c
        go_simp
      simp only [Act.put, List.setIfInBounds_toArray, List.set_cons_zero, List.set_cons_succ]
      refine take_do (i := 8) (v := (.pointer (some ⟨gb, 1, none⟩))) rfl (by kernel_rfl) (by kernel_rfl) (by kernel_rfl) (fun _ _ _ h => h) (by rfl) ?_ (by assumption) ?_
      · intro w' hSw
        skip
        go_simp
      simp only [Act.put, List.setIfInBounds_toArray, List.set_cons_zero, List.set_cons_succ]
      refine take_do (i := 9) (v := (.int .i64 wy)) rfl (by kernel_rfl) (by kernel_rfl) (by kernel_rfl) (fun _ _ _ h => h) (by rfl) ?_ (by assumption) ?_
      · intro w' hSw
        obtain ⟨⟨b0, b1, b2, b3⟩, _⟩ := rowN4 hSw.rb
        go_simp
      simp only [Act.put, List.setIfInBounds_toArray, List.set_cons_zero, List.set_cons_succ]
      refine take_do (i := 10) (v := (.pointer (some ⟨w.heap.size, 1, none⟩))) rfl (by kernel_rfl) (by kernel_rfl) (by kernel_rfl) (fun _ _ _ h => h) (by rfl) ?_ (by assumption) ?_
      · intro w' hSw
        skip
        go_simp
      simp only [Act.put, List.setIfInBounds_toArray, List.set_cons_zero, List.set_cons_succ]
      refine take_do (i := 11) (v := (.slice (some ⟨gk, 0, none⟩) m.pn m.pn)) rfl (by kernel_rfl) (by kernel_rfl) (by kernel_rfl) (fun _ _ _ h => h) (by rfl) ?_ (by assumption) ?_
      · intro w' hSw
        obtain ⟨⟨r0, r1, r2⟩, _⟩ := rowN3 hSw.rr
        go_simp
      simp only [Act.put, List.setIfInBounds_toArray, List.set_cons_zero, List.set_cons_succ]
      refine take_do (i := 12) (v := (.pointer (some ⟨gb, 0, none⟩))) rfl (by kernel_rfl) (by kernel_rfl) (by kernel_rfl) (fun _ _ _ h => h) (by rfl) ?_ (by assumption) ?_
      · intro w' hSw
        skip
        go_simp
      simp only [Act.put, List.setIfInBounds_toArray, List.set_cons_zero, List.set_cons_succ]
      refine take_do (i := 13) (v := (.int .i64 (x : Int))) rfl (by kernel_rfl) (by kernel_rfl) (by kernel_rfl) (fun _ _ _ h => h) (by rfl) ?_ (by assumption) ?_
      · intro w' hSw
        obtain ⟨⟨b0, b1, b2, b3⟩, _⟩ := rowN4 hSw.rb
        go_simp
      simp only [Act.put, List.setIfInBounds_toArray, List.set_cons_zero, List.set_cons_succ]
      refine take_do (i := 14) (v := (.pointer (some ⟨gk, x, none⟩))) rfl (by kernel_rfl) (by kernel_rfl) (by kernel_rfl) (fun _ _ _ h => h) (by rfl) ?_ (by assumption) ?_
      · intro w' hSw
        skip
        go_simp
      simp only [Act.put, List.setIfInBounds_toArray, List.set_cons_zero, List.set_cons_succ]
      refine take_do (i := 15) (v := (.iface KT KV)) rfl (by kernel_rfl) (by kernel_rfl) (by kernel_rfl) (fun _ _ _ h => h) (by rfl) ?_ (by assumption) ?_
      · intro w' hSw
        have ck := kd_cell (HK.out.below hSw.old) hxp.out
        rw [HKV.out] at ck
        go_simp
      simp only [Act.put, List.setIfInBounds_toArray, List.set_cons_zero, List.set_cons_succ]
      refine take_do (i := 16) (v := (.pointer (some ⟨w.heap.size, 2, none⟩))) rfl (by kernel_rfl) (by kernel_rfl) (by kernel_rfl) (fun _ _ _ h => h) (by rfl) ?_ (by assumption) ?_
      · intro w' hSw
        skip
        go_simp
      simp only [Act.put, List.setIfInBounds_toArray, List.set_cons_zero, List.set_cons_succ]
      refine take_do (i := 17) (v := (.slice (some ⟨fb, 0, none⟩) m.pn fc)) rfl (by kernel_rfl) (by kernel_rfl) (by kernel_rfl) (fun _ _ _ h => h) (by rfl) ?_ (by assumption) ?_
      · intro w' hSw
        obtain ⟨⟨r0, r1, r2⟩, _⟩ := rowN3 hSw.rr
        go_simp
      simp only [Act.put, List.setIfInBounds_toArray, List.set_cons_zero, List.set_cons_succ]
      refine take_do (i := 18) (v := (.pointer (some ⟨gb, 0, none⟩))) rfl (by kernel_rfl) (by kernel_rfl) (by kernel_rfl) (fun _ _ _ h => h) (by rfl) ?_ (by assumption) ?_
      · intro w' hSw
        skip
        go_simp
      simp only [Act.put, List.setIfInBounds_toArray, List.set_cons_zero, List.set_cons_succ]
      refine take_do (i := 19) (v := (.int .i64 (x : Int))) rfl (by kernel_rfl) (by kernel_rfl) (by kernel_rfl) (fun _ _ _ h => h) (by rfl) ?_ (by assumption) ?_
      · intro w' hSw
        obtain ⟨⟨b0, b1, b2, b3⟩, _⟩ := rowN4 hSw.rb
        go_simp
      simp only [Act.put, List.setIfInBounds_toArray, List.set_cons_zero, List.set_cons_succ]
      refine take_do (i := 20) (v := (.pointer (some ⟨fb, x, none⟩))) rfl (by kernel_rfl) (by kernel_rfl) (by kernel_rfl) (fun _ _ _ h => h) (by rfl) ?_ (by assumption) ?_
      · intro w' hSw
        skip
        go_simp
      simp only [Act.put, List.setIfInBounds_toArray, List.set_cons_zero, List.set_cons_succ]
      refine take_do (i := 21) (v := (.int .i64 (f x))) rfl (by kernel_rfl) (by kernel_rfl) (by kernel_rfl) (fun _ _ _ h => h) (by rfl) ?_ (by assumption) ?_
      · intro w' hSw
        have df := (hSw.old.cell (World.block_lt_of_cell? _ _ DF.out)).trans DF.out
        go_simp
      simp only [Act.put, List.setIfInBounds_toArray, List.set_cons_zero, List.set_cons_succ]
      refine take_do (i := 22) (v := (.iface KT KV)) rfl (by kernel_rfl) (by kernel_rfl) (by kernel_rfl) (fun _ _ _ h => h) (by rfl) ?_ (by assumption) ?_
      · intro w' hSw
        skip
        go_simp
      simp only [Act.put, List.setIfInBounds_toArray, List.set_cons_zero, List.set_cons_succ]
      refine take_do (i := 23) (v := (.iface KT KV)) rfl (by kernel_rfl) (by kernel_rfl) (by kernel_rfl) (fun _ _ _ h => h) (by rfl) ?_ (by assumption) ?_
      · intro w' hSw
        skip
        go_simp
      simp only [Act.put, List.setIfInBounds_toArray, List.set_cons_zero, List.set_cons_succ]
      refine take_call (i := 24) rfl (by kernel_rfl) (fun K2 hK => ?_)
      go_simp
      refine (HCF.out _).mono ?_
      rintro e w5 ⟨rfl, hb⟩
      obtain ⟨Q, hQ⟩ : ∃ Q, Q = Mn.fall m x (f x) := ⟨_, rfl⟩
      rw [← hQ] at HQB HHS ⊢
      clear hQ
      replace HDI := Lib.hid (HDI.out.below ((Below.refl _ _).drew.trans (hb.mono (Nat.le_refl _))))
      go_wp2_with fail
      refine hK.out _ _ (hHeld.below hb) (fun hHeld2 => ?_)
      clear hK hHeld hb
      have hHeld := hHeld2
      clear hHeld2
      have HM1 : Hid (IntKind.i64.wrap (wy * Q) = wy * Q) := by
        obtain ⟨q1, q2⟩ := HQB.out
        rcases HWY.out with e | e <;> rw [e] <;> exact mwrap_id (by omega) (by omega)
      have HM2 : Hid (IntKind.i64.wrap (H fn - wy * Q) = H fn - wy * Q) := by
        obtain ⟨q1, q2⟩ := HQB.out
        obtain ⟨q3, q4⟩ := HHB.out fn
        rcases HWY.out with e | e <;> rw [e] <;> exact mwrap_id (by omega) (by omega)
      refine take_do (i := 25) (v := (.int .i64 (wy * Q))) rfl (by kernel_rfl) (by kernel_rfl) (by kernel_rfl) (fun _ _ _ h => h) (by rfl) ?_ (by assumption) ?_
      · intro w' hSw
        have hq := HM1.out
        go_simp
      simp only [Act.put, List.setIfInBounds_toArray, List.set_cons_zero, List.set_cons_succ]
      refine take_do (i := 26) (v := (.int .i64 (H fn - wy * Q))) rfl (by kernel_rfl) (by kernel_rfl) (by kernel_rfl) (fun _ _ _ h => h) (by rfl) ?_ (by assumption) ?_
      · intro w' hSw
        have hq := HM2.out
        go_simp
      simp only [Act.put, List.setIfInBounds_toArray, List.set_cons_zero, List.set_cons_succ]
      refine take_do (i := 27) (v := (.pointer (some ⟨w.heap.size + 1, tn, none⟩))) rfl (by kernel_rfl) (by kernel_rfl) (by kernel_rfl) (fun _ _ _ h => h) (by rfl) ?_ (by assumption) ?_
      · intro w' hSw
        skip
        go_simp
      simp only [Act.put, List.setIfInBounds_toArray, List.set_cons_zero, List.set_cons_succ]
      have o0 := HDI.out.cell htn.out
      have z0 := HDI.out.frozen tn
      have l0 := HDI.out.lt
      obtain ⟨WZ, hWZ⟩ : ∃ WZ, WZ = w5.setCell ⟨w.heap.size + 1, tn, none⟩ (.int .i64 (H fn - wy * Q)) := ⟨_, rfl⟩
      have HBZ : Hid (HgS m x fn tn wy 0 gb gk (some ⟨fb, 0, none⟩) fc la ln lk H w WZ) := by
        show HgS _ _ _ _ _ _ _ _ _ _ _ _ _ _ _ _
        rw [hWZ]
        exact hHeld.put HNE.out HGB.out _
      have HFM : Hid (IsBlk 2 (w.heap.size + 1) (Mn.nn m) (updI H tn (H fn - wy * Q)) WZ) := by
        show IsBlk _ _ _ _ _
        rw [hWZ]
        exact HDI.out.set _ _
      have HWZ := Lib.hid hWZ
      clear hWZ
      refine take_call (i := 28) rfl (by kernel_rfl) (fun K2 hK => ?_)
      go_simp
      rw [← HWZ.out]
      refine hK.out _ _ HBZ.out (fun hHeld2 => ?_)
      clear hK hHeld hHeld2 HWZ o0 z0 l0
      refine wpAnyH_done (by kernel_rfl) ?_ _
      have S9 : Hid (HpS m la ln lk gk (some ⟨fb, 0, none⟩) fc (Mn.headTo m f l (Mn.head0 m) (k + 1)) w WZ) := ⟨HBZ.out.rr, by rw [HHS.out]; exact HFM.out, HBZ.out.old⟩
      clear HBZ HFM
      go_wp2_with fail
      go_roundw
      case rel => exact ⟨k + 1, by omega, by go_num, S9⟩
      case measure => simp [intOf]; omega
    · have hkz : ¬ (k : Int) < (l.length : Int) := by omega
      have HEQ : Hid (Mn.heads m f = Mn.headTo m f l (Mn.head0 m) k) := by show _ = _; rw [HHE.out, show k = l.length by omega]
      go_wp2_with fail
      go_ret
      exact ⟨⟨_, rfl, by rw [HEQ.out]; exact hS.out.hd, by omega⟩, hS.out.old⟩
end Go.Proofs.YtfgmalnkpgloiaaGreatDoor
namespace Go.Proofs.YtfgmalnkpgloiaaGreatDoor
open Go.RowKit Go.Deep
set_option maxRecDepth 100000 in
set_option maxHeartbeats 8000000 in
theorem change_any (m : Mn.Mains) (la : Option Addr) (ln lk gk : Nat) (fa : Option Addr) (fc : Nat) (f : Nat → Int) (xa : Option Addr) (n xc : Nat) (L : Nat → Int) (w : World) (hk : KdBlk gk m w) (hf : IsAt fa m.pn f w) (hx : IsAt xa n L w) (hr : Mn.Right m) (ho : Mn.AllOk m f) (hl : Mn.LoopOk m n L) :
    Calls Tryz.prog 87 #[rmV la ln lk gk m.pn fa fc, .slice xa n xc] w fun e w' => e = .returned (.int .i64 (Mn.chg m f L n)) ∧ Below w.heap.size w w' := by
  have ST : Hid (WfS m la ln lk gk fa fc f w (w.alloc (.cells #[.slice la ln lk, .slice (some ⟨gk, 0, none⟩) m.pn m.pn, .slice fa m.pn fc] 70))) := ⟨rowN_alloc w [.slice la ln lk, .slice (some ⟨gk, 0, none⟩) m.pn m.pn, .slice fa m.pn fc] _, hk.below (nbel_alloc _ _), hf.below (nbel_alloc _ _), nbel_alloc _ _⟩
  have HXA : Hid (IsAt xa n L (w.alloc (.cells #[.slice la ln lk, .slice (some ⟨gk, 0, none⟩) m.pn m.pn, .slice fa m.pn fc] 70))) := hx.below (nbel_alloc _ _)
  have hn40 : n ≤ 40 := hl.n2
  have sb := Mn.sum_bd hr ho n hl.num
  have HR := Lib.hid hr
  have HO := Lib.hid ho
  have HN := Lib.hid hl.num
  have HN1 := Lib.hid hl.n1
  clear hk hf hr ho hx hl
  go_enter Tryz.func87, Tryz.ntmps87
  go_wp2_with fail
  refine (iwt_any m la ln lk gk fa fc f xa n xc L _ ST.out.k ST.out.f HXA.out HR.out HO.out HN.out hn40).mono ?_
  rintro e w1 ⟨rfl, hb⟩
  have SX := Lib.hid (ST.out.below hb)
  have HX1 := Lib.hid (HXA.out.below hb)
  clear hb ST HXA
  obtain ⟨WT, hWT⟩ : ∃ WT, WT = Mn.wtTo m f L n := ⟨_, rfl⟩
  obtain ⟨SU, hSU⟩ : ∃ SU, SU = Mn.sumTo m f L n := ⟨_, rfl⟩
  rw [← hWT, ← hSU] at sb
  rw [← hWT]
  by_cases hw0 : WT = 0
  · have hw0' : (WT == 0) = true := by simp [hw0]
    have HE : Hid (Mn.chg m f L n = 0) := by show _ = _; unfold Mn.chg; rw [← hWT, if_pos hw0]
    clear hw0 hWT hSU sb
    go_wp2_with fail
    go_ret
    exact ⟨by rw [HE.out]; rfl, SX.out.old⟩
  · have hw0' : (WT == 0) = false := by simp [hw0]
    have hw0n : ¬ WT = 0 := hw0
    obtain ⟨c0, hc0⟩ : ∃ c0, c0 = (-SU).tdiv WT := ⟨_, rfl⟩
    have hnz : ((n : Nat) : Int) ≤ 40 := by omega
    have hcb : -50000000000000000 ≤ c0 ∧ c0 ≤ 50000000000000000 := by
      have h1 := Int.natAbs_tdiv_le_natAbs (-SU) WT
      rw [← hc0] at h1
      omega
    have HC0 : Hid ((-SU).tdiv WT = c0) := hc0.symm
    have HQ1 : Hid (IntKind.i64.wrap (-SU) = -SU) := mwrap_id (by omega) (by omega)
    have HQ2 : Hid (IntKind.i64.wrap c0 = c0) := mwrap_id (by omega) (by omega)
    have HSU := Lib.hid hSU
    have HCH : Hid (Mn.chg m f L n = min (max c0 (Mn.roomTo m f L n).1) (Mn.roomTo m f L n).2) := by
      show _ = _
      unfold Mn.chg
      rw [← hWT, if_neg hw0n, ← hSU, ← hc0]
      obtain ⟨n', hn'⟩ : ∃ n', n = n' + 1 := ⟨n - 1, by have := HN1.out; omega⟩
      subst hn'
      exact Mn.ch_room HR.out HO.out c0 n' HN.out
    clear hw0 hc0 hWT hSU sb hnz
    go_wp2_with fail
    refine wp_region_held_drew (S := fun V => Below w1.heap.size w1 V) (by kernel_rfl) (Below.refl _ _).drew (fun hHeld => ?_)
    obtain ⟨Z, hZ⟩ : ∃ Z, Z = w1.drew := ⟨_, rfl⟩
    rw [← hZ] at hHeld ⊢
    clear hZ
    refine take_do (i := 0) (v := (rmV la ln lk gk m.pn fa fc)) rfl (by kernel_rfl) (by kernel_rfl) (by kernel_rfl) (fun _ _ _ h => h) (by rfl) ?_ (by assumption) ?_
    · intro w hSw
      obtain ⟨⟨r0, r1, r2⟩, _⟩ := rowN3 (nrow_below SX.out.row hSw)
      go_simp
    simp only [Act.put, List.setIfInBounds_toArray, List.set_cons_zero, List.set_cons_succ]
    refine take_do (i := 1) (v := (.slice xa n xc)) rfl (by kernel_rfl) (by kernel_rfl) (by kernel_rfl) (fun _ _ _ h => h) (by rfl) ?_ (by assumption) ?_
    · intro w hSw
      skip
      go_simp
    simp only [Act.put, List.setIfInBounds_toArray, List.set_cons_zero, List.set_cons_succ]
    refine take_do (i := 3) (v := (rmV la ln lk gk m.pn fa fc)) rfl (by kernel_rfl) (by kernel_rfl) (by kernel_rfl) (fun _ _ _ h => h) (by rfl) ?_ (by assumption) ?_
    · intro w hSw
      obtain ⟨⟨r0, r1, r2⟩, _⟩ := rowN3 (nrow_below SX.out.row hSw)
      go_simp
    simp only [Act.put, List.setIfInBounds_toArray, List.set_cons_zero, List.set_cons_succ]
    refine take_do (i := 4) (v := (.slice xa n xc)) rfl (by kernel_rfl) (by kernel_rfl) (by kernel_rfl) (fun _ _ _ h => h) (by rfl) ?_ (by assumption) ?_
    · intro w hSw
      skip
      go_simp
    simp only [Act.put, List.setIfInBounds_toArray, List.set_cons_zero, List.set_cons_succ]
    refine take_do (i := 7) (v := (.int .i64 WT)) rfl (by kernel_rfl) (by kernel_rfl) (by kernel_rfl) (fun _ _ _ h => h) (by rfl) ?_ (by assumption) ?_
    · intro w hSw
      skip
      go_simp
    simp only [Act.put, List.setIfInBounds_toArray, List.set_cons_zero, List.set_cons_succ]
    refine take_call (i := 2) rfl (by kernel_rfl) (fun K2 hK => ?_)
    go_simp
    refine (room_any m la ln lk gk fa fc f xa n xc L _ (SX.out.k.below hHeld) (SX.out.f.below hHeld) (HX1.out.below hHeld) HR.out HO.out HN.out hn40).mono ?_
    rintro e w3 ⟨rfl, hb⟩
    go_wp2_with fail
    refine hK.out _ _ (hHeld.trans (hb.mono hHeld.size)) (fun hHeld2 => ?_)
    clear hK hHeld hb
    have hHeld := hHeld2
    clear hHeld2
    refine take_call (i := 5) rfl (by kernel_rfl) (fun K2 hK => ?_)
    go_simp
    refine (isum_any m la ln lk gk fa fc f xa n xc L _ (SX.out.k.below hHeld) (SX.out.f.below hHeld) (HX1.out.below hHeld) HR.out HO.out HN.out hn40).mono ?_
    rintro e w4 ⟨rfl, hb⟩
    go_wp2_with fail
    refine hK.out _ _ (hHeld.trans (hb.mono hHeld.size)) (fun hHeld2 => ?_)
    clear hK hHeld hb
    have hHeld := hHeld2
    clear hHeld2
    rw [← HSU.out]
    refine take_do (i := 6) (v := (.int .i64 (-SU))) rfl (by kernel_rfl) (by kernel_rfl) (by kernel_rfl) (fun _ _ _ h => h) (by rfl) ?_ (by assumption) ?_
    · intro w hSw
      have hq := HQ1.out
      go_simp
    simp only [Act.put, List.setIfInBounds_toArray, List.set_cons_zero, List.set_cons_succ]
    refine take_do (i := 8) (v := (.int .i64 c0)) rfl (by kernel_rfl) (by kernel_rfl) (by kernel_rfl) (fun _ _ _ h => h) (by rfl) ?_ (by assumption) ?_
    · intro w hSw
      have hq := HC0.out
      have hq2 := HQ2.out
      go_simp
    simp only [Act.put, List.setIfInBounds_toArray, List.set_cons_zero, List.set_cons_succ]
    refine take_call (i := 9) rfl (by kernel_rfl) (fun K2 hK => ?_)
    go_simp
    refine (nearest_any _ _ c0 _).mono ?_
    rintro e w5 ⟨rfl, hb⟩
    go_wp2_with fail
    refine hK.out _ _ (hHeld.trans (hb.mono hHeld.size)) (fun hHeld2 => ?_)
    clear hK hHeld hb
    have hHeld := hHeld2
    clear hHeld2
    rw [← HCH.out]
    refine take_do (i := 10) (v := (.int .i64 (Mn.chg m f L n))) rfl (by kernel_rfl) (by kernel_rfl) (by kernel_rfl) (fun _ _ _ h => h) (by rfl) ?_ (by assumption) ?_
    · intro w hSw
      skip
      go_simp
    simp only [Act.put, List.setIfInBounds_toArray, List.set_cons_zero, List.set_cons_succ]
    refine wpAnyH_done (by kernel_rfl) ?_ _
    have S3 := Lib.hid (SX.out.below hHeld)
    clear hHeld
    go_wp2_with fail
    go_ret
    exact ⟨rfl, S3.out.old⟩
/-- All blocks but one are as they were. -/
structure Fr (g : Nat) (w W : World) : Prop where
  os : W.os = w.os
  tape : W.tape = w.tape
  output : W.output = w.output
  size : w.heap.size ≤ W.heap.size
  block : ∀ k, k < w.heap.size → k ≠ g → W.heap[k]? = w.heap[k]?
theorem Fr.below {g : Nat} {w W W' : World} (h : Fr g w W) (hb : Below W.heap.size W W') : Fr g w W' := ⟨hb.os.trans h.os, hb.tape.trans h.tape, hb.output.trans h.output, Nat.le_trans h.size hb.size, fun k hk hne => (hb.block k (Nat.lt_of_lt_of_le hk h.size)).trans (h.block k hk hne)⟩
theorem Fr.set {g : Nat} {w W : World} (h : Fr g w W) (i : Nat) (v : Value) : Fr g w (W.setCell ⟨g, i, none⟩ v) := ⟨h.os, h.tape, h.output, by rw [World.size_setCell]; exact h.size, fun k hk hne => (Below.heap_setCell _ _ _ _ hne).trans (h.block k hk hne)⟩
theorem Fr.old {g : Nat} {b w W : World} (h : Fr g w W) (hb : Below b.heap.size b w) (hg : b.heap.size ≤ g) : Below b.heap.size b W := ⟨h.os.trans hb.os, h.tape.trans hb.tape, h.output.trans hb.output, Nat.le_trans hb.size h.size, fun k hk => (h.block k (Nat.lt_of_lt_of_le hk hb.size) (by omega)).trans (hb.block k hk)⟩
structure RnS (m : Mn.Mains) (la : Option Addr) (lk gk gf fc : Nat) (F : Nat → Int) (w W : World) : Prop where
  row : W.rowIs w.heap.size 70 3 (rowN [.slice la m.ln lk, .slice (some ⟨gk, 0, none⟩) m.pn m.pn, .slice (some ⟨gf, 0, none⟩) m.pn fc])
  fl : IsBlk 2 gf m.pn F W
  fr : Fr gf w W
theorem RnS.below {m : Mn.Mains} {la : Option Addr} {lk gk gf fc : Nat} {F : Nat → Int} {w W W' : World} (h : RnS m la lk gk gf fc F w W) (hb : Below W.heap.size W W') : RnS m la lk gk gf fc F w W' := ⟨nrow_below h.row hb, h.fl.below hb, h.fr.below hb⟩
set_option maxRecDepth 100000 in
set_option maxHeartbeats 8000000 in
theorem round_any (m : Mn.Mains) (la : Option Addr) (lk gk gf fc : Nat) (f : Nat → Int) (b w : World) (hb : Below b.heap.size b w) (hl : LsAt la m.ln m.LN m.L b) (hgf : b.heap.size ≤ gf) (hk : KdBlk gk m w) (hne : gk ≠ gf) (hf : IsBlk 2 gf m.pn f w) (hr : Mn.Right m) (ho : Mn.AllOk m f) :
    Calls Tryz.prog 69 #[rmV la m.ln lk gk m.pn (some ⟨gf, 0, none⟩) fc] w fun e w' => e = .returned (.tuple #[]) ∧ IsBlk 2 gf m.pn (Mn.round m f) w' ∧ Fr gf w w' := by
  have hwg : gf < w.heap.size := hf.lt
  have ST : Hid (RnS m la lk gk gf fc (Mn.roundTo m f 0) w (w.alloc (.cells #[.slice la m.ln lk, .slice (some ⟨gk, 0, none⟩) m.pn m.pn, .slice (some ⟨gf, 0, none⟩) m.pn fc] 70))) := ⟨rowN_alloc w [.slice la m.ln lk, .slice (some ⟨gk, 0, none⟩) m.pn m.pn, .slice (some ⟨gf, 0, none⟩) m.pn fc] _, hf.below (nbel_alloc _ _), Fr.below ⟨rfl, rfl, rfl, Nat.le_refl _, fun _ _ _ => rfl⟩ (nbel_alloc _ _)⟩
  have hpn := hr.pn
  have hln := hr.ln
  have HR := Lib.hid hr
  have HO := Lib.hid ho
  have HK := Lib.hid hk
  have HNE := Lib.hid hne
  have HLS : Hid (∀ V, Fr gf w V → LsAt la m.ln m.LN m.L V) := fun V hV => hl.below (hV.old hb hgf)
  have HIX : Hid (∀ (xa : Option Addr) (n : Nat) (L : Nat → Int), IsAt xa n L b → ∀ V, Fr gf w V → IsAt xa n L V) := fun xa n L hx V hV => hx.below (hV.old hb hgf)
  have HLB := Lib.hid hl
  have HKD : Hid (∀ V, Fr gf w V → KdBlk gk m V) := fun V hV => hk.block (hV.block _ hk.lt hne)
  have HBB : Hid (∀ V, Fr gf w V → Below b.heap.size b V) := fun V hV => hV.old hb hgf
  clear hb hl hk hne hf hr ho
  go_enter Tryz.func69, Tryz.ntmps69
  go_wp2_with fail
  go_loopw [12] (fun iv wr => ∃ (i : Nat), i ≤ m.ln ∧ iv = .int .i64 i ∧ Hid (RnS m la lk gk gf fc (Mn.roundTo m f i) w wr)) (fun iv _ => m.ln - (intOf iv).toNat)
  case atStart => exact ⟨0, Nat.zero_le _, rfl, ST⟩
  case round =>
    obtain ⟨i, hi, rfl, SX⟩ := hrel
    clear ST
    by_cases hlt : i < m.ln
    · have hltz : (i : Int) < (m.ln : Int) := by omega
      have LO := Lib.hid (HR.out.l i hlt)
      obtain ⟨lb, e, xa, xc, dl0, kx⟩ := HLB.out.one hlt
      subst e
      have dl := ((HBB.out _ SX.out.fr).cell (World.block_lt_of_cell? _ _ dl0)).trans dl0
      have KX := Lib.hid (HIX.out _ _ _ kx)
      obtain ⟨F, hF⟩ : ∃ F, F = Mn.roundTo m f i := ⟨_, rfl⟩
      have HOF : Hid (Mn.AllOk m F) := by show Mn.AllOk _ _; rw [hF]; exact Mn.roundTo_ok HR.out HO.out i hi
      rw [← hF] at SX
      obtain ⟨n, hn⟩ : ∃ n, n = m.LN i := ⟨_, rfl⟩
      obtain ⟨L, hL⟩ : ∃ L, L = m.L i := ⟨_, rfl⟩
      have HRT : Hid (Mn.roundTo m f (i + 1) = Mn.apTo L (Mn.chg m F L n) F n) := by
        show Mn.loopR m (Mn.roundTo m f i) (m.L i) (m.LN i) = _
        rw [← hF, ← hn, ← hL]; rfl
      rw [← hn, ← hL] at LO KX
      rw [← hn] at dl
      obtain ⟨⟨r0, r1, r2⟩, _⟩ := rowN3 SX.out.row
      clear dl0 kx hF hn hL
      go_wp2_with fail
      refine (change_any m _ m.ln lk gk (some ⟨gf, 0, none⟩) fc F xa n xc L _ (HKD.out _ SX.out.fr) SX.out.fl.at_ (KX.out _ SX.out.fr) HR.out HOF.out LO.out).mono ?_
      rintro e w2 ⟨rfl, hb⟩
      have S2 := Lib.hid (SX.out.below hb)
      clear hb SX r0 r1 r2 dl
      obtain ⟨CH, hCH⟩ : ∃ CH, CH = Mn.chg m F L n := ⟨_, rfl⟩
      rw [← hCH] at HRT ⊢
      have hn40 : n ≤ 40 := LO.out.n2
      have HCB : Hid (∀ j, j < n → Mn.loK m F (L j) ≤ CH ∧ CH ≤ Mn.hiK m F (L j)) := by
        intro j hj
        rw [hCH]
        unfold Mn.chg
        split
        · have := Mn.k_bd HR.out HOF.out (LO.out.num j hj); omega
        · exact Mn.ch_in HR.out HOF.out _ n LO.out.num j hj
      clear hCH
      go_wp2_with fail
      go_loopw [21] (fun kv wq => ∃ (k : Nat), k ≤ n ∧ kv = .int .i64 k ∧ Hid (RnS m (some ⟨lb, 0, none⟩) lk gk gf fc (Mn.apTo L CH F k) w wq)) (fun kv _ => n - (intOf kv).toNat)
      case atStart => exact ⟨0, Nat.zero_le _, rfl, S2⟩
      case round =>
        obtain ⟨k, hk3, rfl, S6⟩ := hrel
        clear S2
        by_cases hlt3 : k < n
        · have hltz3 : (k : Int) < (n : Int) := by omega
          obtain ⟨xb2, e, dx⟩ := (KX.out _ S6.out.fr).at1 hlt3
          subst e
          have nk := LO.out.num k hlt3
          obtain ⟨pp, hpe⟩ : ∃ pp, pp = Mn.place (L k) := ⟨_, rfl⟩
          have hpp : pp < m.pn := by rw [hpe]; exact nk.lt
          have hppz : ((pp : Nat) : Int) < (m.pn : Int) := by omega
          have fbd := Mn.okF_bd (HR.out.p pp hpp) (HOF.out pp hpp)
          have kb := Mn.k_bd HR.out HOF.out nk
          have cb := HCB.out k hlt3
          have ev : Mn.apTo L CH F k pp = F pp := Mn.ap_other k (fun j hj => by rw [hpe]; exact LO.out.one k hlt3 j hj)
          obtain ⟨wy, hwy⟩ : ∃ wy, wy = wayI (L k) := ⟨_, rfl⟩
          have hwy1 : wy = 1 ∨ wy = -1 := by rw [hwy]; unfold wayI; split <;> simp
          have HG : Hid (Mn.apTo L CH F (k + 1) = updI (Mn.apTo L CH F k) pp (F pp + wy * CH)) := by
            show _ = _
            have e9 : Mn.apTo L CH F (k + 1) = updI (Mn.apTo L CH F k) (Mn.place (L k)) (Mn.apTo L CH F k (Mn.place (L k)) + Mn.sg (L k) CH) := rfl
            have e8 : Mn.sg (L k) CH = wy * CH := by rw [hwy]; unfold Mn.sg wayI; split <;> omega
            rw [e9, ← hpe, ev, e8]
          have dn := S6.out.fl.cell hpp
          rw [ev] at dn
          have zn := S6.out.fl.frozen pp
          have lnn := S6.out.fl.lt
          have HQ1 : IntKind.i64.wrap (wy * CH) = wy * CH := by rcases hwy1 with e | e <;> rw [e] <;> exact mwrap_id (by omega) (by omega)
          have HQ2 : IntKind.i64.wrap (F pp + wy * CH) = F pp + wy * CH := by rcases hwy1 with e | e <;> rw [e] <;> exact mwrap_id (by omega) (by omega)
          have NK := Lib.hid nk
          have HPE := Lib.hid hpe
          have HPN := Lib.hid hpn
          have HWY := Lib.hid hwy
          have S7 : Hid (RnS m (some ⟨lb, 0, none⟩) lk gk gf fc (Mn.apTo L CH F (k + 1)) w (wr.setCell ⟨gf, pp, none⟩ (.int .i64 (F pp + wy * CH)))) := by
            show RnS _ _ _ _ _ _ _ _ _
            rw [HG.out]
            exact ⟨S6.out.row.of_block (Below.heap_setCell _ _ _ _ (by show w.heap.size ≠ gf; omega)), S6.out.fl.set pp _, S6.out.fr.set pp _⟩
          obtain ⟨⟨r0, r1, r2⟩, _⟩ := rowN3 S6.out.row
          clear fbd nk hpe kb cb ev hwy hwy1
          go_wp2_with fail
          refine (passed_any (L k) _ NK.out.1 (by have := NK.out.2; have := HPN.out; omega) (by have := NK.out.2; have := HPN.out; omega)).mono ?_
          rintro e w3 ⟨rfl, e3⟩
          subst w3
          rw [← HPE.out, ← HWY.out]
          go_wp2_with fail
          go_roundw
          case rel => exact ⟨k + 1, by omega, by go_num, S7⟩
          case measure => simp [intOf]; omega
        · have hkz3 : ¬ (k : Int) < (n : Int) := by omega
          have HRE : Hid (Mn.roundTo m f (i + 1) = Mn.apTo L CH F k) := by show _ = _; rw [HRT.out, show k = n by omega]
          go_wp2_with fail
          go_roundw
          case rel => exact ⟨i + 1, by omega, by go_num, by rw [HRE.out]; exact S6.out⟩
          case measure => simp [intOf]; omega
    · obtain rfl : i = m.ln := by omega
      go_wp2_with fail
      go_end0
      exact ⟨rfl, SX.out.fl, SX.out.fr⟩
theorem mag2_any (x : Int) (w : World) (h1 : -50000000000000000 ≤ x) (h2 : x ≤ 50000000000000000) : Calls Tryz.prog 85 #[.int .i64 x] w fun e w' => e = .returned (.int .i64 (x.natAbs : Int)) ∧ w' = w := by
  by_cases hx : x < 0
  · have HE : Hid ((x.natAbs : Int) = -x) := by show _ = _; omega
    go_enter Tryz.func85, Tryz.ntmps85
    go_wp2_with fail
    go_ret
    exact ⟨by rw [HE.out]; rfl, rfl⟩
  · have HE : Hid ((x.natAbs : Int) = x) := by show _ = _; omega
    go_enter Tryz.func85, Tryz.ntmps85
    go_wp2_with fail
    go_ret
    exact ⟨by rw [HE.out]; rfl, rfl⟩
set_option maxRecDepth 100000 in
set_option maxHeartbeats 8000000 in
theorem irest_any (m : Mn.Mains) (la : Option Addr) (lk gk : Nat) (fa : Option Addr) (fc : Nat) (f : Nat → Int) (w : World) (hl : LsAt la m.ln m.LN m.L w) (hk : KdBlk gk m w) (hf : IsAt fa m.pn f w) (hr : Mn.Right m) (ho : Mn.AllOk m f) :
    Calls Tryz.prog 68 #[rmV la m.ln lk gk m.pn fa fc] w fun e w' => e = .returned (.int .i64 (Mn.rest m f)) ∧ Below w.heap.size w w' := by
  have ST : Hid (WfS m la m.ln lk gk fa fc f w (w.alloc (.cells #[.slice la m.ln lk, .slice (some ⟨gk, 0, none⟩) m.pn m.pn, .slice fa m.pn fc] 70))) := ⟨rowN_alloc w [.slice la m.ln lk, .slice (some ⟨gk, 0, none⟩) m.pn m.pn, .slice fa m.pn fc] _, hk.below (nbel_alloc _ _), hf.below (nbel_alloc _ _), nbel_alloc _ _⟩
  have hln := hr.ln
  have HR := Lib.hid hr
  have HO := Lib.hid ho
  have HL := Lib.hid hl
  clear hl hk hf hr ho
  go_enter Tryz.func68, Tryz.ntmps68
  go_wp2_with fail
  go_loopw [3, 9] (fun mv iv wr => ∃ (i : Nat), i ≤ m.ln ∧ mv = .int .i64 (Mn.restTo m f i) ∧ iv = .int .i64 i ∧ Hid (WfS m la m.ln lk gk fa fc f w wr)) (fun _ iv _ => m.ln - (intOf iv).toNat)
  case atStart => exact ⟨0, Nat.zero_le _, rfl, rfl, ST⟩
  case round =>
    obtain ⟨i, hi, rfl, rfl, SX⟩ := hrel
    clear ST
    by_cases hlt : i < m.ln
    · have hltz : (i : Int) < (m.ln : Int) := by omega
      have LO := Lib.hid (HR.out.l i hlt)
      obtain ⟨lb, e, xa, xc, dl, kx⟩ := (HL.out.below SX.out.old).one hlt
      subst e
      have KX := Lib.hid kx
      have HSS := Lib.hid (sum_small HR.out HO.out hlt)
      obtain ⟨⟨r0, r1, r2⟩, _⟩ := rowN3 SX.out.row
      clear kx
      go_wp2_with fail
      refine (isum_any m _ m.ln lk gk fa fc f xa (m.LN i) xc (m.L i) _ SX.out.k SX.out.f KX.out HR.out HO.out LO.out.num LO.out.n2).mono ?_
      rintro e w2 ⟨rfl, hb⟩
      have S2 := Lib.hid (SX.out.below hb)
      clear hb SX r0 r1 r2 dl
      obtain ⟨SU, hSU⟩ : ∃ SU, SU = Mn.sumTo m f (m.L i) (m.LN i) := ⟨_, rfl⟩
      have ss : -50000000000000000 ≤ SU ∧ SU ≤ 50000000000000000 := by rw [hSU]; exact HSS.out.1
      have HE : Hid (Mn.restTo m f (i + 1) = max (Mn.restTo m f i) (SU.natAbs : Int)) := by show _ = _; simp only [Mn.restTo]; rw [hSU]
      rw [← hSU]
      obtain ⟨ss1, ss2⟩ := ss
      clear hSU
      go_wp2_with fail
      refine (mag2_any SU _ ss1 ss2).mono ?_
      rintro e w3 ⟨rfl, e3⟩
      subst w3
      by_cases hmx : Mn.restTo m f i < (SU.natAbs : Int)
      · have HE2 : Hid (Mn.restTo m f (i + 1) = (SU.natAbs : Int)) := by show _ = _; rw [HE.out]; omega
        go_wp2_with fail
        go_roundw
        case rel => exact ⟨i + 1, by omega, by rw [HE2.out], by go_num, S2⟩
        case measure => simp [intOf]; omega
      · have HE2 : Hid (Mn.restTo m f (i + 1) = Mn.restTo m f i) := by show _ = _; rw [HE.out]; omega
        go_wp2_with fail
        go_roundw
        case rel => exact ⟨i + 1, by omega, by rw [HE2.out], by go_num, S2⟩
        case measure => simp [intOf]; omega
    · obtain rfl : i = m.ln := by omega
      go_wp2_with fail
      go_ret
      exact ⟨rfl, SX.out.old⟩
end Go.Proofs.YtfgmalnkpgloiaaGreatDoor
namespace Go.Proofs.YtfgmalnkpgloiaaGreatDoor
open Go.RowKit Go.Deep

set_option maxRecDepth 100000 in
set_option maxHeartbeats 4000000 in
theorem placeOf_any (y : Value) (a : Int) (hS : StFinds y a) (w : World) (hg : Et w) :
    Calls Tryz.prog 64 #[.iface 107 y] w fun e w' => e = .returned (.int .i64 a) ∧ Below w.heap.size w w' := by
  obtain ⟨W, hW⟩ : ∃ W, W = w.alloc (.cells #[.int .i64 0, .nilIface] 114) := ⟨_, rfl⟩
  have B0 : Hid (Below w.heap.size w W) := by show Below _ _ _; rw [hW]; exact nbel_alloc _ _
  have L0 : Hid (W.rowIs w.heap.size 114 2 (rowN [.int .i64 0, .nilIface])) := by show World.rowIs _ _ _ _ _; rw [hW]; exact rowN_alloc w _ _
  have G0 : Hid (Et W) := hg.below B0.out
  have HW := Lib.hid hW
  have HST := Lib.hid hS
  clear hW hg hS
  go_enter Tryz.func64, Tryz.ntmps64
  go_wp2_with fail
  rw [← HW.out]
  refine (asSTop y a HST.out w.heap.size _ G0.out (L0.out.cell (by omega)) (L0.out.frozen 0) (L0.out.cell (by omega)) (L0.out.frozen 1)).mono ?_
  rintro e w1 ⟨⟨bb, rfl⟩, hc, hb1⟩
  have B1 : Hid (Below w.heap.size w w1) := B0.out.trans (hb1.mono (by omega))
  clear hb1 B0 L0 G0
  go_wp2_with fail
  go_ret
  exact ⟨rfl, B1.out⟩
end Go.Proofs.YtfgmalnkpgloiaaGreatDoor
namespace Go.Proofs.YtfgmalnkpgloiaaGreatDoor
open Go.RowKit Go.Deep

set_option maxRecDepth 100000 in
set_option maxHeartbeats 4000000 in
theorem tell_ok (fa : Option Addr) (fn fc : Nat) (ha : Option Addr) (hn hc : Nat) (rest rounds at_ code : Int) (w : World) :
    Calls Tryz.prog 35 #[moV fa fn fc ha hn hc rest rounds at_ code, .nilIface] w fun e w' => e = .returned (moV fa fn fc ha hn hc rest rounds at_ code) ∧ Below w.heap.size w w' := by
  go_enter Tryz.func35, Tryz.ntmps35
  go_wp2_with fail
  exact bodyPost_ret (v := moV fa fn fc ha hn hc rest rounds at_ code) (by simp [results, Tryz.results35, go_sem]) rfl ⟨rfl, mbel2 _ _ _⟩
set_option maxRecDepth 100000 in
set_option maxHeartbeats 4000000 in
theorem tell_bad (fa : Option Addr) (fn fc : Nat) (ha : Option Addr) (hn hc : Nat) (rest rounds at_ code : Int) (y : Value) (a c : Int) (hA : AsFinds y c) (hS : StFinds y a) (w : World) (hg : Et w) :
    Calls Tryz.prog 35 #[moV fa fn fc ha hn hc rest rounds at_ code, .iface 107 y] w fun e w' => e = .returned (moV none 0 0 none 0 0 0 0 a c) ∧ Below w.heap.size w w' := by
  obtain ⟨W, hW⟩ : ∃ W, W = ((w.alloc (.cells (moA fa fn fc ha hn hc rest rounds at_ code) 31)).alloc (.cells (moA none 0 0 none 0 0 0 0 0 0) 31)) := ⟨_, rfl⟩
  have B0 : Hid (Below w.heap.size w W) := by show Below _ _ _; rw [hW]; exact mbel2 w _ _
  have R0 : Hid (W.rowIs (w.heap.size + 1) 31 6 (rowN (moL none 0 0 none 0 0 0 0 0 0))) := by show World.rowIs _ _ _ _ _; rw [hW]; exact rowN_alloc' (by simp) _ _
  have GW := Lib.hid hg
  have HW := Lib.hid hW
  have HA := Lib.hid hA
  have HST := Lib.hid hS
  clear hW hg hA hS
  go_enter Tryz.func35, Tryz.ntmps35
  go_wp2_with fail
  rw [← HW.out]
  refine (placeOf_any y a HST.out _ (GW.out.below B0.out)).mono ?_
  rintro e w1 ⟨rfl, hb1⟩
  have B1 : Hid (Below w.heap.size w w1) := B0.out.trans (hb1.mono B0.out.size)
  have R1 : Hid (w1.rowIs (w.heap.size + 1) 31 6 (rowN (moL none 0 0 none 0 0 0 0 0 0))) := nrow_below R0.out hb1
  clear hb1 B0 R0
  go_wp2_with fail
  refine (codeOf_any y c HA.out _ (GW.out.below B1.out)).mono ?_
  rintro e Z1 ⟨rfl, hb⟩
  have B2 : Hid (Below w.heap.size w Z1) := B1.out.trans (hb.mono B1.out.size)
  have R2 := nrow_below R1.out hb
  obtain ⟨⟨o0, o1, o2, o3, o4, o5⟩, z0, z1, z2, z3, z4, z5⟩ := rowN6 R2
  have l0 := R2.lt
  obtain ⟨WZ, hWZ⟩ : ∃ WZ, WZ = set6 Z1 (w.heap.size + 1) (.slice none 0 0) (.slice none 0 0) (.int .i64 0) (.int .i64 0) (.int .i64 a) (.int .i64 c) := ⟨_, rfl⟩
  have D := set6_done R2 rfl B2.out (by omega) (.slice none 0 0) (.slice none 0 0) (.int .i64 0) (.int .i64 0) (.int .i64 a) (.int .i64 c)
  rw [← hWZ] at D
  have RZ := Lib.hid D.1
  have SZ : Hid (Below w.heap.size w WZ) := D.2.1
  have HWZ : Hid (WZ = (((((Z1.setCell ⟨w.heap.size + 1, 0, none⟩ (.slice none 0 0)).setCell ⟨w.heap.size + 1, 1, none⟩ (.slice none 0 0)).setCell ⟨w.heap.size + 1, 2, none⟩ (.int .i64 0)).setCell ⟨w.heap.size + 1, 3, none⟩ (.int .i64 0)).setCell ⟨w.heap.size + 1, 4, none⟩ (.int .i64 a)).setCell ⟨w.heap.size + 1, 5, none⟩ (.int .i64 c)) := hWZ
  clear hWZ R2 D hb R1 B1 B2
  go_wp2_with fail
  rw [← HWZ.out]
  obtain ⟨⟨x0, x1, x2, x3, x4, x5⟩, _⟩ := rowN6 RZ.out
  exact bodyPost_ret (v := moV none 0 0 none 0 0 0 0 a c) (by simp [results, Tryz.results35, go_sem, x0, x1, x2, x3, x4, x5]) rfl ⟨rfl, SZ.out⟩
/-- An error of the start, as it is told. -/
theorem errS_finds {ev : Value} {c a : Int} (h : ErrS ev c a) : ∃ y, ev = .iface 107 y ∧ AsFinds y c ∧ StFinds y a := by
  rcases h with ⟨s, rfl, rfl⟩ | ⟨s, rfl⟩
  · exact ⟨_, rfl, finds_one s c, st_dr s c⟩
  · exact ⟨_, rfl, finds_dsr s a c, st_ds s a c⟩
set_option maxRecDepth 100000 in
set_option maxHeartbeats 4000000 in
theorem implStart_any (m : Mn.Mains) (pa : Option Addr) (pk : Nat) (la : Option Addr) (lk : Nat) (wa : Option Addr) (wk : Nat) (w : World) (h : MnAt m pa la wa w) (hg : Et w) :
    Calls Tryz.prog 12 #[mnV m pa pk la lk wa wk] w fun e w' => SsEnd m w.heap.size e w' ∧ Below w.heap.size w w' := by
  obtain ⟨W, hW⟩ : ∃ W, W = (w.alloc (.cells #[.int .i64 m.nodes, .int .i64 m.head, .slice pa m.pn pk, .slice la m.ln lk, .slice wa m.wn wk] 27)).alloc (.cells (moA none 0 0 none 0 0 0 0 0 0) 31) := ⟨_, rfl⟩
  have S0 : Hid (MsS m pa pk la lk wa wk w W) := by
    show MsS _ _ _ _ _ _ _ _ _
    rw [hW]
    exact ⟨nrow_below (rowN_alloc w _ _) (nbel_alloc _ _), rowN_alloc' (by simp) _ _, (h.below (nbel_alloc _ _)).below (nbel_alloc _ _), mbel2 _ _ _⟩
  have HW := Lib.hid hW
  have HG := Lib.hid hg
  clear h hW hg
  go_enter Tryz.func12, Tryz.ntmps12
  go_wp2_with fail
  rw [← HW.out]
  refine (startMains_any m pa pk la lk wa wk _ S0.out.at_).mono ?_
  rintro e w1 ⟨hE, hb⟩
  have S1 := Lib.hid (S0.out.below hb)
  have SZ0 : Hid (w.heap.size + 2 ≤ W.heap.size) := by show _ ≤ _; have := S0.out.res.lt; omega
  clear hb S0
  rcases hE with ⟨c, a, ev, hst, hc0, hev, rfl⟩ | ⟨gk, gf, tv, hst, rfl, hkd, hfl, htr, hgk, hgf, _⟩
  · obtain ⟨y, rfl, hA, hS⟩ := errS_finds hev
    have HA := Lib.hid hA
    have HST := Lib.hid hS
    have HS := Lib.hid hst
    have HC := Lib.hid hc0
    have S2 := Lib.hid (S1.out.below (nbel_alloc w1 (.cells #[.slice none 0 0, .slice none 0 0, .slice none 0 0] 70)))
    clear hA hS hst hc0 hev S1
    go_wp2_with fail
    refine (tell_bad _ _ _ _ _ _ _ _ _ _ y a c HA.out HST.out _ (HG.out.below S2.out.old)).mono ?_
    rintro e w2 ⟨rfl, hb⟩
    have S3 := Lib.hid (S2.out.below hb)
    clear hb S2
    have D := Lib.hid (set6_done S3.out.res rfl S3.out.old (by omega) (.slice none 0 0) (.slice none 0 0) (.int .i64 0) (.int .i64 0) (.int .i64 a) (.int .i64 c))
    obtain ⟨⟨x0, x1, x2, x3, x4, x5⟩, z0, z1, z2, z3, z4, z5⟩ := rowN6 S3.out.res
    have lx := S3.out.res.lt
    go_wp2_with fail
    obtain ⟨⟨q0, q1, q2, q3, q4, q5⟩, _⟩ := rowN6 D.out.1
    unfold set6 at q0 q1 q2 q3 q4 q5
    refine bodyPost_ret (v := moV none 0 0 none 0 0 0 0 a c) ?_ rfl ⟨SsEnd.no c a HS.out HC.out rfl, D.out.2.1⟩
    simp only [results, Tryz.results12]
    simp [go_sem, q0, q1, q2, q3, q4, q5]
  · have HS := Lib.hid hst
    obtain ⟨ta, tc, etv, _⟩ := htr
    subst etv
    have HF := Lib.hid hfl
    have HGF : Hid (W.heap.size ≤ gf) := hgf
    have S2 := Lib.hid (S1.out.below (nbel_alloc w1 (.cells #[.slice la m.ln lk, .slice (some ⟨gk, 0, none⟩) m.pn m.pn, .slice (some ⟨gf, 0, none⟩) m.pn m.pn] 70)))
    have F2 := Lib.hid (hfl.below (nbel_alloc w1 (.cells #[.slice la m.ln lk, .slice (some ⟨gk, 0, none⟩) m.pn m.pn, .slice (some ⟨gf, 0, none⟩) m.pn m.pn] 70)))
    clear hst hkd hfl hgk hgf S1 HF
    go_wp2_with fail
    refine (tell_ok _ _ _ _ _ _ _ _ _ _ _).mono ?_
    rintro e w2 ⟨rfl, hb⟩
    have S3 := Lib.hid (S2.out.below hb)
    have F3 := Lib.hid (F2.out.below hb)
    clear hb S2 F2
    have D := Lib.hid (set6_done S3.out.res rfl S3.out.old (by omega) (.slice (some ⟨gf, 0, none⟩) m.pn m.pn) (.slice none 0 0) (.int .i64 0) (.int .i64 0) (.int .i64 0) (.int .i64 0))
    obtain ⟨⟨x0, x1, x2, x3, x4, x5⟩, z0, z1, z2, z3, z4, z5⟩ := rowN6 S3.out.res
    have lx := S3.out.res.lt
    go_wp2_with fail
    obtain ⟨⟨q0, q1, q2, q3, q4, q5⟩, _⟩ := rowN6 D.out.1
    unfold set6 at q0 q1 q2 q3 q4 q5
    have hgf := HGF.out
    have hsz := SZ0.out
    refine bodyPost_ret (v := moV (some ⟨gf, 0, none⟩) m.pn m.pn none 0 0 0 0 0 0) ?_ rfl ⟨SsEnd.ok gf HS.out rfl (F3.out.block (D.out.2.2 _ (by omega))) (by omega), D.out.2.1⟩
    simp only [results, Tryz.results12]
    simp [go_sem, q0, q1, q2, q3, q4, q5]
end Go.Proofs.YtfgmalnkpgloiaaGreatDoor
namespace Go.Proofs.YtfgmalnkpgloiaaGreatDoor
open Go.RowKit Go.Deep

/-- What an answer of mains tells. -/
structure MoD where
  fn : Nat
  F : Nat → Int
  hn : Nat
  Hd : Nat → Int
  rest : Int
  rounds : Int
  at_ : Int
  code : Int
def MoAns (d : MoD) (B : Nat) (e : Ending) (W : World) : Prop := ∃ a c p q, e = .returned (moV a d.fn c p d.hn q d.rest d.rounds d.at_ d.code) ∧ Ow2 B d.fn c d.hn q a p d.F d.Hd W
end Go.Proofs.YtfgmalnkpgloiaaGreatDoor
namespace Go.Proofs.YtfgmalnkpgloiaaGreatDoor
open Go.RowKit Go.Deep

theorem outAt_total (s : Nat → Bool) : ∀ n, ∃ r, Mn.OutAt s n r
  | 0 => ⟨-1, Or.inr ⟨rfl, fun j hj => absurd hj (Nat.not_lt_zero _)⟩⟩
  | n + 1 => by
    obtain ⟨r, h⟩ := outAt_total s n
    rcases h with ⟨i, h1, h2, h3, h4⟩ | ⟨h1, h2⟩
    · exact ⟨r, Or.inl ⟨i, by omega, h2, h3, h4⟩⟩
    · cases e : s n with
      | true =>
        refine ⟨-1, Or.inr ⟨rfl, fun j hj => ?_⟩⟩
        by_cases ej : j = n
        · subst ej; exact e
        · exact h2 j (by omega)
      | false => exact ⟨n, Or.inl ⟨n, by omega, rfl, e, h2⟩⟩
theorem wrongAt_total (m : Mn.Mains) (f : Nat → Int) : ∃ r, Mn.WrongAt m f r := by
  have key : ∀ n, n ≤ m.pn → (∃ i : Nat, i < n ∧ ¬ Mn.okF m f i ∧ ∀ j, j < i → Mn.okF m f j) ∨ ∀ j, j < n → Mn.okF m f j := by
    intro n
    induction n with
    | zero => intro _; exact Or.inr (fun j hj => absurd hj (Nat.not_lt_zero _))
    | succ n ih =>
      intro hn
      rcases ih (by omega) with ⟨i, h1, h2, h3⟩ | h
      · exact Or.inl ⟨i, by omega, h2, h3⟩
      · by_cases e : Mn.okF m f n
        · refine Or.inr (fun j hj => ?_)
          by_cases ej : j = n
          · subst ej; exact e
          · exact h j (by omega)
        · exact Or.inl ⟨n, by omega, e, h⟩
  rcases key m.pn (Nat.le_refl _) with ⟨i, h1, h2, h3⟩ | h
  · exact ⟨i, Or.inl ⟨i, h1, rfl, h2, h3⟩⟩
  · exact ⟨-1, Or.inr ⟨rfl, h⟩⟩
theorem start_total (m : Mn.Mains) : ∃ c a, Mn.Start m c a := by
  by_cases h : Mn.Right m
  · obtain ⟨r, hr⟩ := outAt_total (Mn.fin m).1 (Mn.nn m)
    by_cases h0 : 0 ≤ r
    · exact ⟨4, r, .none r h hr h0⟩
    · have hr1 : Mn.OutAt (Mn.fin m).1 (Mn.nn m) (-1) := by
        rcases hr with ⟨i, _, h2, _⟩ | ⟨h1, h2⟩
        · omega
        · exact Or.inr ⟨rfl, h2⟩
      obtain ⟨z, hz⟩ := wrongAt_total m (Mn.flows m)
      by_cases hz0 : 0 ≤ z
      · exact ⟨5, z, .over z h hr1 hz hz0⟩
      · have hz1 : Mn.WrongAt m (Mn.flows m) (-1) := by
          rcases hz with ⟨i, _, h2, _⟩ | ⟨h1, h2⟩
          · omega
          · exact Or.inr ⟨rfl, h2⟩
        exact ⟨0, 0, .ok h hr1 hz1⟩
  · exact ⟨1, 0, .form h⟩
theorem Mn.Start.right {m : Mn.Mains} {a : Int} (h : Mn.Start m 0 a) : Mn.Right m := by cases h with | ok h => exact h
/-- A function that answers mains so. -/
def AnsS (fn : Nat) (m : Mn.Mains) (d : MoD) : Prop := ∀ (pa : Option Addr) (pk : Nat) (la : Option Addr) (lk : Nat) (wa : Option Addr) (wk : Nat) (w : World), MnAt m pa la wa w → Et w → Calls Tryz.prog fn #[mnV m pa pk la lk wa wk] w fun e w' => MoAns d w.heap.size e w' ∧ Below w.heap.size w w'
def stD (m : Mn.Mains) (c a : Int) : MoD := ⟨if c = 0 then m.pn else 0, Mn.flows m, 0, fun _ => 0, 0, 0, a, c⟩
theorem ss_ans {m : Mn.Mains} {B : Nat} {e : Ending} {W : World} {c a : Int} (hs : Mn.Start m c a) (h : SsEnd m B e W) : MoAns (stD m c a) B e W := by
  rcases h with ⟨c', a', h1, h2, rfl⟩ | ⟨gf, h1, rfl, h3, h4⟩
  · obtain ⟨rfl, rfl⟩ := hs.one h1
    refine ⟨none, 0, none, 0, ?_, ?_⟩
    · simp [stD, h2]
    · simp only [stD, h2, if_false]
      exact ⟨Or.inl ⟨rfl, rfl, rfl⟩, Or.inl ⟨rfl, rfl, rfl⟩, fun k e => by cases e⟩
  · obtain ⟨rfl, rfl⟩ := hs.one h1
    refine ⟨some ⟨gf, 0, none⟩, m.pn, none, 0, ?_, ?_⟩
    · simp [stD]
    · simp only [stD, if_true]
      exact ⟨Or.inr ⟨gf, rfl, h4, h3⟩, Or.inl ⟨rfl, rfl, rfl⟩, fun k _ e => by cases e⟩
theorem mainsStart_both (m : Mn.Mains) (hs : MnSmall m) : ∃ d : MoD, d.fn ≤ 1048576 ∧ d.hn ≤ 1048576 ∧ AnsS 32 m d ∧ AnsS 12 m d := by
  obtain ⟨c, a, h⟩ := start_total m
  refine ⟨stD m c a, ?_, Nat.zero_le _, ?_, ?_⟩
  · have := hs.1
    unfold stD
    simp only
    split <;> omega
  · intro pa pk la lk wa wk w h1 _
    exact (specStart_any m pa pk la lk wa wk w h1 hs).mono (fun e w' ⟨q, hb⟩ => ⟨ss_ans h q, hb⟩)
  · intro pa pk la lk wa wk w h1 h2
    exact (implStart_any m pa pk la lk wa wk w h1 h2).mono (fun e w' ⟨q, hb⟩ => ⟨ss_ans h q, hb⟩)
end Go.Proofs.YtfgmalnkpgloiaaGreatDoor
namespace Go.Proofs.YtfgmalnkpgloiaaGreatDoor.Mn
/-- Are the first n alike? -/
def sameB (f g : Nat → Int) : Nat → Bool
  | 0 => true
  | k + 1 => sameB f g k && decide (f k = g k)
theorem sameB_no {f g : Nat → Int} {n k : Nat} (hk : k < n) (h : f k ≠ g k) : sameB f g n = false := by
  induction n with
  | zero => omega
  | succ n ih =>
    show (sameB f g n && decide (f n = g n)) = false
    by_cases e : k = n
    · subst e; rw [decide_eq_false h, Bool.and_false]
    · rw [ih (by omega), Bool.false_and]
/-- Rounds, r at most, d of them done ahead. -/
def setl (m : Mains) : Nat → (Nat → Int) → Nat → (Nat → Int) × Nat
  | 0, f, d => (f, d)
  | r + 1, f, d => if sameB (round m f) f m.pn then (round m f, d + 1) else setl m r (round m f) (d + 1)
theorem setl_ok {m : Mains} (hr : Right m) : ∀ (r : Nat) (f : Nat → Int) (d : Nat), AllOk m f → AllOk m (setl m r f d).1
  | 0, _, _, h => h
  | r + 1, f, d, h => by
    have h1 : AllOk m (round m f) := roundTo_ok hr h _ (Nat.le_refl _)
    unfold setl
    split
    · exact h1
    · exact setl_ok hr r _ _ h1
theorem setl_le {m : Mains} : ∀ (r : Nat) (f : Nat → Int) (d : Nat), (setl m r f d).2 ≤ d + r
  | 0, _, _ => Nat.le_refl _
  | r + 1, f, d => by
    unfold setl
    split
    · show d + 1 ≤ _; omega
    · have := setl_le (m := m) r (round m f) (d + 1); omega
theorem Start.outOk {m : Mains} {c a : Int} (h : Start m c a) (hc : c = 0) : OutAt (fin m).1 (nn m) (-1) := by
  cases h with
  | form => omega
  | none => omega
  | over => omega
  | ok h1 h2 h3 => exact h2
theorem Start.rightOk {m : Mains} {c a : Int} (h : Start m c a) (hc : c = 0) : Right m ∧ AllOk m (flows m) := by
  cases h with
  | form => omega
  | none => omega
  | over => omega
  | ok h1 h2 h3 =>
    refine ⟨h1, ?_⟩
    rcases h3 with ⟨i, _, h4, _⟩ | ⟨_, h4⟩
    · omega
    · exact h4
end Go.Proofs.YtfgmalnkpgloiaaGreatDoor.Mn
namespace Go.Proofs.YtfgmalnkpgloiaaGreatDoor
open Go.RowKit Go.Deep
set_option maxRecDepth 100000 in
set_option maxHeartbeats 2000000 in
theorem equal_any (a b : Option Addr) (n ca cb : Nat) (f g : Nat → Int) (w : World) (h1 : IsAt a n f w) (h2 : IsAt b n g w) (hn : n ≤ 1048576) :
    Calls Tryz.prog 84 #[.slice a n ca, .slice b n cb] w fun e w' => e = .returned (.bool (Mn.sameB f g n)) ∧ Below w.heap.size w w' := by
  have hne : ((n : Int) != (n : Int)) = false := by simp
  have H1 := Lib.hid h1
  have H2 := Lib.hid h2
  clear h1 h2
  go_enter Tryz.func84, Tryz.ntmps84
  go_wp2_with fail
  go_loopw [13] (fun iv wr => ∃ (i : Nat), i ≤ n ∧ iv = .int .i64 i ∧ Mn.sameB f g i = true ∧ Hid (Below w.heap.size w wr)) (fun iv _ => n - (intOf iv).toNat)
  case atStart => exact ⟨0, Nat.zero_le _, rfl, rfl, Below.refl _ _⟩
  case round =>
    obtain ⟨i, hi, rfl, hsm, hB⟩ := hrel
    by_cases hlt : i < n
    · have hltz : (i : Int) < (n : Int) := by omega
      have hi00 : (0 : Int) ≤ (i : Int) := by omega
      obtain ⟨g1, rfl, k1⟩ := (H1.out.below hB.out).at1 hlt
      obtain ⟨g2, rfl, k2⟩ := (H2.out.below hB.out).at1 hlt
      by_cases hq : f i = g i
      · have HY : Hid (Mn.sameB f g (i + 1) = true) := by show (Mn.sameB f g i && decide (f i = g i)) = true; rw [hsm, decide_eq_true hq]; rfl
        have hq2 : (f i != g i) = false := by simp [hq]
        rw [hq] at k1
        clear hq
        go_wp2_with fail
        go_quiet (fail)
        go_wp2_with fail
        go_roundw
        case rel => exact ⟨i + 1, by omega, by go_num, HY.out, ndrewN hB.out _⟩
        case measure => simp [intOf]; omega
      · have HN : Hid (Mn.sameB f g n = false) := Mn.sameB_no hlt hq
        have hq2 : (f i != g i) = true := by simp [hq]
        go_wp2_with fail
        go_quiet (fail)
        go_wp2_with fail
        go_ret
        exact ⟨by rw [HN.out]; rfl, ndrewN hB.out _⟩
    · obtain rfl : n = i := by omega
      go_wp2_with fail
      go_ret
      exact ⟨by rw [hsm]; rfl, hB.out⟩
/-- What stands from round to round. -/
structure SeS (m : Mn.Mains) (la : Option Addr) (lk gk gf fc : Nat) (F : Nat → Int) (w W : World) : Prop where
  row : W.rowIs w.heap.size 70 3 (rowN [.slice la m.ln lk, .slice (some ⟨gk, 0, none⟩) m.pn m.pn, .slice (some ⟨gf, 0, none⟩) m.pn fc])
  fl : IsBlk 2 gf m.pn F W
  k : KdBlk gk m W
  fr : Fr gf w W
theorem SeS.below {m : Mn.Mains} {la : Option Addr} {lk gk gf fc : Nat} {F : Nat → Int} {w W W' : World} (h : SeS m la lk gk gf fc F w W) (hb : Below W.heap.size W W') : SeS m la lk gk gf fc F w W' := ⟨nrow_below h.row hb, h.fl.below hb, h.k.below hb, h.fr.below hb⟩
theorem Fr.trans {g : Nat} {a b c : World} (h : Fr g a b) (k : Fr g b c) : Fr g a c := ⟨k.os.trans h.os, k.tape.trans h.tape, k.output.trans h.output, Nat.le_trans h.size k.size, fun j hj hne => (k.block j (Nat.lt_of_lt_of_le hj h.size) hne).trans (h.block j hj hne)⟩
set_option maxRecDepth 100000 in
set_option maxHeartbeats 2000000 in
theorem settle_any (m : Mn.Mains) (la : Option Addr) (lk gk gf fc : Nat) (f : Nat → Int) (R : Nat) (b w : World) (hb : Below b.heap.size b w) (hl : LsAt la m.ln m.LN m.L b) (hgf : b.heap.size ≤ gf) (hk : KdBlk gk m w) (hne : gk ≠ gf) (hf : IsBlk 2 gf m.pn f w) (hr : Mn.Right m) (ho : Mn.AllOk m f) (hR : R ≤ 100) :
    Calls Tryz.prog 67 #[rmV la m.ln lk gk m.pn (some ⟨gf, 0, none⟩) fc, .int .i64 R] w fun e w' => e = .returned (.int .i64 ((Mn.setl m R f 0).2 : Nat)) ∧ IsBlk 2 gf m.pn (Mn.setl m R f 0).1 w' ∧ Fr gf w w' := by
  have hpn := hr.pn
  have ST : Hid (SeS m la lk gk gf fc f w (w.alloc (.cells #[.slice la m.ln lk, .slice (some ⟨gk, 0, none⟩) m.pn m.pn, .slice (some ⟨gf, 0, none⟩) m.pn fc] 70))) := ⟨rowN_alloc w [.slice la m.ln lk, .slice (some ⟨gk, 0, none⟩) m.pn m.pn, .slice (some ⟨gf, 0, none⟩) m.pn fc] _, hf.below (nbel_alloc _ _), hk.below (nbel_alloc _ _), Fr.below ⟨rfl, rfl, rfl, Nat.le_refl _, fun _ _ _ => rfl⟩ (nbel_alloc _ _)⟩
  have HB := Lib.hid hb
  have HL := Lib.hid hl
  have HGF := Lib.hid hgf
  have HNE := Lib.hid hne
  have HR := Lib.hid hr
  have HO := Lib.hid ho
  have HPN : Hid (m.pn ≤ 1048576) := by show _ ≤ _; omega
  have HGW : Hid (gf < w.heap.size) := hf.lt
  clear hb hl hgf hk hne hf hr ho hpn
  go_enter Tryz.func67, Tryz.ntmps67
  go_wp2_with fail
  go_loopw [8] (fun iv wr => ∃ (d : Nat) (F : Nat → Int), d ≤ R ∧ iv = .int .i64 d ∧ Hid (Mn.setl m R f 0 = Mn.setl m (R - d) F d ∧ Mn.AllOk m F ∧ SeS m la lk gk gf fc F w wr)) (fun iv _ => R - (intOf iv).toNat)
  case atStart => exact ⟨0, f, Nat.zero_le _, rfl, rfl, HO.out, ST.out⟩
  case round =>
    obtain ⟨d, F, hd, rfl, HS⟩ := hrel
    clear ST
    have hd0 : (0 : Int) ≤ (d : Int) := by omega
    by_cases hlt : d < R
    · have hltz : (d : Int) < (R : Int) := by omega
      obtain ⟨⟨r0, r1, r2⟩, _⟩ := rowN3 HS.out.2.2.row
      go_wp2_with fail
      clear r0 r1 r2
      refine (mclone_any gf m.pn fc F wr (fun i hi => HS.out.2.2.fl.cell hi) HPN.out).mono ?_
      rintro e w1 ⟨⟨a, c, rfl, how⟩, hb1⟩
      have S1 := Lib.hid (HS.out.2.2.below hb1)
      have O1 := Lib.hid how
      have HGA : Hid (∀ k, a = some ⟨k, 0, none⟩ → k ≠ gf) := fun k e => by
        have h1 := (how.lt e).1
        have h2 := HS.out.2.2.fr.size
        have h3 := HGW.out
        omega
      obtain ⟨⟨r0, r1, r2⟩, _⟩ := rowN3 S1.out.row
      clear how hb1
      go_wp2_with fail
      clear r0 r1 r2
      refine (round_any m la lk gk gf fc F b w1 (S1.out.fr.old HB.out HGF.out) HL.out HGF.out S1.out.k HNE.out S1.out.fl HR.out HS.out.2.1).mono ?_
      rintro e w2 ⟨rfl, hfl, hfr⟩
      have S2 : Hid (SeS m la lk gk gf fc (Mn.round m F) w w2) := ⟨S1.out.row.of_block (hfr.block _ S1.out.row.lt (by have := HGW.out; omega)), hfl, S1.out.k.block (hfr.block _ S1.out.k.lt HNE.out), S1.out.fr.trans hfr⟩
      have O2 := Lib.hid (O1.out.keep (fun k e hk => hfr.block k hk (HGA.out k e)))
      have HOK : Hid (Mn.AllOk m (Mn.round m F)) := Mn.roundTo_ok HR.out HS.out.2.1 _ (Nat.le_refl _)
      obtain ⟨⟨r0, r1, r2⟩, _⟩ := rowN3 S2.out.row
      clear hfl hfr S1 O1
      go_wp2_with fail
      clear r0 r1 r2
      refine (equal_any _ _ _ _ _ _ F _ S2.out.fl.at_ O2.out.at_ HPN.out).mono ?_
      rintro e w3 ⟨rfl, hb3⟩
      have S3 := Lib.hid (S2.out.below hb3)
      clear hb3 S2 O2
      obtain ⟨r, hr⟩ : ∃ r, R - d = r + 1 := ⟨R - d - 1, by omega⟩
      cases hsm : Mn.sameB (Mn.round m F) F m.pn
      · have HE : Hid (Mn.setl m R f 0 = Mn.setl m (R - (d + 1)) (Mn.round m F) (d + 1)) := by
          show _ = _
          rw [HS.out.1, hr]
          have : R - (d + 1) = r := by omega
          rw [this]
          simp only [Mn.setl, hsm, Bool.false_eq_true, if_false]
        go_wp2_with fail
        go_roundw
        case rel => exact ⟨d + 1, Mn.round m F, by omega, by go_num, HE.out, HOK.out, S3.out⟩
        case measure => simp [intOf]; omega
      · have HE : Hid (Mn.setl m R f 0 = (Mn.round m F, d + 1)) := by
          show _ = _
          rw [HS.out.1, hr]
          simp only [Mn.setl, hsm, if_true]
        go_wp2_with fail
        go_ret
        rw [HE.out]
        exact ⟨by simp, S3.out.fl, S3.out.fr⟩
    · obtain rfl : R = d := by omega
      have HE : Hid (Mn.setl m R f 0 = (F, R)) := by
        show _ = _
        rw [HS.out.1, Nat.sub_self]
        rfl
      go_wp2_with fail
      go_ret
      rw [HE.out]
      exact ⟨by simp, HS.out.2.2.fl, HS.out.2.2.fr⟩
end Go.Proofs.YtfgmalnkpgloiaaGreatDoor
namespace Go.Proofs.YtfgmalnkpgloiaaGreatDoor
open Go.RowKit Go.Deep
theorem kdNe {m : Mn.Mains} {gk g n : Nat} {f : Nat → Int} {w : World} (hk : KdBlk gk m w) (hf : IsBlk 2 g n f w) : gk ≠ g := by
  rintro rfl
  obtain ⟨F, ⟨c1, e1, _⟩, _⟩ := hk
  obtain ⟨_, _, _, ⟨c2, e2, _⟩, _⟩ := hf
  rw [e1] at e2
  cases e2
/-- Where nothing is solved: the code and the place. -/
def NoSv (m : Mn.Mains) (R c a : Int) : Prop := (¬ (0 ≤ R ∧ R ≤ 100) ∧ c = 1 ∧ a = 0) ∨ ((0 ≤ R ∧ R ≤ 100) ∧ Mn.Start m c a ∧ c ≠ 0)
def svF (m : Mn.Mains) (R : Int) : Nat → Int := (Mn.setl m R.toNat (Mn.flows m) 0).1
def svD (m : Mn.Mains) (R : Int) : Nat := (Mn.setl m R.toNat (Mn.flows m) 0).2
inductive SoEnd (m : Mn.Mains) (R : Int) (B : Nat) (e : Ending) (W : World) : Prop
  | no (c a : Int) (y : Value) : NoSv m R c a → AsFinds y c → StFinds y a → e = .returned (.tuple #[moV none 0 0 none 0 0 0 0 0 0, .iface 107 y]) → SoEnd m R B e W
  | ok (gf gh : Nat) : (0 ≤ R ∧ R ≤ 100) → Mn.Start m 0 0 → e = .returned (.tuple #[moV (some ⟨gf, 0, none⟩) m.pn m.pn (some ⟨gh, 0, none⟩) (Mn.nn m) (Mn.nn m) (Mn.rest m (svF m R)) (svD m R : Nat) 0 0, .nilIface]) → IsBlk 2 gf m.pn (svF m R) W → IsBlk 2 gh (Mn.nn m) (Mn.heads m (svF m R)) W → B ≤ gf → B ≤ gh → gf ≠ gh → SoEnd m R B e W
theorem errS_wrap {ev : Value} {c a : Int} (s0 : ByteArray) (h : ErrS ev c a) : (∃ y, ev = .iface 107 y) ∧ AsFinds (.agg #[.string s0, ev]) c ∧ StFinds (.agg #[.string s0, ev]) a := by
  rcases h with ⟨s, rfl, rfl⟩ | ⟨s, rfl⟩
  · exact ⟨⟨_, rfl⟩, finds_two s0 s c, st_ddr s0 s c⟩
  · exact ⟨⟨_, rfl⟩, finds_ddsr s0 s a c, st_dds s0 s a c⟩
/-- What stands behind the start. -/
structure SvQ (m : Mn.Mains) (pa : Option Addr) (pk : Nat) (la : Option Addr) (lk : Nat) (wa : Option Addr) (wk : Nat) (X gk gf : Nat) (tv : Value) (F : Nat → Int) (w W : World) : Prop where
  row : W.rowIs w.heap.size 27 5 (rowN (mnL m pa pk la lk wa wk))
  res : W.rowIs (w.heap.size + 1) 31 6 (rowN (moL none 0 0 none 0 0 0 0 0 0))
  r6 : W.rowIs X 70 3 (rowN [.slice la m.ln lk, .slice (some ⟨gk, 0, none⟩) m.pn m.pn, .slice (some ⟨gf, 0, none⟩) m.pn m.pn])
  k : KdBlk gk m W
  fl : IsBlk 2 gf m.pn F W
  tr : TrAt m tv (Mn.fin m).2 W
  at_ : MnAt m pa la wa W
  old : Below w.heap.size w W
theorem SvQ.below {m : Mn.Mains} {pa : Option Addr} {pk : Nat} {la : Option Addr} {lk : Nat} {wa : Option Addr} {wk : Nat} {X gk gf : Nat} {tv : Value} {F : Nat → Int} {w W W' : World} (h : SvQ m pa pk la lk wa wk X gk gf tv F w W) (hb : Below W.heap.size W W') : SvQ m pa pk la lk wa wk X gk gf tv F w W' := ⟨nrow_below h.row hb, nrow_below h.res hb, nrow_below h.r6 hb, h.k.below hb, h.fl.below hb, h.tr.below hb, h.at_.below hb, h.old.trans (hb.mono h.old.size)⟩
theorem TrAt.fr {m : Mn.Mains} {tv : Value} {l : List (Nat × Bool)} {gf : Nat} {W W' : World} (h : TrAt m tv l W) (hn : TrNe tv gf) (hf : Fr gf W W') : TrAt m tv l W' := by
  obtain ⟨a, c, e, hq⟩ := h
  refine ⟨a, c, e, ?_⟩
  rcases hq with hq | ⟨g, eg, hg, hc⟩
  · exact Or.inl hq
  · by_cases hl : l = []
    · exact Or.inl hl
    right
    have hne : g ≠ gf := hn g l.length c (by rw [e, eg]) (by intro h0; exact hl (List.eq_nil_of_length_eq_zero h0))
    refine ⟨g, eg, Nat.lt_of_lt_of_le hg hf.size, fun k x hx => ?_⟩
    have cc : ∀ o, W'.cell? ⟨g, o, none⟩ = W.cell? ⟨g, o, none⟩ := fun o => by
      unfold World.cell?
      rw [hf.block g hg hne]
    have := hc k x hx
    rw [cc, cc, cc, cc]
    exact this
theorem SvQ.fr {m : Mn.Mains} {pa : Option Addr} {pk : Nat} {la : Option Addr} {lk : Nat} {wa : Option Addr} {wk : Nat} {X gk gf : Nat} {tv : Value} {F F' : Nat → Int} {w W W' : World} (h : SvQ m pa pk la lk wa wk X gk gf tv F w W) (hfl : IsBlk 2 gf m.pn F' W') (hf : Fr gf W W') (hg : w.heap.size + 2 ≤ gf) (hX : X ≠ gf) (hk : gk ≠ gf) (hn : TrNe tv gf) (h0 : MnAt m pa la wa w) : SvQ m pa pk la lk wa wk X gk gf tv F' w W' := by
  have hold : Below w.heap.size w W' := hf.old h.old (by omega)
  exact ⟨h.row.of_block (hf.block _ h.row.lt (by omega)), h.res.of_block (hf.block _ h.res.lt (by omega)), h.r6.of_block (hf.block _ h.r6.lt hX), h.k.block (hf.block _ h.k.lt hk), hfl, h.tr.fr hn hf, h0.below hold, hold⟩
set_option maxRecDepth 100000 in
set_option maxHeartbeats 2000000 in
theorem solveMains_any (m : Mn.Mains) (pa : Option Addr) (pk : Nat) (la : Option Addr) (lk : Nat) (wa : Option Addr) (wk : Nat) (R : Int) (w : World) (h : MnAt m pa la wa w) :
    Calls Tryz.prog 36 #[mnV m pa pk la lk wa wk, .int .i64 R] w fun e w' => SoEnd m R w.heap.size e w' ∧ Below w.heap.size w w' := by
  obtain ⟨W0, hW0⟩ : ∃ W0, W0 = (w.alloc (.cells #[.int .i64 m.nodes, .int .i64 m.head, .slice pa m.pn pk, .slice la m.ln lk, .slice wa m.wn wk] 27)).alloc (.cells #[.slice none 0 0, .slice none 0 0, .int .i64 0, .int .i64 0, .int .i64 0, .int .i64 0] 31) := ⟨_, rfl⟩
  have S0 : Hid (MsS m pa pk la lk wa wk w W0) := by
    show MsS _ _ _ _ _ _ _ _ _
    rw [hW0]
    exact ⟨nrow_below (rowN_alloc w _ _) (nbel_alloc _ _), rowN_alloc' (by simp) _ _, (h.below (nbel_alloc _ _)).below (nbel_alloc _ _), mbel2 _ _ _⟩
  have HSZ : Hid (W0.heap.size = w.heap.size + 2) := by show _ = _; rw [hW0]; simp
  have HW0 := Lib.hid hW0
  have HA := Lib.hid h
  clear h hW0
  by_cases hR : 0 ≤ R ∧ R ≤ 100
  case neg =>
    have HB : Hid (false = true ↔ (0 ≤ R ∧ R ≤ 100)) := ⟨fun h => (by cases h), fun h => absurd h hR⟩
    have HN : Hid (NoSv m R 1 0) := Or.inl ⟨hR, rfl, rfl⟩
    have D := Lib.hid (set6_done S0.out.res rfl S0.out.old (by omega) (.slice none 0 0) (.slice none 0 0) (.int .i64 0) (.int .i64 0) (.int .i64 0) (.int .i64 0))
    clear hR
    go_enter Tryz.func36, Tryz.ntmps36
    go_wp2_with fail
    rw [← HW0.out]
    refine (nwithin_any R 100 false HB.out _).mono ?_
    rintro e w' ⟨rfl, hw⟩
    subst w'
    obtain ⟨⟨x0, x1, x2, x3, x4, x5⟩, z0, z1, z2, z3, z4, z5⟩ := rowN6 S0.out.res
    have lx := S0.out.res.lt
    go_wp2_with fail
    obtain ⟨⟨q0, q1, q2, q3, q4, q5⟩, _⟩ := rowN6 D.out.1
    unfold set6 at q0 q1 q2 q3 q4 q5
    refine bodyPost_ret (v := .tuple #[moV none 0 0 none 0 0 0 0 0 0, errV ⟨#[114, 111, 117, 110, 100, 115]⟩ 1]) ?_ rfl ⟨SoEnd.no 1 0 _ HN.out (finds_one _ 1) (st_dr _ 1) rfl, ?_⟩
    · simp only [results, Tryz.results36]
      simp [go_sem, q0, q1, q2, q3, q4, q5]
    · have := D.out.2.1
      unfold set6 at this
      exact this
  case pos =>
  have HR := Lib.hid hR
  clear hR
  go_enter Tryz.func36, Tryz.ntmps36
  go_wp2_with fail
  rw [← HW0.out]
  refine (nwithin_any R 100 true ⟨fun _ => HR.out, fun _ => rfl⟩ _).mono ?_
  rintro e w' ⟨rfl, hw⟩
  subst w'
  obtain ⟨⟨r0, r1, r2, r3, r4⟩, _⟩ := rowN5 S0.out.row
  go_wp2_with fail
  clear r0 r1 r2 r3 r4
  refine (startMains_any m pa pk la lk wa wk _ S0.out.at_).mono ?_
  rintro e w1 ⟨hE, hb⟩
  have S1 := Lib.hid (S0.out.below hb)
  have B1 : Hid (Below W0.heap.size W0 w1) := hb
  clear hb
  rcases hE with ⟨c, a, ev, hst, hc0, hev, rfl⟩ | ⟨gk, gf, tv, hst, rfl, hkd, hfl, htr, hgk, hgf, htn⟩
  · obtain ⟨⟨y, rfl⟩, hA, hS⟩ := errS_wrap ⟨#[116, 104, 101, 32, 115, 116, 97, 114, 116]⟩ hev
    have HN : Hid (NoSv m R c a) := Or.inr ⟨HR.out, hst, hc0⟩
    have HAF := Lib.hid hA
    have HSF := Lib.hid hS
    have D0 := set6_done S1.out.res rfl S1.out.old (by omega) (.slice none 0 0) (.slice none 0 0) (.int .i64 0) (.int .i64 0) (.int .i64 0) (.int .i64 0)
    have D : Hid (World.rowIs ((set6 w1 (w.heap.size + 1) (.slice none 0 0) (.slice none 0 0) (.int .i64 0) (.int .i64 0) (.int .i64 0) (.int .i64 0)).alloc (.cells #[.slice none 0 0, .slice none 0 0, .slice none 0 0] 70)) (w.heap.size + 1) 31 6 (rowN (moL none 0 0 none 0 0 0 0 0 0)) ∧ Below w.heap.size w ((set6 w1 (w.heap.size + 1) (.slice none 0 0) (.slice none 0 0) (.int .i64 0) (.int .i64 0) (.int .i64 0) (.int .i64 0)).alloc (.cells #[.slice none 0 0, .slice none 0 0, .slice none 0 0] 70))) := ⟨nrow_below D0.1 (nbel_alloc _ _), D0.2.1.trans ((nbel_alloc _ _).mono D0.2.1.size)⟩
    clear D0 hst hc0 hev hA hS
    obtain ⟨⟨x0, x1, x2, x3, x4, x5⟩, z0, z1, z2, z3, z4, z5⟩ := rowN6 S1.out.res
    have lx := S1.out.res.lt
    go_wp2_with fail
    obtain ⟨⟨q0, q1, q2, q3, q4, q5⟩, _⟩ := rowN6 D.out.1
    unfold set6 at q0 q1 q2 q3 q4 q5
    refine bodyPost_ret (v := .tuple #[moV none 0 0 none 0 0 0 0 0 0, .iface 107 (.agg #[.string ⟨#[116, 104, 101, 32, 115, 116, 97, 114, 116]⟩, .iface 107 y])]) ?_ rfl ⟨SoEnd.no c a _ HN.out HAF.out HSF.out rfl, ?_⟩
    · simp only [results, Tryz.results36]
      simp [go_sem, q0, q1, q2, q3, q4, q5]
    · have := D.out.2
      unfold set6 at this
      exact this
  have HST := Lib.hid hst
  have HRO := Lib.hid (hst.rightOk rfl)
  have HTN := Lib.hid htn
  obtain ⟨r, hr⟩ : ∃ r : Nat, R = r := ⟨R.toNat, by have := HR.out; omega⟩
  have HRT : Hid (r = R.toNat ∧ r ≤ 100) := by show _ ∧ _; have := HR.out; omega
  obtain ⟨W2, hW2⟩ : ∃ W2, W2 = w1.alloc (.cells #[.slice la m.ln lk, .slice (some ⟨gk, 0, none⟩) m.pn m.pn, .slice (some ⟨gf, 0, none⟩) m.pn m.pn] 70) := ⟨_, rfl⟩
  have hb2 : Below w1.heap.size w1 W2 := by rw [hW2]; exact nbel_alloc _ _
  have S2 : Hid (SvQ m pa pk la lk wa wk w1.heap.size gk gf tv (Mn.flows m) w W2) := ⟨nrow_below S1.out.row hb2, nrow_below S1.out.res hb2, by rw [hW2]; exact rowN_alloc w1 _ _, hkd.below hb2, hfl.below hb2, htr.below hb2, S1.out.at_.below hb2, S1.out.old.trans (hb2.mono S1.out.old.size)⟩
  have HGF : Hid (w.heap.size + 2 ≤ gf ∧ gf < w1.heap.size ∧ W0.heap.size ≤ gf) := by have := HSZ.out; have := hfl.lt; exact ⟨by omega, by omega, hgf⟩
  have HKN : Hid (gk ≠ gf) := kdNe hkd hfl
  have BW2 : Hid (Below W0.heap.size W0 W2) := B1.out.trans (hb2.mono B1.out.size)
  obtain ⟨ta, tc, etv, _⟩ := htr
  have HW2 := Lib.hid hW2
  have lx1 : w.heap.size + 1 < w1.heap.size := S1.out.res.lt
  have lx0 : w.heap.size < w1.heap.size := S1.out.row.lt
  obtain ⟨⟨m0, m1, m2, m3, m4⟩, _⟩ := rowN5 S1.out.row
  clear hst htn hkd hfl hgk hgf hb2 hW2 B1
  subst etv
  go_wp2_with fail
  rw [← HW2.out]
  clear HW2 m0 m1 m2 m3 m4 lx1 lx0
  have HX : Hid (w1.heap.size ≠ gf ∧ w1.heap.size ≠ w.heap.size + 1) := by
    have h1 := HGF.out
    have h2 := S1.out.res.lt
    exact ⟨by omega, by omega⟩
  clear S1
  generalize w1.heap.size = X at *
  refine (settle_any m la lk gk gf m.pn (Mn.flows m) r W0 W2 BW2.out S0.out.at_.l HGF.out.2.2 S2.out.k HKN.out S2.out.fl HRO.out.1 HRO.out.2 HRT.out.2).mono ?_
  rintro e w3 ⟨rfl, hfl, hfr⟩
  have HFE : Hid (svF m R = (Mn.setl m r (Mn.flows m) 0).1 ∧ svD m R = (Mn.setl m r (Mn.flows m) 0).2) := by show _ ∧ _; unfold svF svD; rw [← HRT.out.1]; exact ⟨rfl, rfl⟩
  have HOF : Hid (Mn.AllOk m (Mn.setl m r (Mn.flows m) 0).1) := Mn.setl_ok HRO.out.1 _ _ _ HRO.out.2
  have S3 := Lib.hid (S2.out.fr hfl hfr HGF.out.1 HX.out.1 HKN.out HTN.out HA.out)
  clear hfl hfr S2 BW2
  generalize (Mn.setl m r (Mn.flows m) 0).1 = F at *
  generalize ((Mn.setl m r (Mn.flows m) 0).2) = dn at *
  obtain ⟨⟨x0, x1, x2⟩, _⟩ := rowN3 S3.out.r6
  obtain ⟨⟨r0, r1, r2, r3, r4⟩, _⟩ := rowN5 S3.out.row
  go_wp2_with fail
  clear x0 x1 x2 r0 r1 r2 r3 r4
  refine (headsAlong_any m la m.ln lk gk (some ⟨gf, 0, none⟩) m.pn F _ _ S3.out.k S3.out.fl.at_ S3.out.tr HRO.out.1 HOF.out (HST.out.outOk rfl)).mono ?_
  rintro e w4 ⟨⟨gh, rfl, hhd, hgh⟩, hb⟩
  have S4 := Lib.hid (S3.out.below hb)
  have HH := Lib.hid hhd
  have HGH : Hid (w.heap.size + 2 ≤ gh ∧ gf ≠ gh ∧ gh ≠ w.heap.size + 1) := by
    have h1 := S3.out.res.lt
    have h2 := S3.out.fl.lt
    exact ⟨by omega, by omega, by omega⟩
  clear hb hhd hgh S3
  go_wp2_with fail
  refine wp_region_held_drew (S := fun V => V.rowIs X 70 3 (rowN [.slice la m.ln lk, .slice (some ⟨gk, 0, none⟩) m.pn m.pn, .slice (some ⟨gf, 0, none⟩) m.pn m.pn])) (by kernel_rfl) (nrow_below S4.out.r6 (Below.refl _ _).drew) (fun hHeld => ?_)
  obtain ⟨Z, hZ⟩ : ∃ Z, Z = w4.drew := ⟨_, rfl⟩
  have SZ : Hid (SvQ m pa pk la lk wa wk X gk gf (.slice ta (Mn.fin m).2.length tc) F w Z) := by show SvQ _ _ _ _ _ _ _ _ _ _ _ _ _ _; rw [hZ]; exact S4.out.below (Below.refl _ _).drew
  have HZ : Hid (IsBlk 2 gh (Mn.nn m) (Mn.heads m F) Z) := by show IsBlk _ _ _ _ _; rw [hZ]; exact HH.out.below (Below.refl _ _).drew
  rw [← hZ] at hHeld ⊢
  clear hZ S4 HH
  refine take_do (i := 0) (v := (.pointer (some ⟨X, 2, none⟩))) rfl (by kernel_rfl) (by kernel_rfl) (by kernel_rfl) (fun _ _ _ h => h) (by rfl) ?_ (by assumption) ?_
  · intro w' hSw
    skip
    go_simp
  simp only [Act.put, List.setIfInBounds_toArray, List.set_cons_zero, List.set_cons_succ]
  refine take_do (i := 1) (v := (.slice (some ⟨gf, 0, none⟩) m.pn m.pn)) rfl (by kernel_rfl) (by kernel_rfl) (by kernel_rfl) (fun _ _ _ h => h) (by rfl) ?_ (by assumption) ?_
  · intro w' hSw
    obtain ⟨⟨r0, r1, r2⟩, _⟩ := rowN3 hSw
    go_simp
  simp only [Act.put, List.setIfInBounds_toArray, List.set_cons_zero, List.set_cons_succ]
  refine take_do (i := 2) (v := (.slice (some ⟨gh, 0, none⟩) (Mn.nn m) (Mn.nn m))) rfl (by kernel_rfl) (by kernel_rfl) (by kernel_rfl) (fun _ _ _ h => h) (by rfl) ?_ (by assumption) ?_
  · intro w' hSw
    skip
    go_simp
  simp only [Act.put, List.setIfInBounds_toArray, List.set_cons_zero, List.set_cons_succ]
  refine take_do (i := 3) (v := (rmV la m.ln lk gk m.pn (some ⟨gf, 0, none⟩) m.pn)) rfl (by kernel_rfl) (by kernel_rfl) (by kernel_rfl) (fun _ _ _ h => h) (by rfl) ?_ (by assumption) ?_
  · intro w' hSw
    obtain ⟨⟨r0, r1, r2⟩, _⟩ := rowN3 hSw
    go_simp
  simp only [Act.put, List.setIfInBounds_toArray, List.set_cons_zero, List.set_cons_succ]
  refine take_do (i := 5) (v := (.int .i64 (dn : Int))) rfl (by kernel_rfl) (by kernel_rfl) (by kernel_rfl) (fun _ _ _ h => h) (by rfl) ?_ (by assumption) ?_
  · intro w' hSw
    skip
    go_simp
  simp only [Act.put, List.setIfInBounds_toArray, List.set_cons_zero, List.set_cons_succ]
  refine take_call (i := 4) rfl (by kernel_rfl) (fun K2 hK => ?_)
  go_simp
  refine (irest_any m la lk gk (some ⟨gf, 0, none⟩) m.pn F _ SZ.out.at_.l SZ.out.k SZ.out.fl.at_ HRO.out.1 HOF.out).mono ?_
  rintro e w5 ⟨rfl, hb⟩
  have S5 := Lib.hid (SZ.out.below hb)
  have H5 := Lib.hid (HZ.out.below hb)
  go_wp2_with fail
  refine hK.out _ _ (nrow_below hHeld hb) (fun hHeld2 => ?_)
  clear hK hHeld hb SZ HZ
  have hHeld := hHeld2
  clear hHeld2
  refine take_do (i := 6) (v := (moV (some ⟨gf, 0, none⟩) m.pn m.pn (some ⟨gh, 0, none⟩) (Mn.nn m) (Mn.nn m) (Mn.rest m F) (dn : Int) 0 0)) rfl (by kernel_rfl) (by kernel_rfl) (by kernel_rfl) (fun _ _ _ h => h) (by rfl) ?_ (by assumption) ?_
  · intro w' hSw
    skip
    go_simp
  simp only [Act.put, List.setIfInBounds_toArray, List.set_cons_zero, List.set_cons_succ]
  have D := Lib.hid (set6_done S5.out.res rfl S5.out.old (by omega) (.slice (some ⟨gf, 0, none⟩) m.pn m.pn) (.slice (some ⟨gh, 0, none⟩) (Mn.nn m) (Mn.nn m)) (.int .i64 (Mn.rest m F)) (.int .i64 (dn : Int)) (.int .i64 0) (.int .i64 0))
  obtain ⟨⟨x0, x1, x2, x3, x4, x5⟩, z0, z1, z2, z3, z4, z5⟩ := rowN6 S5.out.res
  have lx := S5.out.res.lt
  obtain ⟨WZ, hWZ⟩ : ∃ WZ, WZ = set6 w5 (w.heap.size + 1) (.slice (some ⟨gf, 0, none⟩) m.pn m.pn) (.slice (some ⟨gh, 0, none⟩) (Mn.nn m) (Mn.nn m)) (.int .i64 (Mn.rest m F)) (.int .i64 (dn : Int)) (.int .i64 0) (.int .i64 0) := ⟨_, rfl⟩
  have HRX : Hid (WZ.rowIs X 70 3 (rowN [.slice la m.ln lk, .slice (some ⟨gk, 0, none⟩) m.pn m.pn, .slice (some ⟨gf, 0, none⟩) m.pn m.pn])) := by
    show World.rowIs _ _ _ _ _
    rw [hWZ]
    exact S5.out.r6.of_block (D.out.2.2 _ HX.out.2)
  have HWZ := Lib.hid hWZ
  unfold set6 at hWZ
  refine take_call (i := 7) rfl (by kernel_rfl) (fun K2 hK => ?_)
  go_simp
  rw [← hWZ]
  refine hK.out _ _ HRX.out (fun hHeld2 => ?_)
  clear hK hHeld x0 x1 x2 x3 x4 x5 z0 z1 z2 z3 z4 z5 lx hWZ
  have hHeld := hHeld2
  clear hHeld2
  refine take_do (i := 8) (v := (.nilIface)) rfl (by kernel_rfl) (by kernel_rfl) (by kernel_rfl) (fun _ _ _ h => h) (by rfl) ?_ (by assumption) ?_
  · intro w' hSw
    skip
    go_simp
  simp only [Act.put, List.setIfInBounds_toArray, List.set_cons_zero, List.set_cons_succ]
  refine wpAnyH_done (by kernel_rfl) ?_ _
  clear hHeld
  obtain ⟨⟨q0, q1, q2, q3, q4, q5⟩, _⟩ := rowN6 D.out.1
  rw [← HWZ.out] at q0 q1 q2 q3 q4 q5
  go_wp2_with fail
  refine bodyPost_ret (v := .tuple #[(moV (some ⟨gf, 0, none⟩) m.pn m.pn (some ⟨gh, 0, none⟩) (Mn.nn m) (Mn.nn m) (Mn.rest m F) (dn : Int) 0 0), .nilIface]) ?_ rfl ⟨SoEnd.ok gf gh HR.out HST.out ?_ ?_ ?_ (by have := HGF.out; omega) (by have := HGH.out; omega) HGH.out.2.1, ?_⟩
  · simp only [results, Tryz.results36]
    simp [go_sem, q0, q1, q2, q3, q4, q5]
  · rw [HFE.out.1, HFE.out.2]
  · rw [HFE.out.1, HWZ.out]
    exact S5.out.fl.block (D.out.2.2 _ (by have := HGF.out; omega))
  · rw [HFE.out.1, HWZ.out]
    exact H5.out.block (D.out.2.2 _ HGH.out.2.2)
  · rw [HWZ.out]; exact D.out.2.1
end Go.Proofs.YtfgmalnkpgloiaaGreatDoor
namespace Go.Proofs.YtfgmalnkpgloiaaGreatDoor
open Go.RowKit Go.Deep
/-- What is told of mains that are to be solved. -/
inductive SvEnd (m : Mn.Mains) (R : Int) (B : Nat) (e : Ending) (W : World) : Prop
  | no (c a : Int) : NoSv m R c a → e = .returned (moV none 0 0 none 0 0 0 0 a c) → SvEnd m R B e W
  | ok (x : Option Addr) (cx : Nat) (p : Option Addr) (cp : Nat) : (0 ≤ R ∧ R ≤ 100) → Mn.Start m 0 0 → e = .returned (moV x m.pn cx p (Mn.nn m) cp (Mn.rest m (svF m R)) (svD m R : Nat) 0 0) → Ow2 B m.pn cx (Mn.nn m) cp x p (svF m R) (Mn.heads m (svF m R)) W → SvEnd m R B e W
set_option maxRecDepth 100000 in
set_option maxHeartbeats 2000000 in
theorem implSolve_any (m : Mn.Mains) (pa : Option Addr) (pk : Nat) (la : Option Addr) (lk : Nat) (wa : Option Addr) (wk : Nat) (R : Int) (w : World) (h : MnAt m pa la wa w) (hg : Et w) :
    Calls Tryz.prog 9 #[mnV m pa pk la lk wa wk, .int .i64 R] w fun e w' => SvEnd m R w.heap.size e w' ∧ Below w.heap.size w w' := by
  obtain ⟨W, hW⟩ : ∃ W, W = (w.alloc (.cells #[.int .i64 m.nodes, .int .i64 m.head, .slice pa m.pn pk, .slice la m.ln lk, .slice wa m.wn wk] 27)).alloc (.cells (moA none 0 0 none 0 0 0 0 0 0) 31) := ⟨_, rfl⟩
  have S0 : Hid (MsS m pa pk la lk wa wk w W) := by
    show MsS _ _ _ _ _ _ _ _ _
    rw [hW]
    exact ⟨nrow_below (rowN_alloc w _ _) (nbel_alloc _ _), rowN_alloc' (by simp) _ _, (h.below (nbel_alloc _ _)).below (nbel_alloc _ _), mbel2 _ _ _⟩
  have HSZ : Hid (W.heap.size = w.heap.size + 2) := by show _ = _; rw [hW]; simp
  have HW := Lib.hid hW
  have HG := Lib.hid hg
  clear h hW hg
  go_enter Tryz.func9, Tryz.ntmps9
  go_wp2_with fail
  rw [← HW.out]
  refine (solveMains_any m pa pk la lk wa wk R _ S0.out.at_).mono ?_
  rintro e w1 ⟨hE, hb⟩
  have S1 := Lib.hid (S0.out.below hb)
  clear hb S0
  rcases hE with ⟨c, a, y, hn, hA, hS, rfl⟩ | ⟨gf, gh, hR, hst, rfl, hfl, hhd, hgf, hgh, hne⟩
  · have HN := Lib.hid hn
    have HAF := Lib.hid hA
    have HSF := Lib.hid hS
    clear hn hA hS
    go_wp2_with fail
    refine (tell_bad _ _ _ _ _ _ _ _ _ _ _ a c HAF.out HSF.out _ (HG.out.below S1.out.old)).mono ?_
    rintro e w2 ⟨rfl, hb⟩
    have S3 := Lib.hid (S1.out.below hb)
    clear hb S1
    have D := Lib.hid (set6_done S3.out.res rfl S3.out.old (by omega) (.slice none 0 0) (.slice none 0 0) (.int .i64 0) (.int .i64 0) (.int .i64 a) (.int .i64 c))
    obtain ⟨⟨x0, x1, x2, x3, x4, x5⟩, z0, z1, z2, z3, z4, z5⟩ := rowN6 S3.out.res
    have lx := S3.out.res.lt
    go_wp2_with fail
    obtain ⟨⟨q0, q1, q2, q3, q4, q5⟩, _⟩ := rowN6 D.out.1
    unfold set6 at q0 q1 q2 q3 q4 q5
    refine bodyPost_ret (v := moV none 0 0 none 0 0 0 0 a c) ?_ rfl ⟨SvEnd.no c a HN.out rfl, D.out.2.1⟩
    simp only [results, Tryz.results9]
    simp [go_sem, q0, q1, q2, q3, q4, q5]
  · have HR := Lib.hid hR
    have HST := Lib.hid hst
    have HFL := Lib.hid hfl
    have HHD := Lib.hid hhd
    have HGG : Hid (w.heap.size + 2 ≤ gf ∧ w.heap.size + 2 ≤ gh ∧ gf ≠ gh) := by have := HSZ.out; exact ⟨by omega, by omega, hne⟩
    clear hR hst hfl hhd hgf hgh hne
    go_wp2_with fail
    refine (tell_ok _ _ _ _ _ _ _ _ _ _ _).mono ?_
    rintro e w2 ⟨rfl, hb⟩
    have S3 := Lib.hid (S1.out.below hb)
    have F3 := Lib.hid (HFL.out.below hb)
    have G3 := Lib.hid (HHD.out.below hb)
    clear hb S1 HFL HHD
    have D := Lib.hid (set6_done S3.out.res rfl S3.out.old (by omega) (.slice (some ⟨gf, 0, none⟩) m.pn m.pn) (.slice (some ⟨gh, 0, none⟩) (Mn.nn m) (Mn.nn m)) (.int .i64 (Mn.rest m (svF m R))) (.int .i64 (svD m R : Nat)) (.int .i64 0) (.int .i64 0))
    obtain ⟨⟨x0, x1, x2, x3, x4, x5⟩, z0, z1, z2, z3, z4, z5⟩ := rowN6 S3.out.res
    have lx := S3.out.res.lt
    go_wp2_with fail
    obtain ⟨⟨q0, q1, q2, q3, q4, q5⟩, _⟩ := rowN6 D.out.1
    unfold set6 at q0 q1 q2 q3 q4 q5
    have gg := HGG.out
    have HO : Hid (Ow2 w.heap.size m.pn m.pn (Mn.nn m) (Mn.nn m) (some ⟨gf, 0, none⟩) (some ⟨gh, 0, none⟩) (svF m R) (Mn.heads m (svF m R)) (set6 w2 (w.heap.size + 1) (.slice (some ⟨gf, 0, none⟩) m.pn m.pn) (.slice (some ⟨gh, 0, none⟩) (Mn.nn m) (Mn.nn m)) (.int .i64 (Mn.rest m (svF m R))) (.int .i64 (svD m R : Nat)) (.int .i64 0) (.int .i64 0))) := ⟨Or.inr ⟨gf, rfl, by omega, F3.out.block (D.out.2.2 _ (by omega))⟩, Or.inr ⟨gh, rfl, by omega, G3.out.block (D.out.2.2 _ (by omega))⟩, fun k e e' => gg.2.2 (by cases e; cases e'; rfl)⟩
    refine bodyPost_ret (v := moV (some ⟨gf, 0, none⟩) m.pn m.pn (some ⟨gh, 0, none⟩) (Mn.nn m) (Mn.nn m) (Mn.rest m (svF m R)) (svD m R : Nat) 0 0) ?_ rfl ⟨SvEnd.ok _ _ _ _ HR.out HST.out rfl HO.out, D.out.2.1⟩
    simp only [results, Tryz.results9]
    simp [go_sem, q0, q1, q2, q3, q4, q5]
end Go.Proofs.YtfgmalnkpgloiaaGreatDoor
namespace Go.Proofs.YtfgmalnkpgloiaaGreatDoor
open Go.RowKit Go.Deep
/-- What stands in the model's walk. -/
structure SwQ (m : Mn.Mains) (pa : Option Addr) (pk : Nat) (la : Option Addr) (lk : Nat) (wa : Option Addr) (wk : Nat) (Y : Nat) (x : Option Addr) (cx : Nat) (hv : Value) (rs : Int) (d : Nat) (F : Nat → Int) (w W : World) : Prop where
  row : W.rowIs w.heap.size 27 5 (rowN (mnL m pa pk la lk wa wk))
  res : W.rowIs (w.heap.size + 1) 31 6 (rowN (moL none 0 0 none 0 0 0 0 0 0))
  ro : W.rowIs Y 31 6 (rowN [.slice x m.pn cx, hv, .int .i64 rs, .int .i64 (d : Int), .int .i64 0, .int .i64 0])
  fl : OwL 2 (w.heap.size + 2) m.pn x cx F W
  ne : ∀ k, x = some ⟨k, 0, none⟩ → k ≠ Y
  at_ : MnAt m pa la wa W
  old : Below w.heap.size w W
  own : MnAt m pa la wa w
theorem SwQ.below {m : Mn.Mains} {pa : Option Addr} {pk : Nat} {la : Option Addr} {lk : Nat} {wa : Option Addr} {wk : Nat} {Y : Nat} {x : Option Addr} {cx : Nat} {hv : Value} {rs : Int} {d : Nat} {F : Nat → Int} {w W W' : World} (h : SwQ m pa pk la lk wa wk Y x cx hv rs d F w W) (hb : Below W.heap.size W W') : SwQ m pa pk la lk wa wk Y x cx hv rs d F w W' := ⟨nrow_below h.row hb, nrow_below h.res hb, nrow_below h.ro hb, h.fl.below hb, h.ne, h.at_.below hb, h.old.trans (hb.mono h.old.size), h.own⟩
theorem SwQ.rest {m : Mn.Mains} {pa : Option Addr} {pk : Nat} {la : Option Addr} {lk : Nat} {wa : Option Addr} {wk : Nat} {Y : Nat} {x : Option Addr} {cx : Nat} {hv : Value} {rs : Int} {d : Nat} {F : Nat → Int} {w W : World} (h : SwQ m pa pk la lk wa wk Y x cx hv rs d F w W) (z : Int) (hY : w.heap.size + 2 ≤ Y) : SwQ m pa pk la lk wa wk Y x cx hv z d F w (W.setCell ⟨Y, 2, none⟩ (.int .i64 z)) := by
  have hold : Below w.heap.size w (W.setCell ⟨Y, 2, none⟩ (.int .i64 z)) := h.old.setCell (p := ⟨Y, 2, none⟩) (show w.heap.size ≤ Y by omega) _
  have b : ∀ k, k ≠ Y → (W.setCell ⟨Y, 2, none⟩ (.int .i64 z)).heap[k]? = W.heap[k]? := fun k hk => Below.heap_setCell _ _ _ k hk
  exact ⟨h.row.of_block (b _ (by omega)), h.res.of_block (b _ (by omega)), rowN_put h.ro 2 _ (by simp), h.fl.keep (fun k e _ => b k (h.ne k e)), h.ne, h.own.below hold, hold, h.own⟩
theorem SwQ.heads {m : Mn.Mains} {pa : Option Addr} {pk : Nat} {la : Option Addr} {lk : Nat} {wa : Option Addr} {wk : Nat} {Y : Nat} {x : Option Addr} {cx : Nat} {hv : Value} {rs : Int} {d : Nat} {F : Nat → Int} {w W : World} (h : SwQ m pa pk la lk wa wk Y x cx hv rs d F w W) (z : Value) (hY : w.heap.size + 2 ≤ Y) : SwQ m pa pk la lk wa wk Y x cx z rs d F w (W.setCell ⟨Y, 1, none⟩ z) := by
  have hold : Below w.heap.size w (W.setCell ⟨Y, 1, none⟩ z) := h.old.setCell (p := ⟨Y, 1, none⟩) (show w.heap.size ≤ Y by omega) _
  have b : ∀ k, k ≠ Y → (W.setCell ⟨Y, 1, none⟩ z).heap[k]? = W.heap[k]? := fun k hk => Below.heap_setCell _ _ _ k hk
  exact ⟨h.row.of_block (b _ (by omega)), h.res.of_block (b _ (by omega)), rowN_put h.ro 1 _ (by simp), h.fl.keep (fun k e _ => b k (h.ne k e)), h.ne, h.own.below hold, hold, h.own⟩
theorem SwQ.next {m : Mn.Mains} {pa : Option Addr} {pk : Nat} {la : Option Addr} {lk : Nat} {wa : Option Addr} {wk : Nat} {Y : Nat} {x : Option Addr} {cx : Nat} {hv : Value} {rs : Int} {d : Nat} {F : Nat → Int} {w W : World} (h : SwQ m pa pk la lk wa wk Y x cx hv rs d F w W) (hY : w.heap.size + 2 ≤ Y) (x' : Option Addr) (c' : Nat) (F' : Nat → Int) (ho : OwL 2 (w.heap.size + 2) m.pn x' c' F' W) (hn : ∀ k, x' = some ⟨k, 0, none⟩ → k ≠ Y) : SwQ m pa pk la lk wa wk Y x' c' hv rs (d + 1) F' w ((W.setCell ⟨Y, 0, none⟩ (.slice x' m.pn c')).setCell ⟨Y, 3, none⟩ (.int .i64 ((d + 1 : Nat) : Int))) := by
  have hold : Below w.heap.size w ((W.setCell ⟨Y, 0, none⟩ (.slice x' m.pn c')).setCell ⟨Y, 3, none⟩ (.int .i64 ((d + 1 : Nat) : Int))) := (h.old.setCell (p := ⟨Y, 0, none⟩) (show w.heap.size ≤ Y by omega) _).setCell (p := ⟨Y, 3, none⟩) (show w.heap.size ≤ Y by omega) _
  have b : ∀ k, k ≠ Y → ((W.setCell ⟨Y, 0, none⟩ (.slice x' m.pn c')).setCell ⟨Y, 3, none⟩ (.int .i64 ((d + 1 : Nat) : Int))).heap[k]? = W.heap[k]? := fun k hk => (Below.heap_setCell _ _ _ k hk).trans (Below.heap_setCell _ _ _ k hk)
  exact ⟨h.row.of_block (b _ (by omega)), h.res.of_block (b _ (by omega)), rowN_put (rowN_put h.ro 0 _ (by simp)) 3 _ (by simp), ho.keep (fun k e _ => b k (hn k e)), hn, h.own.below hold, hold, h.own⟩
/-- How many rounds are left. -/
def leftR (R : Int) (Y : Nat) (W : World) : Nat := match W.cell? ⟨Y, 3, none⟩ with | some (.int _ d) => (R - d).toNat | _ => 0
theorem leftR_of {R d : Int} {Y : Nat} {k : IntKind} {W : World} (h : W.cell? ⟨Y, 3, none⟩ = some (.int k d)) : leftR R Y W = (R - d).toNat := by unfold leftR; rw [h]
theorem SwQ.left {m : Mn.Mains} {pa : Option Addr} {pk : Nat} {la : Option Addr} {lk : Nat} {wa : Option Addr} {wk : Nat} {Y : Nat} {x : Option Addr} {cx : Nat} {hv : Value} {rs : Int} {d : Nat} {F : Nat → Int} {w W : World} (h : SwQ m pa pk la lk wa wk Y x cx hv rs d F w W) (R : Int) : leftR R Y W = (R - d).toNat := leftR_of (h.ro.cell (i := 3) (by omega))
set_option maxRecDepth 100000 in
set_option maxHeartbeats 4000000 in
theorem specSolve_any (m : Mn.Mains) (pa : Option Addr) (pk : Nat) (la : Option Addr) (lk : Nat) (wa : Option Addr) (wk : Nat) (R : Int) (w : World) (h : MnAt m pa la wa w) (hs : MnSmall m) :
    Calls Tryz.prog 8 #[mnV m pa pk la lk wa wk, .int .i64 R] w fun e w' => SvEnd m R w.heap.size e w' ∧ Below w.heap.size w w' := by
  obtain ⟨W0, hW0⟩ : ∃ W0, W0 = (w.alloc (.cells #[.int .i64 m.nodes, .int .i64 m.head, .slice pa m.pn pk, .slice la m.ln lk, .slice wa m.wn wk] 27)).alloc (.cells #[.slice none 0 0, .slice none 0 0, .int .i64 0, .int .i64 0, .int .i64 0, .int .i64 0] 31) := ⟨_, rfl⟩
  have S0 : Hid (MsS m pa pk la lk wa wk w W0) := by
    show MsS _ _ _ _ _ _ _ _ _
    rw [hW0]
    exact ⟨nrow_below (rowN_alloc w _ _) (nbel_alloc _ _), rowN_alloc' (by simp) _ _, (h.below (nbel_alloc _ _)).below (nbel_alloc _ _), mbel2 _ _ _⟩
  have HSZ : Hid (W0.heap.size = w.heap.size + 2) := by show _ = _; rw [hW0]; simp
  have HW0 := Lib.hid hW0
  have HA := Lib.hid h
  have HSM := Lib.hid hs
  clear h hW0 hs
  by_cases hR : 0 ≤ R ∧ R ≤ 100
  case neg =>
    have HN : Hid (NoSv m R 1 0) := Or.inl ⟨hR, rfl, rfl⟩
    have D : Hid (Below w.heap.size w (((w.alloc (.cells #[.int .i64 m.nodes, .int .i64 m.head, .slice pa m.pn pk, .slice la m.ln lk, .slice wa m.wn wk] 27)).alloc (.cells #[.slice none 0 0, .slice none 0 0, .int .i64 0, .int .i64 0, .int .i64 0, .int .i64 1] 31)))) := mbel2 _ _ _
    by_cases h0 : R < 0
    · clear hR
      go_enter Tryz.func8, Tryz.ntmps8
      go_wp2_with fail
      refine bodyPost_ret (v := moV none 0 0 none 0 0 0 0 0 1) ?_ rfl ⟨SvEnd.no 1 0 HN.out rfl, D.out⟩
      simp only [results, Tryz.results8]
      simp [go_sem]
    · have h1 : (100 : Int) < R := by omega
      clear hR
      go_enter Tryz.func8, Tryz.ntmps8
      go_wp2_with fail
      refine bodyPost_ret (v := moV none 0 0 none 0 0 0 0 0 1) ?_ rfl ⟨SvEnd.no 1 0 HN.out rfl, D.out⟩
      simp only [results, Tryz.results8]
      simp [go_sem]
  case pos =>
  have HR := Lib.hid hR
  have hR0 : ¬ R < 0 := by omega
  have hR1 : ¬ (100 : Int) < R := by omega
  clear hR
  go_enter Tryz.func8, Tryz.ntmps8
  go_wp2_with fail
  rw [← HW0.out]
  refine (specStart_any m pa pk la lk wa wk _ S0.out.at_ HSM.out).mono ?_
  rintro e w1 ⟨hE, hb⟩
  have S1 := Lib.hid (S0.out.below hb)
  clear hb
  rcases hE with ⟨c, a, hst, hc0, rfl⟩ | ⟨gf, hst, rfl, hfl, hgf⟩
  · have HN : Hid (NoSv m R c a) := Or.inr ⟨HR.out, hst, hc0⟩
    have D0 := set6_done S1.out.res rfl S1.out.old (by omega) (.slice none 0 0) (.slice none 0 0) (.int .i64 0) (.int .i64 0) (.int .i64 a) (.int .i64 c)
    have D : Hid (World.rowIs ((set6 w1 (w.heap.size + 1) (.slice none 0 0) (.slice none 0 0) (.int .i64 0) (.int .i64 0) (.int .i64 a) (.int .i64 c)).alloc (.cells (moA none 0 0 none 0 0 0 0 a c) 31)) (w.heap.size + 1) 31 6 (rowN (moL none 0 0 none 0 0 0 0 a c)) ∧ Below w.heap.size w ((set6 w1 (w.heap.size + 1) (.slice none 0 0) (.slice none 0 0) (.int .i64 0) (.int .i64 0) (.int .i64 a) (.int .i64 c)).alloc (.cells (moA none 0 0 none 0 0 0 0 a c) 31))) := ⟨nrow_below D0.1 (nbel_alloc _ _), D0.2.1.trans ((nbel_alloc _ _).mono D0.2.1.size)⟩
    have hc1 : (c != 0) = true := by simp [hc0]
    clear D0 hst
    obtain ⟨⟨x0, x1, x2, x3, x4, x5⟩, z0, z1, z2, z3, z4, z5⟩ := rowN6 S1.out.res
    have lx := S1.out.res.lt
    go_wp2_with fail
    obtain ⟨⟨q0, q1, q2, q3, q4, q5⟩, _⟩ := rowN6 D.out.1
    unfold set6 at q0 q1 q2 q3 q4 q5
    refine bodyPost_ret (v := moV none 0 0 none 0 0 0 0 a c) ?_ rfl ⟨SvEnd.no c a HN.out rfl, ?_⟩
    · simp only [results, Tryz.results8]
      simp [go_sem, q0, q1, q2, q3, q4, q5]
    · have := D.out.2
      unfold set6 at this
      exact this
  have HST := Lib.hid hst
  have HRO := Lib.hid (hst.rightOk rfl)
  have HPN : Hid (m.pn ≤ 400 ∧ m.pn ≤ 1048576) := by have := HRO.out.1.pn; show _ ∧ _; omega
  obtain ⟨r, hr⟩ : ∃ r : Nat, R = r := ⟨R.toNat, by have := HR.out; omega⟩
  have HRT : Hid (r = R.toNat) := by show _ = _; omega
  have HFL := Lib.hid hfl
  obtain ⟨W3, hW3⟩ : ∃ W3, W3 = (w1.alloc (.cells (moA (some ⟨gf, 0, none⟩) m.pn m.pn none 0 0 0 0 0 0) 31)).alloc (.cells (moA (some ⟨gf, 0, none⟩) m.pn m.pn none 0 0 0 0 0 0) 31) := ⟨_, rfl⟩
  have hb3 : Below w1.heap.size w1 W3 := by rw [hW3]; exact (nbel_alloc _ _).trans ((nbel_alloc _ _).mono (by simp))
  have HGF : Hid (w.heap.size + 2 ≤ gf ∧ gf < w1.heap.size) := by have := HSZ.out; have := hfl.lt; exact ⟨by omega, by omega⟩
  have ST : Hid (SwQ m pa pk la lk wa wk (w1.heap.size + 1) (some ⟨gf, 0, none⟩) m.pn (.slice none 0 0) 0 0 (Mn.flows m) w W3) := ⟨nrow_below S1.out.row hb3, nrow_below S1.out.res hb3, by rw [hW3]; exact rowN_alloc' (by simp) _ _, Or.inr ⟨gf, rfl, HGF.out.1, hfl.below hb3⟩, fun k e => (by cases e; have := HGF.out; omega), S1.out.at_.below hb3, S1.out.old.trans (hb3.mono S1.out.old.size), HA.out⟩
  have HYY : Hid (w.heap.size + 2 ≤ w1.heap.size + 1) := by have := S1.out.res.lt; show _ ≤ _; omega
  have HW3 := Lib.hid hW3
  clear hst hfl hgf hb3 hW3 S1
  go_wp2_with fail
  rw [← HW3.out]
  clear HW3
  generalize w1.heap.size + 1 = Y at *
  go_loopw [] (fun wr => ∃ (d g cx : Nat) (F : Nat → Int), d ≤ r ∧ Hid (Mn.setl m r (Mn.flows m) 0 = Mn.setl m (r - d) F d ∧ Mn.AllOk m F ∧ SwQ m pa pk la lk wa wk Y (some ⟨g, 0, none⟩) cx (.slice none 0 0) 0 d F w wr)) (fun wr => leftR r Y wr)
  case atStart => exact ⟨0, gf, m.pn, Mn.flows m, Nat.zero_le _, rfl, HRO.out.2, ST.out⟩
  case round =>
    obtain ⟨d, g, cx, F, hd, HS⟩ := hrel
    clear ST
    by_cases hlt : d < r
    · have hltz : (d : Int) < (r : Int) := by omega
      have hd0 : (0 : Int) ≤ (d : Int) := by omega
      have S0' := Lib.hid HS.out.2.2
      obtain ⟨⟨m0, m1, m2, m3, m4⟩, _⟩ := rowN5 S0'.out.row
      obtain ⟨⟨o0, o1, o2, o3, o4, o5⟩, _⟩ := rowN6 S0'.out.ro
      go_wp2_with fail
      clear m0 m1 m2 m3 m4 o0 o1 o2 o3 o4 o5
      have HFC : Hid (∀ i, i < m.pn → wr.cell? ⟨g, i, none⟩ = some (.int .i64 (F i))) := by
        rcases S0'.out.fl with ⟨h0, _⟩ | ⟨g', e', _, hf⟩
        · cases h0
        · cases e'
          exact fun i hi => hf.cell hi
      refine (sround_any m pa pk la lk wa wk g m.pn cx F _ S0'.out.at_ HFC.out HSM.out HPN.out.2).mono ?_
      rintro e w5 ⟨hE, hb⟩
      rcases hE with ⟨h1, _⟩ | ⟨_, h1, _⟩ | ⟨a, c, _, _, _, _, rfl, how⟩
      · have := HPN.out.1; omega
      · exact absurd ⟨HRO.out.1, rfl, HS.out.2.1⟩ h1
      have HOK : Hid (Mn.AllOk m (Mn.round m F)) := Mn.roundTo_ok HRO.out.1 HS.out.2.1 _ (Nat.le_refl _)
      obtain ⟨W6, hW6⟩ : ∃ W6, W6 = w5.alloc (.cells (moA a m.pn c none 0 0 (Mn.rest m (Mn.round m F)) 0 0 0) 31) := ⟨_, rfl⟩
      have hb6 : Below wr.heap.size wr W6 := by rw [hW6]; exact hb.trans ((nbel_alloc _ _).mono hb.size)
      have S6 := Lib.hid (S0'.out.below hb6)
      have RV : Hid (W6.rowIs w5.heap.size 31 6 (rowN (moL a m.pn c none 0 0 (Mn.rest m (Mn.round m F)) 0 0 0))) := by show World.rowIs _ _ _ _ _; rw [hW6]; exact rowN_alloc w5 _ _
      have O6 : Hid (OwL 2 (w.heap.size + 2) m.pn a c (Mn.round m F) W6) := by
        show OwL _ _ _ _ _ _ _
        rw [hW6]
        exact (how.low (by have := S0'.out.res.lt; omega)).below (nbel_alloc _ _)
      have HAN : Hid (∀ k, a = some ⟨k, 0, none⟩ → k ≠ Y) := fun k e => by
        have h1 := (how.lt e).1
        have h2 := S0'.out.ro.lt
        omega
      have HV : Hid (w5.heap.size ≠ Y) := by have h1 := hb.size; have h2 := S0'.out.ro.lt; show _ ≠ _; omega
      have HW6 := Lib.hid hW6
      clear hb hb6 how hW6 S0'
      go_wp2_with fail
      rw [← HW6.out]
      clear HW6
      generalize w5.heap.size = V at *
      go_loopw [8, 9] (fun sv iv wx => ∃ i : Nat, i ≤ m.pn ∧ iv = .int .i64 i ∧ sv = .bool (Mn.sameB (Mn.round m F) F i) ∧ Hid (Below W6.heap.size W6 wx)) (fun _ iv _ => m.pn - (intOf iv).toNat)
      case atStart => exact ⟨0, Nat.zero_le _, rfl, rfl, Below.refl _ _⟩
      case round =>
        obtain ⟨i, hi, rfl, rfl, hB⟩ := hrel
        have S7 := Lib.hid (S6.out.below hB.out)
        have R7 := Lib.hid (nrow_below RV.out hB.out)
        have O7 := Lib.hid (O6.out.below hB.out)
        by_cases hlt2 : i < m.pn
        · have hltz2 : (i : Int) < (m.pn : Int) := by omega
          have hi0 : (0 : Int) ≤ (i : Int) := by omega
          obtain ⟨g2, rfl, _, hf2⟩ := O7.out.pos (by omega)
          obtain ⟨g3, e3, _, hf3⟩ := S7.out.fl.pos (by omega)
          cases e3
          have k1 := hf2.cell hlt2
          have k2 := hf3.cell hlt2
          obtain ⟨⟨o0, o1, o2, o3, o4, o5⟩, _⟩ := rowN6 S7.out.ro
          obtain ⟨⟨v0, v1, v2, v3, v4, v5⟩, _⟩ := rowN6 R7.out
          have HSB : Hid (Mn.sameB (Mn.round m F) F (i + 1) = (Mn.sameB (Mn.round m F) F i && decide (Mn.round m F i = F i))) := rfl
          clear hf2 hf3
          cases hsm : Mn.sameB (Mn.round m F) F i
          · go_wp2_with fail
            go_quiet (fail)
            go_wp2_with fail
            go_roundw
            case rel => exact ⟨i + 1, by omega, by go_num, by rw [HSB.out, hsm]; rfl, ndrewN hB.out _⟩
            case measure => simp [intOf]; omega
          · by_cases hq : Mn.round m F i = F i
            · have hq2 : (Mn.round m F i == F i) = true := by simp [hq]
              rw [hq] at k1
              go_wp2_with fail
              go_quiet (fail)
              go_wp2_with fail
              go_roundw
              case rel => exact ⟨i + 1, by omega, by go_num, by rw [HSB.out, hsm, decide_eq_true hq]; rfl, ndrewN hB.out _⟩
              case measure => simp [intOf]; omega
            · have hq2 : (Mn.round m F i == F i) = false := by simp [hq]
              go_wp2_with fail
              go_quiet (fail)
              go_wp2_with fail
              go_roundw
              case rel => exact ⟨i + 1, by omega, by go_num, by rw [HSB.out, hsm, decide_eq_false hq]; simp, ndrewN hB.out _⟩
              case measure => simp [intOf]; omega
        · obtain rfl : i = m.pn := by omega
          have NX := Lib.hid (S7.out.next HYY.out a c (Mn.round m F) O7.out HAN.out)
          obtain ⟨⟨o0, o1, o2, o3, o4, o5⟩, zo0, zo1, zo2, zo3, zo4, zo5⟩ := rowN6 S7.out.ro
          obtain ⟨⟨v0, v1, v2, v3, v4, v5⟩, _⟩ := rowN6 R7.out
          have lY := S7.out.ro.lt
          have nV := HV.out
          have nc : ((d + 1 : Nat) : Int) = (d : Int) + 1 := by omega
          obtain ⟨rr, hrr⟩ : ∃ rr, r - d = rr + 1 := ⟨r - d - 1, by omega⟩
          have HLW := Lib.hid (HS.out.2.2.left (r : Int))
          have nW : w.heap.size ≠ Y := by have := HYY.out; omega
          obtain ⟨W9, hW9⟩ : ∃ W9, W9 = (wr.setCell ⟨Y, 0, none⟩ (.slice a m.pn c)).setCell ⟨Y, 3, none⟩ (.int .i64 ((d : Int) + 1)) := ⟨_, rfl⟩
          rw [nc, ← hW9] at NX
          clear nc
          obtain ⟨⟨m0, m1, m2, m3, m4⟩, _⟩ := rowN5 S7.out.row
          have HW9 := Lib.hid hW9
          clear hW9
          cases hsm : Mn.sameB (Mn.round m F) F m.pn
          · have HE : Hid (Mn.setl m r (Mn.flows m) 0 = Mn.setl m (r - (d + 1)) (Mn.round m F) (d + 1)) := by
              show _ = _
              rw [HS.out.1, hrr]
              have : r - (d + 1) = rr := by omega
              rw [this]
              simp only [Mn.setl, hsm, Bool.false_eq_true, if_false]
            have HP0 : 0 < m.pn := by
              rcases Nat.eq_zero_or_pos m.pn with h0 | h0
              · rw [h0] at hsm; cases hsm
              · exact h0
            obtain ⟨g2, rfl, _, _⟩ := O7.out.pos HP0
            go_wp2_with fail
            rw [← HW9.out]
            go_roundw
            case rel => exact ⟨d + 1, g2, c, Mn.round m F, by omega, HE.out, HOK.out, NX.out⟩
            case measure => rw [NX.out.left (r : Int), HLW.out]; omega
          · have HFE : Hid (svF m R = Mn.round m F ∧ svD m R = d + 1) := by
              show _ ∧ _
              unfold svF svD
              rw [← HRT.out, HS.out.1, hrr]
              constructor <;> simp [Mn.setl, hsm]
            go_wp2_with fail
            rw [← HW9.out]
            have SX := NX
            obtain ⟨d1, hd1⟩ : ∃ d1, d1 = d + 1 := ⟨_, rfl⟩
            rw [← hd1] at SX HFE
            clear hd1
            clear NX m0 m1 m2 m3 m4 o0 o1 o2 o3 o4 o5 zo0 zo1 zo2 zo3 zo4 zo5 v0 v1 v2 v3 v4 v5 lY nV nW HW9 S7 R7 O7 S6 RV O6
            refine (srest_any m pa pk la lk wa wk a c (Mn.round m F) _ SX.out.at_ SX.out.fl.at_ HRO.out.1 HOK.out).mono ?_
            rintro e t1 ⟨rfl, hb⟩
            have ST1 := Lib.hid (SX.out.below hb)
            have HRE := Lib.hid (ST1.out.rest (Mn.rest m (Mn.round m F)) HYY.out)
            obtain ⟨⟨m0, m1, m2, m3, m4⟩, _⟩ := rowN5 ST1.out.row
            obtain ⟨⟨o0, o1, o2, o3, o4, o5⟩, zo0, zo1, zo2, zo3, zo4, zo5⟩ := rowN6 ST1.out.ro
            obtain ⟨T2, hT2⟩ : ∃ T2, T2 = t1.setCell ⟨Y, 2, none⟩ (.int .i64 (Mn.rest m (Mn.round m F))) := ⟨_, rfl⟩
            rw [← hT2] at HRE
            have nY : w.heap.size ≠ Y := by have := HYY.out; omega
            have lY := ST1.out.ro.lt
            have HT2 := Lib.hid hT2
            clear hb SX hT2
            go_wp2_with fail
            rw [← HT2.out]
            clear m0 m1 m2 m3 m4 o0 o1 o2 o3 o4 o5 zo0 zo1 zo2 zo3 zo4 zo5 nY lY HT2 ST1
            refine (sheads_any m pa pk la lk wa wk a c (Mn.round m F) _ HRE.out.at_ HRE.out.fl.at_ HRO.out.1 HOK.out).mono ?_
            rintro e t3 ⟨⟨gh, rfl, hhd, hgh⟩, hb⟩
            have ST3 := Lib.hid (HRE.out.below hb)
            have HGH : Hid (Y < gh ∧ w.heap.size + 2 ≤ gh ∧ ∀ k, a = some ⟨k, 0, none⟩ → k ≠ gh) := by
              have h1 := HRE.out.ro.lt
              have h2 := HYY.out
              refine ⟨by omega, by omega, fun k e => ?_⟩
              have := (HRE.out.fl.lt e).2
              omega
            have HH3 := Lib.hid hhd
            obtain ⟨⟨o0, o1, o2, o3, o4, o5⟩, zo0, zo1, zo2, zo3, zo4, zo5⟩ := rowN6 ST3.out.ro
            obtain ⟨⟨x0, x1, x2, x3, x4, x5⟩, z0, z1, z2, z3, z4, z5⟩ := rowN6 ST3.out.res
            have lx := ST3.out.res.lt
            have lY := ST3.out.ro.lt
            have nR : w.heap.size + 1 ≠ Y := by have := HYY.out; omega
            obtain ⟨T4, hT4⟩ : ∃ T4, T4 = t3.setCell ⟨Y, 1, none⟩ (.slice (some ⟨gh, 0, none⟩) (Mn.nn m) (Mn.nn m)) := ⟨_, rfl⟩
            have q4 : Hid (SwQ m pa pk la lk wa wk Y a c (.slice (some ⟨gh, 0, none⟩) (Mn.nn m) (Mn.nn m)) (Mn.rest m (Mn.round m F)) d1 (Mn.round m F) w T4 ∧ IsBlk 2 gh (Mn.nn m) (Mn.heads m (Mn.round m F)) T4) := by
              show _ ∧ _
              rw [hT4]
              exact ⟨ST3.out.heads _ HYY.out, HH3.out.block (Below.heap_setCell _ _ _ gh (show gh ≠ Y by have := HGH.out; omega))⟩
            have D := Lib.hid (set6_done q4.out.1.res rfl q4.out.1.old (by omega) (.slice a m.pn c) (.slice (some ⟨gh, 0, none⟩) (Mn.nn m) (Mn.nn m)) (.int .i64 (Mn.rest m (Mn.round m F))) (.int .i64 ((d1 : Nat) : Int)) (.int .i64 0) (.int .i64 0))
            have HT4 := Lib.hid hT4
            clear hb hhd hgh hT4
            go_wp2_with fail
            obtain ⟨⟨q0, q1, q2, q3, q4', q5⟩, _⟩ := rowN6 D.out.1
            rw [HT4.out] at q0 q1 q2 q3 q4' q5
            unfold set6 at q0 q1 q2 q3 q4' q5
            refine bodyPost_ret (v := moV a m.pn c (some ⟨gh, 0, none⟩) (Mn.nn m) (Mn.nn m) (Mn.rest m (Mn.round m F)) ((d1 : Nat) : Int) 0 0) ?_ rfl ⟨SvEnd.ok a c _ _ HR.out HST.out (by rw [HFE.out.1, HFE.out.2]) ?_, ?_⟩
            · simp only [results, Tryz.results8]
              simp [go_sem, q0, q1, q2, q3, q4', q5]
            · rw [HFE.out.1]
              have h9 : Ow2 w.heap.size m.pn c (Mn.nn m) (Mn.nn m) a (some ⟨gh, 0, none⟩) (Mn.round m F) (Mn.heads m (Mn.round m F)) (set6 T4 (w.heap.size + 1) (.slice a m.pn c) (.slice (some ⟨gh, 0, none⟩) (Mn.nn m) (Mn.nn m)) (.int .i64 (Mn.rest m (Mn.round m F))) (.int .i64 ((d1 : Nat) : Int)) (.int .i64 0) (.int .i64 0)) := ⟨(q4.out.1.fl.keep (fun k e hk => D.out.2.2 k (by have := (q4.out.1.fl.lt e).1; omega))).low (by omega), Or.inr ⟨gh, rfl, by have := HGH.out; omega, q4.out.2.block (D.out.2.2 _ (by have := HGH.out; omega))⟩, fun k e e' => HGH.out.2.2 k e (by cases e'; rfl)⟩
              rw [HT4.out] at h9
              unfold set6 at h9
              exact h9
            · have h9 := D.out.2.1
              rw [HT4.out] at h9
              unfold set6 at h9
              exact h9
    · obtain rfl : r = d := by omega
      have HFE : Hid (svF m R = F ∧ svD m R = r) := by show _ ∧ _; unfold svF svD; rw [← HRT.out, HS.out.1, Nat.sub_self]; exact ⟨rfl, rfl⟩
      have SX := Lib.hid HS.out.2.2
      have HOK := Lib.hid HS.out.2.1
      have hltz : ¬ (r : Int) < (r : Int) := by omega
      obtain ⟨x, hx⟩ : ∃ x : Option Addr, x = some ⟨g, 0, none⟩ := ⟨_, rfl⟩
      rw [← hx] at SX
      clear hx HS
      obtain ⟨⟨m0, m1, m2, m3, m4⟩, _⟩ := rowN5 SX.out.row
      obtain ⟨⟨o0, o1, o2, o3, o4, o5⟩, zo0, zo1, zo2, zo3, zo4, zo5⟩ := rowN6 SX.out.ro
      go_wp2_with fail
      clear m0 m1 m2 m3 m4 o0 o1 o2 o3 o4 o5 zo0 zo1 zo2 zo3 zo4 zo5
      refine (srest_any m pa pk la lk wa wk x cx F _ SX.out.at_ SX.out.fl.at_ HRO.out.1 HOK.out).mono ?_
      rintro e t1 ⟨rfl, hb⟩
      have ST1 := Lib.hid (SX.out.below hb)
      have HRE := Lib.hid (ST1.out.rest (Mn.rest m F) HYY.out)
      obtain ⟨⟨m0, m1, m2, m3, m4⟩, _⟩ := rowN5 ST1.out.row
      obtain ⟨⟨o0, o1, o2, o3, o4, o5⟩, zo0, zo1, zo2, zo3, zo4, zo5⟩ := rowN6 ST1.out.ro
      obtain ⟨T2, hT2⟩ : ∃ T2, T2 = t1.setCell ⟨Y, 2, none⟩ (.int .i64 (Mn.rest m F)) := ⟨_, rfl⟩
      rw [← hT2] at HRE
      have nY : w.heap.size ≠ Y := by have := HYY.out; omega
      have lY := ST1.out.ro.lt
      have HT2 := Lib.hid hT2
      clear hb SX hT2
      go_wp2_with fail
      rw [← HT2.out]
      clear m0 m1 m2 m3 m4 o0 o1 o2 o3 o4 o5 zo0 zo1 zo2 zo3 zo4 zo5 nY lY HT2 ST1
      refine (sheads_any m pa pk la lk wa wk x cx F _ HRE.out.at_ HRE.out.fl.at_ HRO.out.1 HOK.out).mono ?_
      rintro e t3 ⟨⟨gh, rfl, hhd, hgh⟩, hb⟩
      have ST3 := Lib.hid (HRE.out.below hb)
      have HGH : Hid (Y < gh ∧ w.heap.size + 2 ≤ gh ∧ ∀ k, x = some ⟨k, 0, none⟩ → k ≠ gh) := by
        have h1 := HRE.out.ro.lt
        have h2 := HYY.out
        refine ⟨by omega, by omega, fun k e => ?_⟩
        have := (HRE.out.fl.lt e).2
        omega
      have HH3 := Lib.hid hhd
      obtain ⟨⟨o0, o1, o2, o3, o4, o5⟩, zo0, zo1, zo2, zo3, zo4, zo5⟩ := rowN6 ST3.out.ro
      obtain ⟨⟨x0, x1, x2, x3, x4, x5⟩, z0, z1, z2, z3, z4, z5⟩ := rowN6 ST3.out.res
      have lx := ST3.out.res.lt
      have lY := ST3.out.ro.lt
      have nR : w.heap.size + 1 ≠ Y := by have := HYY.out; omega
      obtain ⟨T4, hT4⟩ : ∃ T4, T4 = t3.setCell ⟨Y, 1, none⟩ (.slice (some ⟨gh, 0, none⟩) (Mn.nn m) (Mn.nn m)) := ⟨_, rfl⟩
      have q4 : Hid (SwQ m pa pk la lk wa wk Y x cx (.slice (some ⟨gh, 0, none⟩) (Mn.nn m) (Mn.nn m)) (Mn.rest m F) r F w T4 ∧ IsBlk 2 gh (Mn.nn m) (Mn.heads m F) T4) := by
        show _ ∧ _
        rw [hT4]
        exact ⟨ST3.out.heads _ HYY.out, HH3.out.block (Below.heap_setCell _ _ _ gh (show gh ≠ Y by have := HGH.out; omega))⟩
      have D := Lib.hid (set6_done q4.out.1.res rfl q4.out.1.old (by omega) (.slice x m.pn cx) (.slice (some ⟨gh, 0, none⟩) (Mn.nn m) (Mn.nn m)) (.int .i64 (Mn.rest m F)) (.int .i64 ((r : Nat) : Int)) (.int .i64 0) (.int .i64 0))
      have HT4 := Lib.hid hT4
      clear hb hhd hgh hT4
      go_wp2_with fail
      obtain ⟨⟨q0, q1, q2, q3, q4', q5⟩, _⟩ := rowN6 D.out.1
      rw [HT4.out] at q0 q1 q2 q3 q4' q5
      unfold set6 at q0 q1 q2 q3 q4' q5
      refine bodyPost_ret (v := moV x m.pn cx (some ⟨gh, 0, none⟩) (Mn.nn m) (Mn.nn m) (Mn.rest m F) ((r : Nat) : Int) 0 0) ?_ rfl ⟨SvEnd.ok x cx _ _ HR.out HST.out (by rw [HFE.out.1, HFE.out.2]) ?_, ?_⟩
      · simp only [results, Tryz.results8]
        simp [go_sem, q0, q1, q2, q3, q4', q5]
      · rw [HFE.out.1]
        have h9 : Ow2 w.heap.size m.pn cx (Mn.nn m) (Mn.nn m) x (some ⟨gh, 0, none⟩) F (Mn.heads m F) (set6 T4 (w.heap.size + 1) (.slice x m.pn cx) (.slice (some ⟨gh, 0, none⟩) (Mn.nn m) (Mn.nn m)) (.int .i64 (Mn.rest m F)) (.int .i64 ((r : Nat) : Int)) (.int .i64 0) (.int .i64 0)) := ⟨(q4.out.1.fl.keep (fun k e hk => D.out.2.2 k (by have := (q4.out.1.fl.lt e).1; omega))).low (by omega), Or.inr ⟨gh, rfl, by have := HGH.out; omega, q4.out.2.block (D.out.2.2 _ (by have := HGH.out; omega))⟩, fun k e e' => HGH.out.2.2 k e (by cases e'; rfl)⟩
        rw [HT4.out] at h9
        unfold set6 at h9
        exact h9
      · have h9 := D.out.2.1
        rw [HT4.out] at h9
        unfold set6 at h9
        exact h9
end Go.Proofs.YtfgmalnkpgloiaaGreatDoor
namespace Go.Proofs.YtfgmalnkpgloiaaGreatDoor
open Go.RowKit Go.Deep
def AnsV (fn : Nat) (m : Mn.Mains) (R : Int) (d : MoD) : Prop := ∀ (pa : Option Addr) (pk : Nat) (la : Option Addr) (lk : Nat) (wa : Option Addr) (wk : Nat) (w : World), MnAt m pa la wa w → Et w → Calls Tryz.prog fn #[mnV m pa pk la lk wa wk, .int .i64 R] w fun e w' => MoAns d w.heap.size e w' ∧ Below w.heap.size w w'
def noV (a c : Int) : MoD := ⟨0, fun _ => 0, 0, fun _ => 0, 0, 0, a, c⟩
theorem noV_ans (a c : Int) (B : Nat) (W : World) : MoAns (noV a c) B (.returned (moV none 0 0 none 0 0 0 0 a c)) W := ⟨none, 0, none, 0, rfl, Or.inl ⟨rfl, rfl, rfl⟩, Or.inl ⟨rfl, rfl, rfl⟩, fun k e => by cases e⟩
theorem noSv_one {m : Mn.Mains} {R c a c' a' : Int} (h : NoSv m R c a) (h' : NoSv m R c' a') : c = c' ∧ a = a' := by
  rcases h with ⟨h1, rfl, rfl⟩ | ⟨h1, h2, h3⟩ <;> rcases h' with ⟨k1, rfl, rfl⟩ | ⟨k1, k2, k3⟩
  · exact ⟨rfl, rfl⟩
  · exact absurd k1 h1
  · exact absurd h1 k1
  · exact h2.one k2
theorem noSv_not {m : Mn.Mains} {R c a : Int} (h : NoSv m R c a) (hR : 0 ≤ R ∧ R ≤ 100) (hs : Mn.Start m 0 0) : False := by
  rcases h with ⟨h1, _⟩ | ⟨_, h2, h3⟩
  · exact h1 hR
  · exact h3 (h2.one hs).1
theorem sv_ans (m : Mn.Mains) (R : Int) : ∃ d : MoD, (d.fn ≤ 1048576 ∧ d.hn ≤ 1048576) ∧ ∀ B e W, SvEnd m R B e W → MoAns d B e W := by
  by_cases hR : 0 ≤ R ∧ R ≤ 100
  · obtain ⟨c, a, hst⟩ := start_total m
    by_cases hc : c = 0
    · subst hc
      have ha : Mn.Start m 0 0 := by
        cases hst with
        | ok h1 h2 h3 => exact .ok h1 h2 h3
      have hr := ha.rightOk rfl
      refine ⟨⟨m.pn, svF m R, Mn.nn m, Mn.heads m (svF m R), Mn.rest m (svF m R), (svD m R : Nat), 0, 0⟩, ⟨?_, ?_⟩, fun B e W h => ?_⟩
      · have := hr.1.pn
        show m.pn ≤ _
        omega
      · have := hr.1.nn
        show Mn.nn m ≤ _
        have := hr.1.n2
        omega
      · rcases h with ⟨c, a, hn, _⟩ | ⟨x, cx, p, cp, _, _, he, ho⟩
        · exact (noSv_not hn hR ha).elim
        · exact ⟨x, cx, p, cp, he, ho⟩
    · have hn : NoSv m R c a := Or.inr ⟨hR, hst, hc⟩
      refine ⟨noV a c, ⟨Nat.zero_le _, Nat.zero_le _⟩, fun B e W h => ?_⟩
      rcases h with ⟨c', a', hn', rfl⟩ | ⟨x, cx, p, cp, _, hs', _, _⟩
      · obtain ⟨rfl, rfl⟩ := noSv_one hn hn'
        exact noV_ans _ _ B W
      · exact (noSv_not hn hR hs').elim
  · have hn : NoSv m R 1 0 := Or.inl ⟨hR, rfl, rfl⟩
    refine ⟨noV 0 1, ⟨Nat.zero_le _, Nat.zero_le _⟩, fun B e W h => ?_⟩
    rcases h with ⟨c', a', hn', rfl⟩ | ⟨x, cx, p, cp, hR', _, _, _⟩
    · obtain ⟨rfl, rfl⟩ := noSv_one hn hn'
      exact noV_ans _ _ B W
    · exact absurd hR' hR
theorem mainsSolve_both (m : Mn.Mains) (hs : MnSmall m) (R : Int) : ∃ d : MoD, d.fn ≤ 1048576 ∧ d.hn ≤ 1048576 ∧ AnsV 8 m R d ∧ AnsV 9 m R d := by
  obtain ⟨d, ⟨h1, h2⟩, h3⟩ := sv_ans m R
  refine ⟨d, h1, h2, ?_, ?_⟩
  · intro pa pk la lk wa wk w ha _
    exact (specSolve_any m pa pk la lk wa wk R w ha hs).mono (fun e w' ⟨q, hb⟩ => ⟨h3 _ _ _ q, hb⟩)
  · intro pa pk la lk wa wk w ha hg
    exact (implSolve_any m pa pk la lk wa wk R w ha hg).mono (fun e w' ⟨q, hb⟩ => ⟨h3 _ _ _ q, hb⟩)
end Go.Proofs.YtfgmalnkpgloiaaGreatDoor
namespace Go.Proofs.YtfgmalnkpgloiaaGreatDoor
open Go.RowKit Go.Deep
namespace Mn

/-- What a pipe brings a node: its flow, the flow taken away, or nothing. -/
def co (m : Mains) (k : Int) (i : Nat) (x : Int) : Int := if tt m i = k then x else if fr m i = k then -x else 0
/-- What the first pipes bring a node. -/
def bal (m : Mains) (f : Nat → Int) (k : Int) : Nat → Int
  | 0 => 0
  | i + 1 => bal m f k i + co m k i (f i)
theorem co_add (m : Mains) (k : Int) (i : Nat) (x y : Int) : co m k i (x + y) = co m k i x + co m k i y := by
  unfold co
  split
  · rfl
  · split
    · omega
    · rfl
theorem bal_upd (m : Mains) (f : Nat → Int) (k : Int) (p : Nat) (y : Int) : ∀ n, bal m (updI f p (f p + y)) k n = bal m f k n + (if p < n then co m k p y else 0)
  | 0 => by simp [bal]
  | n + 1 => by
    rw [bal, bal, bal_upd m f k p y n]
    by_cases e : n = p
    · subst e
      have e1 : updI f n (f n + y) n = f n + y := by simp [updI]
      rw [e1, co_add, if_neg (by omega), if_pos (by omega)]
      omega
    · have e1 : updI f p (f p + y) n = f n := by simp [updI, e]
      rw [e1]
      by_cases h : p < n
      · rw [if_pos h, if_pos (by omega)]; omega
      · rw [if_neg h, if_neg (by omega)]; omega
theorem bal_congr (m : Mains) {f g : Nat → Int} (k : Int) : ∀ n, (∀ i, i < n → f i = g i) → bal m f k n = bal m g k n
  | 0, _ => rfl
  | n + 1, h => by rw [bal, bal, bal_congr m k n (fun i hi => h i (by omega)), h n (by omega)]
/-- What the first numbers of a loop bring a node, for a change of 1. -/
def at1 (k z : Int) : Int := if z = k then 1 else 0
theorem co_sg {m : Mains} {z : Int} (hp : PipeOk m (place z)) (k c : Int) : co m k (place z) (sg z c) = (at1 k (ends m z) - at1 k (begins m z)) * c := by
  have hne : fr m (place z) ≠ tt m (place z) := hp.ne
  unfold co sg at1 ends begins
  by_cases hz : z < 0
  · simp only [hz, if_true]
    by_cases h1 : tt m (place z) = k
    · have h2 : fr m (place z) ≠ k := fun e => hne (e.trans h1.symm)
      simp [h1, h2]
    · by_cases h2 : fr m (place z) = k
      · simp [h1, h2]
      · simp [h1, h2]
  · simp only [hz, if_false]
    by_cases h1 : tt m (place z) = k
    · have h2 : fr m (place z) ≠ k := fun e => hne (e.trans h1.symm)
      simp [h1, h2]
    · by_cases h2 : fr m (place z) = k
      · simp [h1, h2]
      · simp [h1, h2]
theorem ap_bal {m : Mains} (hr : Right m) {L : Nat → Int} {c : Int} {f : Nat → Int} (k : Int) : ∀ n, (∀ j, j < n → NumOk m (L j)) → (∀ j, j + 1 < n → begins m (L (j + 1)) = ends m (L j)) →
    bal m (apTo L c f n) k m.pn = bal m f k m.pn + (if n = 0 then 0 else (at1 k (ends m (L (n - 1))) - at1 k (begins m (L 0))) * c)
  | 0, _, _ => by simp [apTo]
  | n + 1, h, hn => by
    rw [apTo, bal_upd, ap_bal hr k n (fun j hj => h j (by omega)) (fun j hj => hn j (by omega)), if_pos (h n (by omega)).lt, co_sg (hr.p _ (h n (by omega)).lt)]
    by_cases e : n = 0
    · subst e; simp
    · rw [if_neg e, if_neg (by omega)]
      have e1 : begins m (L n) = ends m (L (n - 1)) := by
        have := hn (n - 1) (by omega)
        rwa [show n - 1 + 1 = n by omega] at this
      rw [e1, show n + 1 - 1 = n by omega]
      simp only [Int.sub_mul]
      omega
theorem loop_bal {m : Mains} (hr : Right m) {f L : Nat → Int} {n : Nat} (hl : LoopOk m n L) (k : Int) : bal m (loopR m f L n) k m.pn = bal m f k m.pn := by
  unfold loopR
  rw [ap_bal hr k n hl.num (fun j hj => by
    have := hl.ring (j + 1) hj
    simpa [prev] using this)]
  have e : begins m (L 0) = ends m (L (n - 1)) := by
    have := hl.ring 0 hl.n1
    simpa [prev] using this
  have := hl.n1
  rw [if_neg (by omega), e]
  simp
theorem roundTo_bal {m : Mains} (hr : Right m) (f : Nat → Int) (k : Int) : ∀ i, i ≤ m.ln → bal m (roundTo m f i) k m.pn = bal m f k m.pn
  | 0, _ => rfl
  | i + 1, h => by rw [roundTo, loop_bal hr (hr.l i (by omega)), roundTo_bal hr f k i (by omega)]
/-- A round keeps what comes to each node. -/
theorem round_bal {m : Mains} (hr : Right m) (f : Nat → Int) (k : Int) : bal m (round m f) k m.pn = bal m f k m.pn := roundTo_bal hr f k _ (Nat.le_refl _)
theorem setl_bal {m : Mains} (hr : Right m) (k : Int) : ∀ (r : Nat) (f : Nat → Int) (d : Nat), bal m (setl m r f d).1 k m.pn = bal m f k m.pn
  | 0, _, _ => rfl
  | r + 1, f, d => by
    unfold setl
    split
    · exact round_bal hr f k
    · rw [setl_bal hr k r, round_bal hr]

/-- Rounds one by one. -/
def rnds (m : Mains) : Nat → (Nat → Int) → Nat → Int
  | 0, f => f
  | k + 1, f => rnds m k (round m f)
theorem rnds_succ (m : Mains) : ∀ (k : Nat) (f : Nat → Int), rnds m (k + 1) f = round m (rnds m k f)
  | 0, _ => rfl
  | k + 1, f => by rw [rnds, rnds_succ m k, ← rnds]
theorem setl_ge {m : Mains} : ∀ (r : Nat) (f : Nat → Int) (d : Nat), d ≤ (setl m r f d).2
  | 0, _, _ => Nat.le_refl _
  | r + 1, f, d => by
    unfold setl
    split
    · show d ≤ d + 1; omega
    · have := setl_ge (m := m) r (round m f) (d + 1); omega
/-- So many rounds as were done, one by one, lead to where all at once do. -/
theorem setl_rnds {m : Mains} : ∀ (r : Nat) (f : Nat → Int) (d : Nat), (setl m r f d).1 = rnds m ((setl m r f d).2 - d) f
  | 0, f, d => by simp [setl, rnds]
  | r + 1, f, d => by
    unfold setl
    split
    · simp [rnds]
    · rw [setl_rnds r]
      have := setl_ge (m := m) r (round m f) (d + 1)
      rw [show (setl m r (round m f) (d + 1)).2 - d = ((setl m r (round m f) (d + 1)).2 - (d + 1)) + 1 by omega, rnds]
theorem sameB_yes {f g : Nat → Int} : ∀ n, sameB f g n = true ↔ ∀ i, i < n → f i = g i
  | 0 => by simp [sameB]
  | n + 1 => by
    rw [sameB, Bool.and_eq_true, sameB_yes n, decide_eq_true_eq]
    constructor
    · intro h i hi
      by_cases e : i = n
      · rw [e]; exact h.2
      · exact h.1 i (by omega)
    · intro h
      exact ⟨fun i hi => h i (by omega), h n (by omega)⟩
theorem sum_congr {m : Mains} {f g L : Nat → Int} (hfg : ∀ i, i < m.pn → f i = g i) : ∀ n, (∀ j, j < n → NumOk m (L j)) → sumTo m f L n = sumTo m g L n ∧ wtTo m f L n = wtTo m g L n ∧ ∀ c, chTo m f L c n = chTo m g L c n
  | 0, _ => ⟨rfl, rfl, fun _ => rfl⟩
  | n + 1, h => by
    obtain ⟨h1, h2, h3⟩ := sum_congr hfg n (fun j hj => h j (by omega))
    have e := hfg _ (h n (by omega)).lt
    refine ⟨by rw [sumTo, sumTo, h1, e], by rw [wtTo, wtTo, h2, e], fun c => ?_⟩
    rw [chTo, chTo, h3 c]
    unfold loK hiK
    rw [e]
theorem ap_congr {m : Mains} {f g L : Nat → Int} {c : Int} (hfg : ∀ i, i < m.pn → f i = g i) : ∀ n, (∀ j, j < n → NumOk m (L j)) → ∀ i, i < m.pn → apTo L c f n i = apTo L c g n i
  | 0, _ => hfg
  | n + 1, h => by
    intro i hi
    have ih := ap_congr (c := c) hfg n (fun j hj => h j (by omega))
    rw [apTo, apTo]
    unfold updI
    split
    · rw [ih _ (h n (by omega)).lt]
    · exact ih i hi
theorem roundTo_congr {m : Mains} (hr : Right m) {f g : Nat → Int} (hfg : ∀ i, i < m.pn → f i = g i) : ∀ t, t ≤ m.ln → ∀ i, i < m.pn → roundTo m f t i = roundTo m g t i
  | 0, _ => hfg
  | t + 1, h => by
    intro i hi
    have ih := roundTo_congr hr hfg t (by omega)
    have hl := hr.l t (by omega)
    obtain ⟨h1, h2, h3⟩ := sum_congr ih (m.LN t) hl.num
    rw [roundTo, roundTo]
    unfold loopR
    have e : chg m (roundTo m f t) (m.L t) (m.LN t) = chg m (roundTo m g t) (m.L t) (m.LN t) := by unfold chg; rw [h1, h2, h3]
    rw [e]
    exact ap_congr ih _ hl.num i hi
/-- Where fewer rounds were done than asked for, another one changes nothing. -/
theorem setl_same {m : Mains} (hr : Right m) : ∀ (r : Nat) (f : Nat → Int) (d : Nat), (setl m r f d).2 < d + r → ∀ i, i < m.pn → round m (setl m r f d).1 i = (setl m r f d).1 i
  | 0, _, _, h => by simp [setl] at h
  | r + 1, f, d, h => by
    unfold setl at h ⊢
    split
    · rename_i hs
      have hs' := (sameB_yes _).1 hs
      exact roundTo_congr hr hs' _ (Nat.le_refl _)
    · rename_i hs
      rw [if_neg hs] at h
      exact setl_same hr r _ _ (by omega)

/-- The node that a pipe of the tree leads to. -/
def kid (m : Mains) (e : Nat × Bool) : Nat := if e.2 then tN m e.1 else fN m e.1
/-- A list of pipes as a tree grows: none leads to a node that one ahead of it touches. -/
def Tree (m : Mains) : List (Nat × Bool) → Prop
  | [] => True
  | e :: l => (e.1 < m.pn ∧ ∀ e', e' ∈ l → kid m e' ≠ fN m e.1 ∧ kid m e' ≠ tN m e.1) ∧ Tree m l
theorem Tree.snoc {m : Mains} {e : Nat × Bool} (he : e.1 < m.pn) : ∀ l, Tree m l → (∀ e', e' ∈ l → kid m e ≠ fN m e'.1 ∧ kid m e ≠ tN m e'.1) → Tree m (l ++ [e])
  | [], _, _ => ⟨⟨he, fun _ h => by cases h⟩, trivial⟩
  | a :: l, h, hk => by
    refine ⟨⟨h.1.1, fun e' he' => ?_⟩, Tree.snoc he l h.2 (fun e' he' => hk e' (List.mem_cons_of_mem _ he'))⟩
    rcases List.mem_append.1 he' with h' | h'
    · exact h.1.2 e' h'
    · rw [List.mem_singleton] at h'
      rw [h']
      exact hk a (List.mem_cons_self ..)
structure Back (m : Mains) (l : List (Nat × Bool)) (q : (Nat → Int) × (Nat → Int)) : Prop where
  kid : ∀ e, e ∈ l → bal m q.2 (kid m e) m.pn = m.W (kid m e)
  other : ∀ k : Nat, (∀ e, e ∈ l → Mn.kid m e ≠ k) → q.1 k + bal m q.2 k m.pn = m.W k
  none_ : ∀ i, (∀ e, e ∈ l → e.1 ≠ i) → q.2 i = 0
theorem bal_zero (m : Mains) (k : Int) : ∀ n, bal m (fun _ => 0) k n = 0
  | 0 => rfl
  | n + 1 => by rw [bal, bal_zero m k n]; unfold co; simp
theorem back_bal {m : Mains} (hr : Right m) : ∀ l, Tree m l → Back m l (back m l)
  | [], _ => ⟨fun _ h => (by cases h), fun k _ => (by show m.W k + bal m (fun _ => 0) k m.pn = _; rw [bal_zero]; omega), fun _ _ => rfl⟩
  | e :: l, h => by
    have ih := back_bal hr l h.2
    have hq : back m (e :: l) = backStep m e (back m l) := rfl
    rw [hq]
    generalize back m l = q at ih
    obtain ⟨⟨he, hk⟩, hT⟩ := h
    have hne := hr.ftne he
    have ht : tt m e.1 = (tN m e.1 : Nat) := (hr.tN he).1
    have hf : fr m e.1 = (fN m e.1 : Nat) := (hr.fN he).1
    have hz : q.2 e.1 = 0 := ih.none_ _ (fun e' he' hee => by
      have := hk e' he'
      rw [← hee] at this
      unfold Mn.kid at this
      split at this
      · exact this.2 rfl
      · exact this.1 rfl)
    have o1 := ih.other (fN m e.1) (fun e' he' => (hk e' he').1)
    have o2 := ih.other (tN m e.1) (fun e' he' => (hk e' he').2)
    -- what the flow of this pipe changes
    have hb : ∀ (x : Int) (k : Nat), bal m (updI q.2 e.1 x) k m.pn = bal m q.2 k m.pn + (if tN m e.1 = k then x else if fN m e.1 = k then -x else 0) := by
      intro x k
      have := bal_upd m q.2 k e.1 x m.pn
      rw [hz, Int.zero_add, if_pos he] at this
      rw [this]
      unfold co
      rw [ht, hf]
      simp only [Int.ofNat_inj]
    rcases e with ⟨i, b⟩
    cases b with
    | true =>
      have hs : backStep m (i, true) q = (updI q.1 (fN m i) (q.1 (fN m i) + q.1 (tN m i)), updI q.2 i (q.1 (tN m i))) := rfl
      rw [hs]
      have hkd : Mn.kid m (i, true) = tN m i := rfl
      refine ⟨fun e' he' => ?_, fun k hk' => ?_, fun j hj => ?_⟩
      · rcases List.mem_cons.1 he' with rfl | he'
        · rw [hkd, hb, if_pos rfl]
          simp only at o2 ⊢
          omega
        · have a1 := hk e' he'
          rw [hb, if_neg (fun e => a1.2 e.symm), if_neg (fun e => a1.1 e.symm), ih.kid e' he']
          omega
      · have a1 := hk' (i, true) (List.mem_cons_self ..)
        rw [hkd] at a1
        show updI q.1 (fN m i) (q.1 (fN m i) + q.1 (tN m i)) k + _ = _
        rw [hb, if_neg a1]
        unfold updI
        by_cases e2 : k = fN m i
        · subst e2
          rw [if_pos rfl, if_pos rfl]
          simp only at o1 ⊢
          omega
        · rw [if_neg e2, if_neg (fun e => e2 e.symm)]
          have := ih.other k (fun e' he' => hk' e' (List.mem_cons_of_mem _ he'))
          omega
      · show updI q.2 i _ j = 0
        have a1 := hj (i, true) (List.mem_cons_self ..)
        unfold updI
        rw [if_neg (fun e => a1 e.symm)]
        exact ih.none_ j (fun e' he' => hj e' (List.mem_cons_of_mem _ he'))
    | false =>
      have hs : backStep m (i, false) q = (updI q.1 (tN m i) (q.1 (tN m i) + q.1 (fN m i)), updI q.2 i (-(q.1 (fN m i)))) := rfl
      rw [hs]
      have hkd : Mn.kid m (i, false) = fN m i := rfl
      refine ⟨fun e' he' => ?_, fun k hk' => ?_, fun j hj => ?_⟩
      · rcases List.mem_cons.1 he' with rfl | he'
        · rw [hkd, hb, if_neg (fun e => hne e.symm), if_pos rfl]
          simp only at o1 ⊢
          omega
        · have a1 := hk e' he'
          rw [hb, if_neg (fun e => a1.2 e.symm), if_neg (fun e => a1.1 e.symm), ih.kid e' he']
          omega
      · have a1 := hk' (i, false) (List.mem_cons_self ..)
        rw [hkd] at a1
        show updI q.1 (tN m i) (q.1 (tN m i) + q.1 (fN m i)) k + _ = _
        rw [hb]
        unfold updI
        by_cases e2 : k = tN m i
        · subst e2
          rw [if_pos rfl, if_pos rfl]
          simp only at o2 ⊢
          omega
        · rw [if_neg e2, if_neg (fun e => e2 e.symm), if_neg a1]
          have := ih.other k (fun e' he' => hk' e' (List.mem_cons_of_mem _ he'))
          omega
      · show updI q.2 i _ j = 0
        have a1 := hj (i, false) (List.mem_cons_self ..)
        unfold updI
        rw [if_neg (fun e => a1 e.symm)]
        exact ih.none_ j (fun e' he' => hj e' (List.mem_cons_of_mem _ he'))
structure Grown (m : Mains) (st : St) : Prop where
  tree : Tree m st.2
  seen : ∀ e, e ∈ st.2 → st.1 (fN m e.1) = true ∧ st.1 (tN m e.1) = true
  kids : ∀ k, st.1 k = true → k = 0 ∨ ∃ e, e ∈ st.2 ∧ kid m e = k
theorem updB_true {s : Nat → Bool} {a j : Nat} : updB s a true j = true ↔ j = a ∨ s j = true := by
  unfold updB
  by_cases e : j = a <;> simp [e]
theorem iter_grown (m : Mains) : ∀ t, Grown m (iter m t)
  | 0 => ⟨trivial, fun _ h => (by cases h), fun k h => Or.inl (by simpa [iter] using h)⟩
  | t + 1 => by
    have ih := iter_grown m t
    show Grown m (stepT m (iter m t))
    unfold stepT
    split
    · exact ih
    · rename_i i hi
      generalize iter m t = st at ih hi
      obtain ⟨hp, ht⟩ := nextP_spec hi
      have h1 := takes_one ht
      have hkid : kid m (i, st.1 (fN m i)) = if st.1 (fN m i) then tN m i else fN m i := rfl
      have hun : st.1 (kid m (i, st.1 (fN m i))) = false := by
        rw [hkid]
        cases hs : st.1 (fN m i) with
        | true => simp [h1, hs]
        | false => simpa using hs
      refine ⟨Tree.snoc hp _ ih.tree (fun e' he' => ?_), fun e' he' => ?_, fun k hk => ?_⟩
      · have := ih.seen e' he'
        exact ⟨fun e => (by rw [e, this.1] at hun; cases hun), fun e => (by rw [e, this.2] at hun; cases hun)⟩
      · show updB (updB st.1 (fN m i) true) (tN m i) true _ = true ∧ updB (updB st.1 (fN m i) true) (tN m i) true _ = true
        rw [updB_true, updB_true, updB_true, updB_true]
        rcases List.mem_append.1 he' with h' | h'
        · have := ih.seen e' h'
          exact ⟨Or.inr (Or.inr this.1), Or.inr (Or.inr this.2)⟩
        · rw [List.mem_singleton] at h'
          rw [h']
          exact ⟨Or.inr (Or.inl rfl), Or.inl rfl⟩
      · have hk2 : updB (updB st.1 (fN m i) true) (tN m i) true k = true := hk
        rw [updB_true, updB_true] at hk2
        have old : st.1 k = true → k = 0 ∨ ∃ e, e ∈ st.2 ++ [(i, st.1 (fN m i))] ∧ kid m e = k := fun h => by
          rcases ih.kids k h with h | ⟨e, h, h'⟩
          · exact Or.inl h
          · exact Or.inr ⟨e, List.mem_append_left _ h, h'⟩
        have new : k = kid m (i, st.1 (fN m i)) → k = 0 ∨ ∃ e, e ∈ st.2 ++ [(i, st.1 (fN m i))] ∧ kid m e = k := fun h => Or.inr ⟨_, List.mem_append_right _ (List.mem_singleton.2 rfl), h.symm⟩
        show k = 0 ∨ ∃ e, e ∈ st.2 ++ [(i, st.1 (fN m i))] ∧ kid m e = k
        rw [hkid] at new
        cases hs : st.1 (fN m i) with
        | true =>
          rw [hs] at new h1 old
          rcases hk2 with h | h | h
          · exact new (by simpa using h)
          · exact old (by rw [h]; exact hs)
          · exact old h
        | false =>
          rw [hs] at new h1 old
          rcases hk2 with h | h | h
          · exact old (by rw [h, h1]; rfl)
          · exact new (by simpa using h)
          · exact old h
/-- The flows along the tree of mains whose nodes it all reaches: each node but the first gets what it wants. -/
theorem flows_bal {m : Mains} (hr : Right m) {k : Nat} (h0 : k ≠ 0) (hs : (fin m).1 k = true) : bal m (flows m) k m.pn = m.W k := by
  have hg : Grown m (fin m) := iter_grown m 12
  have hb := back_bal hr _ hg.tree
  rcases hg.kids k hs with h | ⟨e, h, h'⟩
  · exact absurd h h0
  · have := hb.kid e h
    rw [h'] at this
    exact this
end Mn
end Go.Proofs.YtfgmalnkpgloiaaGreatDoor
namespace Go.Proofs.YtfgmalnkpgloiaaGreatDoor
open Go Go.RowKit Go.Deep

set_option maxRecDepth 100000 in
set_option maxHeartbeats 1000000 in
theorem nhas_any (a : Option Addr) (n cap : Nat) (f : Nat → Int) (x : Int) (t : Bool) (w : World) (h : IsAt a n f w) (hn : n ≤ 1048576) (ht : t = true ↔ ∃ j, j < n ∧ f j = x) :
    Calls Tryz.prog 16 #[.slice a n cap, .int .i64 x] w fun e w' => e = .returned (.bool t) ∧ w' = w := by
  have H := Lib.hid h
  have HT := Lib.hid ht
  clear h ht
  go_enter Tryz.func16, Tryz.ntmps16
  go_wp2_with fail
  go_loopw [5] (fun iv wr => ∃ (i : Nat), i ≤ n ∧ iv = .int .i64 i ∧ wr = w ∧ Hid (∀ j, j < i → f j ≠ x)) (fun iv _ => n - (intOf iv).toNat)
  case atStart => exact ⟨0, Nat.zero_le _, rfl, rfl, fun j hj => absurd hj (Nat.not_lt_zero _)⟩
  case round =>
    obtain ⟨i, hi, rfl, rfl, hP⟩ := hrel
    by_cases hlt : i < n
    · have hltz : (i : Int) < (n : Int) := by omega
      obtain ⟨b, e, c0⟩ := H.out.at1 hlt
      subst e
      by_cases c : f i = x
      · have HC : Hid (t = true) := HT.out.2 ⟨i, hlt, c⟩
        have c' : (f i == x) = true := by simp [c]
        clear c
        go_wp2_with fail
        go_ret
        exact ⟨by rw [HC.out]; rfl, rfl⟩
      · have HC := Lib.hid c
        have c' : (f i == x) = false := by simp [c]
        clear c
        go_wp2_with fail
        go_roundw
        case rel => exact ⟨i + 1, by omega, by go_num, by trivial, fun j hj => by
          by_cases e : j = i
          · subst e; exact HC.out
          · exact hP.out j (by omega)⟩
        case measure => simp [intOf]; omega
    · obtain rfl : i = n := by omega
      have HC : Hid (t = false) := by
        show t = false
        cases hq : t with
        | false => rfl
        | true =>
          obtain ⟨j, hj, e⟩ := HT.out.1 hq
          exact absurd e (hP.out j hj)
      go_wp2_with fail
      go_ret
      exact ⟨by rw [HC.out]; rfl, rfl⟩
set_option maxRecDepth 100000 in
set_option maxHeartbeats 2000000 in
theorem nsame_same (a b : Option Addr) (n ca cb : Nat) (f : Nat → Int) (w : World) (h1 : IsAt a n f w) (h2 : IsAt b n f w) (hn : n ≤ 1048576) :
    Calls Tryz.prog 13 #[.slice a n ca, .slice b n cb] w fun e w' => e = .returned (.bool true) ∧ Below w.heap.size w w' := by
  have H1 := Lib.hid h1
  have H2 := Lib.hid h2
  clear h1 h2
  go_enter Tryz.func13, Tryz.ntmps13
  go_wp2_with fail
  go_loopw [5] (fun iv wr => ∃ (i : Nat), i ≤ n ∧ iv = .int .i64 i ∧ Hid (Below w.heap.size w wr)) (fun iv _ => n - (intOf iv).toNat)
  case atStart => exact ⟨0, Nat.zero_le _, rfl, Below.refl _ _⟩
  case round =>
    obtain ⟨i, hi, rfl, hB⟩ := hrel
    by_cases hlt : i < n
    · have hltz : (i : Int) < (n : Int) := by omega
      obtain ⟨b1, rfl, k1⟩ := (H1.out.below hB.out).at1 hlt
      obtain ⟨b2, rfl, k2⟩ := (H2.out.below hB.out).at1 hlt
      go_wp2_with fail
      go_region
      go_wp2_with fail
      go_roundw
      case rel => exact ⟨i + 1, by omega, by go_num, hB.out.drew⟩
      case measure => simp [intOf]; omega
    · obtain rfl : i = n := by omega
      go_wp2_with fail
      go_ret
      exact ⟨rfl, hB.out⟩
set_option maxRecDepth 100000 in
set_option maxHeartbeats 2000000 in
theorem ncopy_any (a : Option Addr) (m cap : Nat) (f : Nat → Int) (w : World) (h : IsAt a m f w) (hm : m ≤ 1000) (ha : a = none → cap = 0) :
    Calls Tryz.prog 11 #[.slice a m cap] w fun e w' => (∃ g c, e = .returned (.slice (some ⟨g, 0, none⟩) m c) ∧ w.heap.size ≤ g ∧ IsAt (some ⟨g, 0, none⟩) m f w') ∧ Below w.heap.size w w' := by
  obtain ⟨i0, hi, hz0, hz1, hz2⟩ := info_parts minfo_i64
  have H := Lib.hid h
  clear h
  obtain ⟨ab, hab⟩ : ∃ ab : Addr, (a = some ab ∨ (a = none ∧ m = 0)) ∧ ∀ j, j < m → w.cell? (ab.add j) = some (.int .i64 (f j)) := by
    by_cases hm0 : m = 0
    · subst hm0
      cases a with
      | none => exact ⟨⟨0, 0, none⟩, Or.inr ⟨rfl, rfl⟩, fun j hj => absurd hj (Nat.not_lt_zero _)⟩
      | some b => exact ⟨b, Or.inl rfl, fun j hj => absurd hj (Nat.not_lt_zero _)⟩
    · obtain ⟨b, e, _⟩ := H.out.at1 (show 0 < m by omega)
      refine ⟨_, Or.inl e, fun j hj => ?_⟩
      obtain ⟨b', e', c'⟩ := H.out.at1 hj
      rw [e] at e'
      cases e'
      rw [Addr.add_lit]
      simpa using c'
  obtain ⟨ho, hcl⟩ := hab
  rcases ho with rfl | ⟨rfl, rfl⟩
  case inr =>
    obtain rfl := ha rfl
    go_enter Tryz.func11, Tryz.ntmps11
    go_wp2_with fail
    go_ret
    exact ⟨⟨w.heap.size, ⟨0, rfl⟩, Nat.le_refl _, Or.inl rfl⟩, (Below.refl _ _).alloc (Nat.le_refl _) _⟩
  have HC := Lib.hid hcl
  clear hcl
  go_enter Tryz.func11, Tryz.ntmps11
  go_wp2_with (at_builtin; refine wpList_append_own _ rfl _ _ 25 rfl w.heap.size 2 i0 (.int .i64 0) 1 8 Tryz.underlying25 hi hz0 hz1 hz2 rfl (by decide) _ _ _ rfl (World.ownsRow_made w #[] 0 (Nat.le_refl _) (Nat.zero_le _) rfl) ab m cap ((List.range m).map fun j => Value.int .i64 (f j)) rfl ?qc1 ?qc2 ?qc3 ?qc4 ?qc5 ?qc6 ?_)
  case qc1 => simp
  case qc2 =>
    intro j u hj
    have hjn : j < m := by
      have := (List.getElem?_eq_some_iff.1 hj).1
      simpa using this
    refine Lib.cell?_alloc_some _ ?_
    rw [HC.out j hjn, ← hj]
    simp [hjn]
  case qc3 =>
    intro u hu
    obtain ⟨x, _, rfl⟩ := List.mem_map.1 hu
    rfl
  case qc4 => unfold maxLen; omega
  case qc5 => omega
  case qc6 => simp
  intro v' w1 hown hgrow hnil
  have HB : Hid (Below w.heap.size w w1) := ((Below.refl _ w).alloc (Nat.le_refl _) _).grown hgrow (by simp) (by intro k hk; simp [Value.ownBlock] at hk; omega)
  rcases hown.2 with ⟨e1, _⟩ | ⟨g, c, cur, e1, h2, h3, _, _, h6, h7⟩
  · exact absurd e1 (by simpa using hnil)
  · subst e1
    have HAT : Hid (IsAt (some ⟨g, 0, none⟩) m f w1) := Or.inr ⟨g, rfl, fun j hj => by
      have e2 : (cur.toList.take (m * 1))[j]? = some (.int .i64 (f j)) := by
        rw [h7]
        simp [hj]
      rw [List.getElem?_take_of_lt (by omega), Array.getElem?_toList] at e2
      rw [cell_of_row w1 g j cur _ (0, 0) h3, e2]⟩
    clear hown hgrow hnil h3 h6 h7
    go_wp2_with fail
    go_ret
    exact ⟨⟨g, c, rfl, h2, HAT.out⟩, HB.out⟩
end Go.Proofs.YtfgmalnkpgloiaaGreatDoor
namespace Go.Proofs.YtfgmalnkpgloiaaGreatDoor
open Go.RowKit Go.Deep
theorem kd_ne {m : Mn.Mains} {gk g n : Nat} {f : Nat → Int} {w : World} (hk : KdBlk gk m w) (hf : IsBlk 2 g n f w) : gk ≠ g := by
  rintro rfl
  obtain ⟨F, ⟨c1, e1, _⟩, _⟩ := hk
  obtain ⟨_, _, _, ⟨c2, e2, _⟩, _⟩ := hf
  rw [e1] at e2
  cases e2
theorem no_loops {m : Mn.Mains} (hr : Mn.Right m) (h : m.pn = 0) : m.ln = 0 := by
  rcases Nat.eq_zero_or_pos m.ln with e | e
  · exact e
  · have := hr.l 0 e
    have := (this.num 0 this.n1).lt
    omega
theorem round_nil {m : Mn.Mains} (h : m.ln = 0) (f : Nat → Int) : Mn.round m f = f := by unfold Mn.round; rw [h]; rfl
set_option maxRecDepth 100000 in
theorem round0_any (m : Mn.Mains) (la : Option Addr) (lk gk : Nat) (fa : Option Addr) (fc : Nat) (w : World) (hl : m.ln = 0) :
    Calls Tryz.prog 69 #[rmV la m.ln lk gk m.pn fa fc] w fun e w' => e = .returned (.tuple #[]) ∧ Below w.heap.size w w' := by
  have R0 := Lib.hid (rowN_alloc w [.slice la 0 lk, .slice (some ⟨gk, 0, none⟩) m.pn m.pn, .slice fa m.pn fc] 70)
  have B0 := Lib.hid (nbel_alloc w (.cells #[.slice la 0 lk, .slice (some ⟨gk, 0, none⟩) m.pn m.pn, .slice fa m.pn fc] 70))
  rw [hl]
  clear hl
  go_enter Tryz.func69, Tryz.ntmps69
  go_wp2_with fail
  go_loopw [12] (fun iv wr => iv = .int .i64 0 ∧ Hid (Below w.heap.size w wr)) (fun _ _ => 0)
  case atStart => exact ⟨rfl, B0⟩
  case round =>
    obtain ⟨rfl, hB⟩ := hrel
    go_wp2_with fail
    go_end0
    exact ⟨rfl, hB.out⟩
/-- A round over a list that an answer is. -/
theorem round_ow (m : Mn.Mains) (la : Option Addr) (lk gk : Nat) (a : Option Addr) (c : Nat) (f : Nat → Int) (b w : World) (hb : Below b.heap.size b w) (hl : LsAt la m.ln m.LN m.L b) (hk : KdBlk gk m w) (ho : OwL 2 b.heap.size m.pn a c f w) (hr : Mn.Right m) (hok : Mn.AllOk m f) :
    Calls Tryz.prog 69 #[rmV la m.ln lk gk m.pn a c] w fun e w' => e = .returned (.tuple #[]) ∧ OwL 2 b.heap.size m.pn a c (Mn.round m f) w' ∧ OnlyO a w w' := by
  rcases ho with ⟨rfl, h0, rfl⟩ | ⟨g, rfl, h1, h2⟩
  · have hl0 := no_loops hr h0
    exact (round0_any m la lk gk none 0 w hl0).mono (fun e w' ⟨he, hbb⟩ => ⟨he, Or.inl ⟨rfl, h0, rfl⟩, hbb.os, hbb.tape, hbb.output, hbb.size, fun k hk _ => hbb.block k hk⟩)
  · exact (round_any m la lk gk g c f b w hb hl h1 hk (kd_ne hk h2) h2 hr hok).mono (fun e w' ⟨he, h3, h4⟩ => ⟨he, Or.inr ⟨g, rfl, h1, h3⟩, h4.os, h4.tape, h4.output, h4.size, fun k hk hne => h4.block k hk (fun e => hne (by rw [e]))⟩)
/-- What a round tells, ahead of the telling. -/
inductive RmEnd (m : Mn.Mains) (xn : Nat) (f : Nat → Int) (B : Nat) (e : Ending) (W : World) : Prop
  | no (c : Int) (s0 s : ByteArray) : (c = 2 ∧ 400 < xn) ∨ (c = 1 ∧ xn ≤ 400 ∧ ¬ (Mn.Right m ∧ xn = m.pn ∧ Mn.AllOk m f)) → e = .returned (.tuple #[moV none 0 0 none 0 0 0 0 0 0, .iface 107 (.agg #[.string s0, errV s c])]) → RmEnd m xn f B e W
  | ok (a : Option Addr) (c : Nat) : xn ≤ 400 → Mn.Right m → xn = m.pn → Mn.AllOk m f → e = .returned (.tuple #[moV a m.pn c none 0 0 (Mn.rest m (Mn.round m f)) 0 0 0, .nilIface]) → OwL 2 B m.pn a c (Mn.round m f) W → RmEnd m xn f B e W
/-- What stands behind the flows that were given. -/
structure RdQ (m : Mn.Mains) (pa : Option Addr) (pk : Nat) (la : Option Addr) (lk : Nat) (wa : Option Addr) (wk : Nat) (X gk : Nat) (a : Option Addr) (c : Nat) (f : Nat → Int) (w1 w W : World) : Prop where
  res : W.rowIs (w.heap.size + 1) 31 6 (rowN (moL none 0 0 none 0 0 0 0 0 0))
  r6 : W.rowIs X 70 3 (rowN [.slice la m.ln lk, .slice (some ⟨gk, 0, none⟩) m.pn m.pn, .slice a m.pn c])
  k : KdBlk gk m W
  o : OwL 2 (w.heap.size + 2) m.pn a c f W
  at_ : MnAt m pa la wa W
  old : Below w.heap.size w W
theorem RdQ.below {m : Mn.Mains} {pa : Option Addr} {pk : Nat} {la : Option Addr} {lk : Nat} {wa : Option Addr} {wk X gk : Nat} {a : Option Addr} {c : Nat} {f : Nat → Int} {w1 w W W' : World} (h : RdQ m pa pk la lk wa wk X gk a c f w1 w W) (hb : Below W.heap.size W W') : RdQ m pa pk la lk wa wk X gk a c f w1 w W' := ⟨nrow_below h.res hb, nrow_below h.r6 hb, h.k.below hb, h.o.below hb, h.at_.below hb, h.old.trans (hb.mono h.old.size)⟩
end Go.Proofs.YtfgmalnkpgloiaaGreatDoor
namespace Go.Proofs.YtfgmalnkpgloiaaGreatDoor
open Go.RowKit Go.Deep
set_option maxRecDepth 100000 in
set_option maxHeartbeats 1000000 in
theorem roundMains_any (m : Mn.Mains) (pa : Option Addr) (pk : Nat) (la : Option Addr) (lk : Nat) (wa : Option Addr) (wk : Nat) (xb xn xc : Nat) (f : Nat → Int) (w : World) (h : MnAt m pa la wa w) (hx : ∀ i, i < xn → w.cell? ⟨xb, i, none⟩ = some (.int .i64 (f i))) (hxn : xn ≤ 1048576) :
    Calls Tryz.prog 37 #[mnV m pa pk la lk wa wk, .slice (some ⟨xb, 0, none⟩) xn xc] w fun e w' => RmEnd m xn f w.heap.size e w' ∧ Below w.heap.size w w' := by
  obtain ⟨W0, hW0⟩ : ∃ W0, W0 = (w.alloc (.cells #[.int .i64 m.nodes, .int .i64 m.head, .slice pa m.pn pk, .slice la m.ln lk, .slice wa m.wn wk] 27)).alloc (.cells #[.slice none 0 0, .slice none 0 0, .int .i64 0, .int .i64 0, .int .i64 0, .int .i64 0] 31) := ⟨_, rfl⟩
  have S0 : Hid (MsS m pa pk la lk wa wk w W0) := by
    show MsS _ _ _ _ _ _ _ _ _
    rw [hW0]
    exact ⟨nrow_below (rowN_alloc w _ _) (nbel_alloc _ _), rowN_alloc' (by simp) _ _, (h.below (nbel_alloc _ _)).below (nbel_alloc _ _), mbel2 _ _ _⟩
  have HX0 : Hid (∀ i, i < xn → W0.cell? ⟨xb, i, none⟩ = some (.int .i64 (f i))) := fun i hi => (S0.out.old.cell (World.block_lt_of_cell? _ _ (hx i hi))).trans (hx i hi)
  have HSZ : Hid (W0.heap.size = w.heap.size + 2) := by show _ = _; rw [hW0]; simp
  have HW0 := Lib.hid hW0
  have HXN := Lib.hid hxn
  have HA := Lib.hid h
  clear h hW0 hx hxn
  go_enter Tryz.func37, Tryz.ntmps37
  go_wp2_with fail
  rw [← HW0.out]
  refine (given_any m pa pk la lk wa wk xb xn xc f _ S0.out.at_ HX0.out HXN.out).mono ?_
  rintro e w1 ⟨hE, hb⟩
  have S1 := Lib.hid (S0.out.below hb)
  have B1 : Hid (Below W0.heap.size W0 w1) := hb
  clear hb HX0
  rcases hE with ⟨c, s, h1, rfl⟩ | ⟨gk, a, c, h1, hr, hxp, ho, rfl, hk, how, hgk⟩
  · have HC := Lib.hid h1
    clear h1
    have D0 := set6_done S1.out.res rfl S1.out.old (by omega) (.slice none 0 0) (.slice none 0 0) (.int .i64 0) (.int .i64 0) (.int .i64 0) (.int .i64 0)
    have D : Hid (World.rowIs ((set6 w1 (w.heap.size + 1) (.slice none 0 0) (.slice none 0 0) (.int .i64 0) (.int .i64 0) (.int .i64 0) (.int .i64 0)).alloc (.cells #[.slice none 0 0, .slice none 0 0, .slice none 0 0] 70)) (w.heap.size + 1) 31 6 (rowN (moL none 0 0 none 0 0 0 0 0 0)) ∧ Below w.heap.size w ((set6 w1 (w.heap.size + 1) (.slice none 0 0) (.slice none 0 0) (.int .i64 0) (.int .i64 0) (.int .i64 0) (.int .i64 0)).alloc (.cells #[.slice none 0 0, .slice none 0 0, .slice none 0 0] 70))) := ⟨nrow_below D0.1 (nbel_alloc _ _), D0.2.1.trans ((nbel_alloc _ _).mono D0.2.1.size)⟩
    clear D0
    obtain ⟨⟨x0, x1, x2, x3, x4, x5⟩, z0, z1, z2, z3, z4, z5⟩ := rowN6 S1.out.res
    have lx := S1.out.res.lt
    go_wp2_with fail
    obtain ⟨⟨q0, q1, q2, q3, q4, q5⟩, _⟩ := rowN6 D.out.1
    unfold set6 at q0 q1 q2 q3 q4 q5
    refine bodyPost_ret (v := .tuple #[moV none 0 0 none 0 0 0 0 0 0, .iface 107 (.agg #[.string ⟨#[97, 32, 114, 111, 117, 110, 100]⟩, errV s c])]) ?_ rfl ⟨RmEnd.no c _ s HC.out rfl, ?_⟩
    · simp only [results, Tryz.results37]
      simp [go_sem, q0, q1, q2, q3, q4, q5]
    · have := D.out.2
      unfold set6 at this
      exact this
  subst hxp
  have HR := Lib.hid hr
  have HO := Lib.hid ho
  have H1 := Lib.hid h1
  have HOF : Hid (Mn.AllOk m (Mn.round m f)) := Mn.roundTo_ok hr ho _ (Nat.le_refl _)
  obtain ⟨W2, hW2⟩ : ∃ W2, W2 = w1.alloc (.cells #[.slice la m.ln lk, .slice (some ⟨gk, 0, none⟩) m.pn m.pn, .slice a m.pn c] 70) := ⟨_, rfl⟩
  have hb2 : Below w1.heap.size w1 W2 := by rw [hW2]; exact nbel_alloc _ _
  have S2 : Hid (RdQ m pa pk la lk wa wk w1.heap.size gk a c f w1 w W2) := ⟨nrow_below S1.out.res hb2, by rw [hW2]; exact rowN_alloc w1 _ _, hk.below hb2, (how.low (by have := HSZ.out; omega)).below hb2, S1.out.at_.below hb2, S1.out.old.trans (hb2.mono S1.out.old.size)⟩
  have HOW : Hid (OwL 2 W0.heap.size m.pn a c f W2) := how.below hb2
  have HAX : Hid (∀ k, a = some ⟨k, 0, none⟩ → w.heap.size + 2 ≤ k ∧ k < w1.heap.size) := fun k e => by have h2 := how.lt e; have := HSZ.out; omega
  have BW2 : Hid (Below W0.heap.size W0 W2) := B1.out.trans (hb2.mono B1.out.size)
  have HX1 : Hid (w1.heap.size ≠ w.heap.size + 1) := by show _ ≠ _; have := S1.out.res.lt; omega
  have HW2 := Lib.hid hW2
  have lx1 : w.heap.size + 1 < w1.heap.size := S1.out.res.lt
  clear hr ho h1 hW2 hk how hgk hb2 B1 S1
  go_wp2_with fail
  rw [← HW2.out]
  clear HW2
  generalize w1.heap.size = X at *
  refine (round_ow m la lk gk a c f W0 W2 BW2.out S0.out.at_.l S2.out.k HOW.out HR.out HO.out).mono ?_
  rintro e w3 ⟨rfl, hor, hon⟩
  have S3 : Hid (RdQ m pa pk la lk wa wk X gk a c (Mn.round m f) w1 w w3) := by
    have s := S2.out
    have hsz := HSZ.out
    have bl : ∀ k, k < W2.heap.size → (k < w.heap.size + 2 ∨ X ≤ k) → w3.heap[k]? = W2.heap[k]? := fun k h1 h2 => hon.block k h1 (fun e => by have := HAX.out k e; omega)
    have hold : Below w.heap.size w w3 := s.old.trans ⟨hon.os, hon.tape, hon.output, hon.size, fun k hk => bl k (Nat.lt_of_lt_of_le hk s.old.size) (by omega)⟩
    refine ⟨s.res.of_block (bl _ s.res.lt (by omega)), s.r6.of_block (bl _ s.r6.lt (by omega)), s.k.block (hon.block _ s.k.lt (fun e => ?_)), by rw [← hsz]; exact hor, HA.out.below hold, hold⟩
    rcases s.o with h9 | ⟨g9, e9, _, h9⟩
    · rw [h9.1] at e; cases e
    · rw [e9] at e
      cases e
      exact kd_ne s.k h9 rfl
  clear hor hon S2 HOW BW2
  go_wp2_with fail
  refine wp_region_held_drew (S := fun V => V.rowIs X 70 3 (rowN [.slice la m.ln lk, .slice (some ⟨gk, 0, none⟩) m.pn m.pn, .slice a m.pn c])) (by kernel_rfl) (nrow_below S3.out.r6 (Below.refl _ _).drew) (fun hHeld => ?_)
  obtain ⟨Z, hZ⟩ : ∃ Z, Z = w3.drew := ⟨_, rfl⟩
  have SZ : Hid (RdQ m pa pk la lk wa wk X gk a c (Mn.round m f) w1 w Z) := by show RdQ _ _ _ _ _ _ _ _ _ _ _ _ _ _ _; rw [hZ]; exact S3.out.below (Below.refl _ _).drew
  rw [← hZ] at hHeld ⊢
  clear hZ S3
  refine take_do (i := 0) (v := (.pointer (some ⟨X, 2, none⟩))) rfl (by kernel_rfl) (by kernel_rfl) (by kernel_rfl) (fun _ _ _ h => h) (by rfl) ?_ (by assumption) ?_
  · intro w' hSw
    skip
    go_simp
  simp only [Act.put, List.setIfInBounds_toArray, List.set_cons_zero, List.set_cons_succ]
  refine take_do (i := 1) (v := (.slice a m.pn c)) rfl (by kernel_rfl) (by kernel_rfl) (by kernel_rfl) (fun _ _ _ h => h) (by rfl) ?_ (by assumption) ?_
  · intro w' hSw
    obtain ⟨⟨r0, r1, r2⟩, _⟩ := rowN3 hSw
    go_simp
  simp only [Act.put, List.setIfInBounds_toArray, List.set_cons_zero, List.set_cons_succ]
  refine take_do (i := 2) (v := (rmV la m.ln lk gk m.pn a c)) rfl (by kernel_rfl) (by kernel_rfl) (by kernel_rfl) (fun _ _ _ h => h) (by rfl) ?_ (by assumption) ?_
  · intro w' hSw
    obtain ⟨⟨r0, r1, r2⟩, _⟩ := rowN3 hSw
    go_simp
  simp only [Act.put, List.setIfInBounds_toArray, List.set_cons_zero, List.set_cons_succ]
  refine take_call (i := 3) rfl (by kernel_rfl) (fun K2 hK => ?_)
  go_simp
  refine (irest_any m la lk gk a c (Mn.round m f) _ SZ.out.at_.l SZ.out.k SZ.out.o.at_ HR.out HOF.out).mono ?_
  rintro e w4 ⟨rfl, hb⟩
  have S4 := Lib.hid (SZ.out.below hb)
  go_wp2_with fail
  refine hK.out _ _ (nrow_below hHeld hb) (fun hHeld2 => ?_)
  clear hK hHeld hb SZ
  have hHeld := hHeld2
  clear hHeld2
  refine take_do (i := 4) (v := (moV a m.pn c none 0 0 (Mn.rest m (Mn.round m f)) 0 0 0)) rfl (by kernel_rfl) (by kernel_rfl) (by kernel_rfl) (fun _ _ _ h => h) (by rfl) ?_ (by assumption) ?_
  · intro w' hSw
    skip
    go_simp
  simp only [Act.put, List.setIfInBounds_toArray, List.set_cons_zero, List.set_cons_succ]
  have D := Lib.hid (set6_done S4.out.res rfl S4.out.old (by omega) (.slice a m.pn c) (.slice none 0 0) (.int .i64 (Mn.rest m (Mn.round m f))) (.int .i64 0) (.int .i64 0) (.int .i64 0))
  obtain ⟨⟨x0, x1, x2, x3, x4, x5⟩, z0, z1, z2, z3, z4, z5⟩ := rowN6 S4.out.res
  have lx := S4.out.res.lt
  obtain ⟨WZ, hWZ⟩ : ∃ WZ, WZ = set6 w4 (w.heap.size + 1) (.slice a m.pn c) (.slice none 0 0) (.int .i64 (Mn.rest m (Mn.round m f))) (.int .i64 0) (.int .i64 0) (.int .i64 0) := ⟨_, rfl⟩
  have HRX : Hid (WZ.rowIs X 70 3 (rowN [.slice la m.ln lk, .slice (some ⟨gk, 0, none⟩) m.pn m.pn, .slice a m.pn c])) := by
    show World.rowIs _ _ _ _ _
    rw [hWZ]
    exact S4.out.r6.of_block (D.out.2.2 _ HX1.out)
  have HWZ := Lib.hid hWZ
  unfold set6 at hWZ
  refine take_call (i := 5) rfl (by kernel_rfl) (fun K2 hK => ?_)
  go_simp
  rw [← hWZ]
  refine hK.out _ _ HRX.out (fun hHeld2 => ?_)
  clear hK hHeld x0 x1 x2 x3 x4 x5 z0 z1 z2 z3 z4 z5 lx hWZ
  have hHeld := hHeld2
  clear hHeld2
  refine take_do (i := 6) (v := (.nilIface)) rfl (by kernel_rfl) (by kernel_rfl) (by kernel_rfl) (fun _ _ _ h => h) (by rfl) ?_ (by assumption) ?_
  · intro w' hSw
    skip
    go_simp
  simp only [Act.put, List.setIfInBounds_toArray, List.set_cons_zero, List.set_cons_succ]
  refine wpAnyH_done (by kernel_rfl) ?_ _
  clear hHeld
  obtain ⟨⟨q0, q1, q2, q3, q4, q5⟩, _⟩ := rowN6 D.out.1
  rw [← HWZ.out] at q0 q1 q2 q3 q4 q5
  go_wp2_with fail
  refine bodyPost_ret (v := .tuple #[moV a m.pn c none 0 0 (Mn.rest m (Mn.round m f)) 0 0 0, .nilIface]) ?_ rfl ⟨RmEnd.ok a c H1.out HR.out rfl HO.out rfl ?_, ?_⟩
  · simp only [results, Tryz.results37]
    simp [go_sem, q0, q1, q2, q3, q4, q5]
  · rw [HWZ.out]
    exact (S4.out.o.keep (fun k e hk => D.out.2.2 k (by have := (S4.out.o.lt e).1; omega))).low (by omega)
  · rw [HWZ.out]; exact D.out.2.1
end Go.Proofs.YtfgmalnkpgloiaaGreatDoor
namespace Go.Proofs.YtfgmalnkpgloiaaGreatDoor
open Go.RowKit Go.Deep
set_option maxRecDepth 100000 in
set_option maxHeartbeats 1000000 in
theorem implRound_any (m : Mn.Mains) (pa : Option Addr) (pk : Nat) (la : Option Addr) (lk : Nat) (wa : Option Addr) (wk : Nat) (xb xn xc : Nat) (f : Nat → Int) (w : World) (h : MnAt m pa la wa w) (hx : ∀ i, i < xn → w.cell? ⟨xb, i, none⟩ = some (.int .i64 (f i))) (hxn : xn ≤ 1048576) (hg : Et w) :
    Calls Tryz.prog 10 #[mnV m pa pk la lk wa wk, .slice (some ⟨xb, 0, none⟩) xn xc] w fun e w' => RdEnd m xn f w.heap.size e w' ∧ Below w.heap.size w w' := by
  obtain ⟨W, hW⟩ : ∃ W, W = (w.alloc (.cells #[.int .i64 m.nodes, .int .i64 m.head, .slice pa m.pn pk, .slice la m.ln lk, .slice wa m.wn wk] 27)).alloc (.cells (moA none 0 0 none 0 0 0 0 0 0) 31) := ⟨_, rfl⟩
  have S0 : Hid (MsS m pa pk la lk wa wk w W) := by
    show MsS _ _ _ _ _ _ _ _ _
    rw [hW]
    exact ⟨nrow_below (rowN_alloc w _ _) (nbel_alloc _ _), rowN_alloc' (by simp) _ _, (h.below (nbel_alloc _ _)).below (nbel_alloc _ _), mbel2 _ _ _⟩
  have HX0 : Hid (∀ i, i < xn → W.cell? ⟨xb, i, none⟩ = some (.int .i64 (f i))) := fun i hi => (S0.out.old.cell (World.block_lt_of_cell? _ _ (hx i hi))).trans (hx i hi)
  have HSZ : Hid (W.heap.size = w.heap.size + 2) := by show _ = _; rw [hW]; simp
  have HW := Lib.hid hW
  have HG := Lib.hid hg
  have HXN := Lib.hid hxn
  clear h hW hg hx hxn
  go_enter Tryz.func10, Tryz.ntmps10
  go_wp2_with fail
  rw [← HW.out]
  refine (roundMains_any m pa pk la lk wa wk xb xn xc f _ S0.out.at_ HX0.out HXN.out).mono ?_
  rintro e w1 ⟨hE, hb⟩
  have S1 := Lib.hid (S0.out.below hb)
  clear hb S0 HX0
  rcases hE with ⟨c, s0, s, h1, rfl⟩ | ⟨a, c, h1, hr, hxp, ho, rfl, how⟩
  · have HC := Lib.hid h1
    clear h1
    go_wp2_with fail
    refine (tell_bad _ _ _ _ _ _ _ _ _ _ _ 0 c (finds_two s0 s c) (st_ddr s0 s c) _ (HG.out.below S1.out.old)).mono ?_
    rintro e w2 ⟨rfl, hb⟩
    have S3 := Lib.hid (S1.out.below hb)
    clear hb S1
    have D := Lib.hid (set6_done S3.out.res rfl S3.out.old (by omega) (.slice none 0 0) (.slice none 0 0) (.int .i64 0) (.int .i64 0) (.int .i64 0) (.int .i64 c))
    obtain ⟨⟨x0, x1, x2, x3, x4, x5⟩, z0, z1, z2, z3, z4, z5⟩ := rowN6 S3.out.res
    have lx := S3.out.res.lt
    go_wp2_with fail
    obtain ⟨⟨q0, q1, q2, q3, q4, q5⟩, _⟩ := rowN6 D.out.1
    unfold set6 at q0 q1 q2 q3 q4 q5
    have HE : Hid (RdEnd m xn f w.heap.size (.returned (moV none 0 0 none 0 0 0 0 0 c)) (set6 w2 (w.heap.size + 1) (.slice none 0 0) (.slice none 0 0) (.int .i64 0) (.int .i64 0) (.int .i64 0) (.int .i64 c))) := by
      rcases HC.out with ⟨rfl, k⟩ | ⟨rfl, k1, k2⟩
      · exact RdEnd.size k rfl
      · exact RdEnd.form k1 k2 rfl
    refine bodyPost_ret (v := moV none 0 0 none 0 0 0 0 0 c) ?_ rfl ⟨HE.out, D.out.2.1⟩
    simp only [results, Tryz.results10]
    simp [go_sem, q0, q1, q2, q3, q4, q5]
  · subst hxp
    have HR := Lib.hid hr
    have HO := Lib.hid ho
    have H1 := Lib.hid h1
    have HOW := Lib.hid how
    clear h1 hr ho how
    go_wp2_with fail
    refine (tell_ok _ _ _ _ _ _ _ _ _ _ _).mono ?_
    rintro e w2 ⟨rfl, hb⟩
    have S3 := Lib.hid (S1.out.below hb)
    have F3 := Lib.hid (HOW.out.below hb)
    clear hb S1 HOW
    have D := Lib.hid (set6_done S3.out.res rfl S3.out.old (by omega) (.slice a m.pn c) (.slice none 0 0) (.int .i64 (Mn.rest m (Mn.round m f))) (.int .i64 0) (.int .i64 0) (.int .i64 0))
    obtain ⟨⟨x0, x1, x2, x3, x4, x5⟩, z0, z1, z2, z3, z4, z5⟩ := rowN6 S3.out.res
    have lx := S3.out.res.lt
    go_wp2_with fail
    obtain ⟨⟨q0, q1, q2, q3, q4, q5⟩, _⟩ := rowN6 D.out.1
    unfold set6 at q0 q1 q2 q3 q4 q5
    have hsz := HSZ.out
    refine bodyPost_ret (v := moV a m.pn c none 0 0 (Mn.rest m (Mn.round m f)) 0 0 0) ?_ rfl ⟨RdEnd.ok a c H1.out HR.out rfl HO.out rfl ((F3.out.keep (fun k e hk => D.out.2.2 k (by have := (F3.out.lt e).1; omega))).low (by omega)), D.out.2.1⟩
    simp only [results, Tryz.results10]
    simp [go_sem, q0, q1, q2, q3, q4, q5]
end Go.Proofs.YtfgmalnkpgloiaaGreatDoor
namespace Go.Proofs.YtfgmalnkpgloiaaGreatDoor
open Go.RowKit Go.Deep
namespace Mn
/-- What may be asked. -/
def Asked (m : Mains) (xn : Nat) (f : Nat → Int) : Prop := xn ≤ 400 ∧ Right m ∧ xn = m.pn ∧ AllOk m f ∧ Start m 0 0
def lowTo (H : Nat → Int) (q : Int) : Nat → List Nat
  | 0 => []
  | k + 1 => if H k < q then lowTo H q k ++ [k] else lowTo H q k
theorem lowTo_len (H : Nat → Int) (q : Int) : ∀ k, (lowTo H q k).length ≤ k
  | 0 => Nat.le_refl _
  | k + 1 => by
    have := lowTo_len H q k
    simp only [lowTo]
    split
    · rw [List.length_append]; simp; exact this
    · omega
inductive Low (m : Mains) (xn : Nat) (f : Nat → Int) (q : Int) : List Nat → Prop
  | no : ¬ Asked m xn f → Low m xn f q []
  | ok : Asked m xn f → Low m xn f q (lowTo (heads m f) q (nn m))
theorem Low.one {m : Mains} {xn : Nat} {f : Nat → Int} {q : Int} {l l' : List Nat} (h : Low m xn f q l) (h' : Low m xn f q l') : l = l' := by
  cases h with
  | no h1 => cases h' with
    | no => rfl
    | ok k => exact absurd k h1
  | ok h1 => cases h' with
    | no k => exact absurd h1 k
    | ok => rfl
theorem Low.len {m : Mains} {xn : Nat} {f : Nat → Int} {q : Int} {l : List Nat} (h : Low m xn f q l) : l.length ≤ 12 := by
  cases h with
  | no => simp
  | ok h1 => have := lowTo_len (heads m f) q (nn m); have := h1.2.1.nn; omega
theorem low_total (m : Mains) (xn : Nat) (f : Nat → Int) (q : Int) : ∃ l, Low m xn f q l := by
  by_cases h : Asked m xn f
  · exact ⟨_, .ok h⟩
  · exact ⟨_, .no h⟩
end Mn
def natI (l : List Nat) : Nat → Int := fun j => (l.getD j 0 : Nat)
def natL (l : List Nat) : List Value := l.map (fun (i : Nat) => .int .i64 (i : Int))
theorem natL_app (l : List Nat) (i : Nat) : natL (l ++ [i]) = natL l ++ [.int .i64 (i : Int)] := by simp [natL]
theorem natL_isV (l : List Nat) : natL l = isV (natI l) l.length := by
  apply List.ext_getElem?
  intro j
  by_cases hj : j < l.length
  · rw [isV_get _ _ hj]
    simp [natL, natI, hj]
  · rw [List.getElem?_eq_none (by simp [natL]; omega), List.getElem?_eq_none (by rw [isV_len]; omega)]
theorem owl_nat {T : TypeId} {B c : Nat} {a : Option Addr} {l : List Nat} {W : World} (h : W.ownsRow B T 1 (.slice a l.length c) l.length (natL l)) : OwL T B l.length a c (natI l) W := by
  rw [natL_isV] at h
  obtain ⟨a', c', e, h2⟩ := owl_of h
  cases e
  exact h2
/-- What stands while low nodes are listed. -/
structure LoS (B gh n : Nat) (H : Nat → Int) (l : List Nat) (ov : Value) (w W : World) : Prop where
  own : W.ownsRow B 2 1 ov l.length (natL l)
  hd : IsBlk 2 gh n H W
  ne : ov.ownBlock ≠ some gh
  old : Below w.heap.size w W
theorem LoS.app {B gh n : Nat} {H : Nat → Int} {l : List Nat} {ov : Value} {w W W3 : World} (h : LoS B gh n H l ov w W) (hB : w.heap.size ≤ B) {o : Obj} {i g cap : Nat} (hown : W3.ownsRow B 2 1 (.slice (some ⟨g, 0, none⟩) (l.length + 1) cap) (l.length + 1) (natL l ++ [.int .i64 (i : Int)])) (hgrow : (W.alloc o).grownBy W3 ov.ownBlock) (hat : ov.ownBlock = some g ∨ g = W.heap.size + 1) : LoS B gh n H (l ++ [i]) (.slice (some ⟨g, 0, none⟩) (l.length + 1) cap) w W3 := by
  have h1 := h.hd.lt
  refine ⟨by rw [natL_app]; simpa using hown, (h.hd.below (nbel_alloc _ _)).block (hgrow.block _ (by rw [World.size_alloc]; omega) (fun e => h.ne e.symm)), ?_, (h.old.alloc h.old.size _).grown hgrow (by rw [World.size_alloc]; have := h.old.size; omega) (fun k hk => Nat.le_trans hB (h.own.lt k hk).1)⟩
  intro e
  have eg : g = gh := by simpa [Value.ownBlock] using e
  rcases hat with k | k
  · exact h.ne (by rw [k, eg])
  · omega
theorem lo_shape {B gh n : Nat} {H : Nat → Int} {l : List Nat} {ov : Value} {w W : World} (h : LoS B gh n H l ov w W) : ∃ a c, ov = .slice a l.length c := mown_shape h.own
end Go.Proofs.YtfgmalnkpgloiaaGreatDoor
namespace Go.Proofs.YtfgmalnkpgloiaaGreatDoor
open Go.RowKit Go.Deep
theorem Mn.Start.out {m : Mn.Mains} {c a : Int} (h : Mn.Start m c a) (hc : c = 0) : Mn.OutAt (Mn.fin m).1 (Mn.nn m) (-1) := by
  cases h with
  | form _ => omega
  | none _ _ _ _ => omega
  | over _ _ _ _ _ => omega
  | ok _ h2 _ => exact h2
/-- What stands behind the flows that were given. -/
structure LiS (m : Mn.Mains) (pa : Option Addr) (pk : Nat) (la : Option Addr) (lk : Nat) (wa : Option Addr) (wk : Nat) (X gk : Nat) (a : Option Addr) (c : Nat) (f : Nat → Int) (w W : World) : Prop where
  row : W.rowIs w.heap.size 27 5 (rowN (mnL m pa pk la lk wa wk))
  r7 : W.rowIs X 70 3 (rowN [.slice la m.ln lk, .slice (some ⟨gk, 0, none⟩) m.pn m.pn, .slice a m.pn c])
  k : KdBlk gk m W
  f : IsAt a m.pn f W
  at_ : MnAt m pa la wa W
  old : Below w.heap.size w W
theorem LiS.below {m : Mn.Mains} {pa : Option Addr} {pk : Nat} {la : Option Addr} {lk : Nat} {wa : Option Addr} {wk X gk : Nat} {a : Option Addr} {c : Nat} {f : Nat → Int} {w W W' : World} (h : LiS m pa pk la lk wa wk X gk a c f w W) (hb : Below W.heap.size W W') : LiS m pa pk la lk wa wk X gk a c f w W' := ⟨nrow_below h.row hb, nrow_below h.r7 hb, h.k.below hb, h.f.below hb, h.at_.below hb, h.old.trans (hb.mono h.old.size)⟩
set_option maxRecDepth 100000 in
set_option maxHeartbeats 8000000 in
theorem ilow_any (m : Mn.Mains) (pa : Option Addr) (pk : Nat) (la : Option Addr) (lk : Nat) (wa : Option Addr) (wk : Nat) (xb xn xc : Nat) (f : Nat → Int) (q : Int) (w : World) (h : MnAt m pa la wa w) (hx : ∀ i, i < xn → w.cell? ⟨xb, i, none⟩ = some (.int .i64 (f i))) (hxn : xn ≤ 1048576) :
    Calls Tryz.prog 15 #[mnV m pa pk la lk wa wk, .slice (some ⟨xb, 0, none⟩) xn xc, .int .i64 q] w fun e w' => (∃ l a c, Mn.Low m xn f q l ∧ e = .returned (.slice a l.length c) ∧ OwL 2 w.heap.size l.length a c (natI l) w') ∧ Below w.heap.size w w' := by
  obtain ⟨i1, hi1, hy0, hy1, hy2⟩ := info_parts minfo_i64
  obtain ⟨W0, hW0⟩ : ∃ W0, W0 = w.alloc (.cells #[.int .i64 m.nodes, .int .i64 m.head, .slice pa m.pn pk, .slice la m.ln lk, .slice wa m.wn wk] 27) := ⟨_, rfl⟩
  have S0 : Hid (W0.rowIs w.heap.size 27 5 (rowN (mnL m pa pk la lk wa wk)) ∧ MnAt m pa la wa W0 ∧ (∀ i, i < xn → W0.cell? ⟨xb, i, none⟩ = some (.int .i64 (f i))) ∧ Below w.heap.size w W0) := by
    show _ ∧ _
    rw [hW0]
    exact ⟨rowN_alloc w _ _, h.below (nbel_alloc _ _), fun i hi => ((nbel_alloc w _).cell (World.block_lt_of_cell? _ _ (hx i hi))).trans (hx i hi), nbel_alloc _ _⟩
  have HW0 := Lib.hid hW0
  have HXN := Lib.hid hxn
  clear h hx hW0 hxn
  go_enter Tryz.func15, Tryz.ntmps15
  go_wp2_with fail
  rw [← HW0.out]
  refine (given_any m pa pk la lk wa wk xb xn xc f _ S0.out.2.1 S0.out.2.2.1 HXN.out).mono ?_
  rintro e w1 ⟨hE, hb⟩
  have R1 := Lib.hid (nrow_below S0.out.1 hb)
  have A1 := Lib.hid (S0.out.2.1.below hb)
  have B1 : Hid (Below w.heap.size w w1) := S0.out.2.2.2.trans (hb.mono S0.out.2.2.2.size)
  have LW1 : Hid (w.heap.size < w1.heap.size) := R1.out.lt
  clear hb S0
  cases hE with
  | no c s h1 e1 =>
    subst e1
    have HL : Hid (Mn.Low m xn f q []) := .no (fun k => by
      rcases h1 with ⟨_, h2⟩ | ⟨_, _, h2⟩
      · have := k.1; omega
      · exact h2 ⟨k.2.1, k.2.2.1, k.2.2.2.1⟩)
    clear h1
    have B2 : Hid (Below w.heap.size w (w1.alloc (.cells #[.slice none 0 0, .slice none 0 0, .slice none 0 0] 70))) := B1.out.alloc B1.out.size _
    go_wp2_with fail
    refine bodyPost_ret (v := .slice none 0 0) ?_ rfl ⟨⟨[], none, 0, HL.out, rfl, Or.inl ⟨rfl, rfl, rfl⟩⟩, B2.out⟩
    simp [results, Tryz.results15, go_sem]
  | ok gk a c h1 hr hxp ho e1 hk how hgk =>
  subst e1
  subst hxp
  have HR := Lib.hid hr
  have HO := Lib.hid ho
  have H1 := Lib.hid h1
  obtain ⟨W2, hW2⟩ : ∃ W2, W2 = w1.alloc (.cells #[.slice la m.ln lk, .slice (some ⟨gk, 0, none⟩) m.pn m.pn, .slice a m.pn c] 70) := ⟨_, rfl⟩
  have S2 : Hid (LiS m pa pk la lk wa wk w1.heap.size gk a c f w W2) := by
    show LiS _ _ _ _ _ _ _ _ _ _ _ _ _ _
    rw [hW2]
    exact ⟨nrow_below R1.out (nbel_alloc _ _), rowN_alloc w1 _ _, hk.below (nbel_alloc _ _), how.at_.below (nbel_alloc _ _), A1.out.below (nbel_alloc _ _), B1.out.alloc B1.out.size _⟩
  have HW2 := Lib.hid hW2
  obtain ⟨⟨r0, r1, r2, r3, r4⟩, _⟩ := rowN5 R1.out
  have lw1 := LW1.out
  clear hr ho h1 hW2 hk how hgk A1 B1
  go_wp2_with fail
  rw [← HW2.out]
  clear r0 r1 r2 r3 r4 lw1 HW2
  generalize w1.heap.size = X at *
  refine (startMains_any m pa pk la lk wa wk _ S2.out.at_).mono ?_
  rintro e w3 ⟨hE, hb⟩
  have S3 := Lib.hid (S2.out.below hb)
  clear hb S2 R1
  cases hE with
  | no cc aa ev hst hc her e1 =>
    subst e1
    have HL : Hid (Mn.Low m m.pn f q []) := .no (fun k => hc (k.2.2.2.2.one hst).1.symm)
    have B4 : Hid (Below w.heap.size w (w3.alloc (.cells #[.slice none 0 0, .slice none 0 0, .slice none 0 0] 70))) := S3.out.old.alloc S3.out.old.size _
    clear hst hc
    rcases her with ⟨s, rfl, _⟩ | ⟨s, rfl⟩
    · go_wp2_with fail
      refine bodyPost_ret (v := .slice none 0 0) ?_ rfl ⟨⟨[], none, 0, HL.out, rfl, Or.inl ⟨rfl, rfl, rfl⟩⟩, B4.out⟩
      simp [results, Tryz.results15, go_sem]
    · go_wp2_with fail
      refine bodyPost_ret (v := .slice none 0 0) ?_ rfl ⟨⟨[], none, 0, HL.out, rfl, Or.inl ⟨rfl, rfl, rfl⟩⟩, B4.out⟩
      simp [results, Tryz.results15, go_sem]
  | ok gk2 gf tv hst e1 _ _ htr _ _ _ =>
  subst e1
  have HST := Lib.hid hst
  have HT3 := Lib.hid htr
  obtain ⟨ta, tc, etv, _⟩ := htr
  subst etv
  obtain ⟨W4, hW4⟩ : ∃ W4, W4 = w3.alloc (.cells #[.slice la m.ln lk, .slice (some ⟨gk2, 0, none⟩) m.pn m.pn, .slice (some ⟨gf, 0, none⟩) m.pn m.pn] 70) := ⟨_, rfl⟩
  have hb4 : Below w3.heap.size w3 W4 := by rw [hW4]; exact nbel_alloc _ _
  have S4 := Lib.hid (S3.out.below hb4)
  have T4 := Lib.hid (HT3.out.below hb4)
  have HW4 := Lib.hid hW4
  obtain ⟨⟨r0, r1, r2, r3, r4⟩, _⟩ := rowN5 S3.out.row
  obtain ⟨⟨x0, x1, x2⟩, _⟩ := rowN3 S3.out.r7
  have l1 := S3.out.row.lt
  have l2 := S3.out.r7.lt
  clear hst hb4 hW4 HT3
  go_wp2_with fail
  rw [← HW4.out]
  clear r0 r1 r2 r3 r4 x0 x1 x2 l1 l2 HW4
  refine (headsAlong_any m la m.ln lk gk a c f _ _ S4.out.k S4.out.f T4.out HR.out HO.out (HST.out.out rfl)).mono ?_
  rintro e w5 ⟨⟨gh, rfl, hhd, hgh⟩, hb⟩
  obtain ⟨H, hH⟩ : ∃ H, H = Mn.heads m f := ⟨_, rfl⟩
  have ZH : Hid (w.heap.size ≤ gh) := Nat.le_trans S4.out.old.size hgh
  have ST : Hid (LoS w.heap.size gh (Mn.nn m) H (Mn.lowTo H q 0) (.slice none 0 0) w w5) := by
    refine ⟨World.ownsRow_nil _ _ _ _, by rw [hH]; exact hhd, ?_, S4.out.old.trans (hb.mono S4.out.old.size)⟩
    intro e
    simp [Value.ownBlock] at e
  have HHE := Lib.hid hH
  obtain ⟨hnn, hn1, hn2, hwn⟩ := HR.out.nn
  clear hb hhd hgh hH hnn hwn S3 S4 T4
  go_wp2_with fail
  go_loopw [11, 36] (fun ov kv wr => ∃ (k : Nat), k ≤ Mn.nn m ∧ kv = .int .i64 k ∧ Hid (LoS w.heap.size gh (Mn.nn m) H (Mn.lowTo H q k) ov w wr)) (fun _ kv _ => Mn.nn m - (intOf kv).toNat)
  case atStart => exact ⟨0, Nat.zero_le _, rfl, ST⟩
  case round =>
    obtain ⟨k, hk, rfl, hS⟩ := hrel
    clear ST
    obtain ⟨av, cv, rfl⟩ := lo_shape hS.out
    by_cases hlt : k < Mn.nn m
    · have hltz : (k : Int) < (Mn.nn m : Int) := by omega
      have c0 := hS.out.hd.cell hlt
      have hlen : (Mn.lowTo H q k).length ≤ k := Mn.lowTo_len H q k
      by_cases hq : H k < q
      · have HE : Hid (Mn.lowTo H q (k + 1) = Mn.lowTo H q k ++ [k]) := by show _ = _; simp only [Mn.lowTo, hq, if_true]
        have zw : w.heap.size ≤ wr.heap.size := hS.out.old.size
        have zg : gh < wr.heap.size := hS.out.hd.lt
        go_wp2_with (at_builtin; refine wpList_append_lies _ rfl _ _ 25 rfl w.heap.size 2 i1 (.int .i64 0) 1 8 Tryz.underlying25 hi1 hy0 hy1 hy2 rfl (by decide) _ _ _ rfl (hS.out.own.alloc _) ⟨wr.heap.size, 0, none⟩ 1 1 [.int .i64 (k : Int)] rfl rfl ?a1 ?a2 ?a3 ?a4 ?a5 ?a6 (wr.heap.size + 1) ?a7 ?_)
        try (case a1 => exact lit_cells _ _ rfl _ _)
        try (case a2 => first | rfl | (intro u hu; simp at hu; subst hu; rfl))
        try (case a3 => omega)
        try (case a4 => (unfold maxLen; omega))
        try (case a5 => omega)
        try (case a6 => first | omega | (simp; omega))
        try (case a7 => simp)
        intro g cap W3 hown hgrow hat hlt3
        have S3 : Hid (LoS w.heap.size gh (Mn.nn m) H (Mn.lowTo H q (k + 1)) (.slice (some ⟨g, 0, none⟩) ((Mn.lowTo H q k).length + 1) cap) w W3) := by
          show LoS _ _ _ _ _ _ _ _
          rw [HE.out]
          exact hS.out.app (Nat.le_refl _) hown hgrow hat
        clear hown hgrow hat hlt3 hS
        go_wp2_with fail
        go_roundw
        case rel => exact ⟨k + 1, by omega, by go_num, S3⟩
        case measure => simp [intOf]; omega
      · have HE : Hid (Mn.lowTo H q (k + 1) = Mn.lowTo H q k) := by show _ = _; simp only [Mn.lowTo, hq, if_false]
        go_wp2_with fail
        go_roundw
        case rel => exact ⟨k + 1, by omega, by go_num, by rw [HE.out]; exact hS.out⟩
        case measure => simp [intOf]; omega
    · have hkz : ¬ (k : Int) < (Mn.nn m : Int) := by omega
      have HL : Hid (Mn.Low m m.pn f q (Mn.lowTo H q k)) := by
        show Mn.Low _ _ _ _ _
        rw [show k = Mn.nn m by omega, HHE.out]
        exact .ok ⟨H1.out, HR.out, rfl, HO.out, HST.out⟩
      have OW : Hid (OwL 2 w.heap.size (Mn.lowTo H q k).length av cv (natI (Mn.lowTo H q k)) wr) := owl_nat hS.out.own
      go_wp2_with fail
      refine bodyPost_ret (v := .slice av (Mn.lowTo H q k).length cv) ?_ rfl ⟨⟨_, HL.out, _, _, rfl, OW.out⟩, hS.out.old⟩
      simp [results, Tryz.results15]
end Go.Proofs.YtfgmalnkpgloiaaGreatDoor
namespace Go.Proofs.YtfgmalnkpgloiaaGreatDoor
open Go.RowKit

set_option maxRecDepth 100000 in
set_option maxHeartbeats 1000000 in
theorem lwAt_any (a : Option Addr) (len cap : Nat) (at_ most : Int) (w : World) (h : Bytes a len w) (hl : len ≤ 4194304) (h0 : 0 ≤ at_) (h1 : at_ ≤ 1000) (hm : most ≤ 9223372036854775807) :
    Calls Tryz.prog 14 #[.slice a len cap, .int .i64 at_, .int .i64 most] w fun e w' => (∃ v, e = .returned (.int .i64 v) ∧ 0 ≤ v ∧ v ≤ 255 ∧ (1 ≤ most → v < most)) ∧ w' = w := by
  by_cases hm1 : most ≤ 1
  · go_enter Tryz.func14, Tryz.ntmps14
    go_wp2_with fail
    go_ret
    exact ⟨⟨0, rfl, by omega, by omega, by omega⟩, rfl⟩
  · by_cases hl0 : len = 0
    · have e0 : ((len : Int) == 0) = true := by simp [hl0]
      subst hl0
      go_enter Tryz.func14, Tryz.ntmps14
      go_wp2_with fail
      go_ret
      exact ⟨⟨0, rfl, by omega, by omega, by omega⟩, rfl⟩
    · have e0 : ((len : Int) == 0) = false := by simp; omega
      have hpos : (0 : Int) < (len : Int) := by omega
      have r0 : 0 ≤ at_ % (len : Int) := Int.emod_nonneg _ (by omega)
      have r1 : at_ % (len : Int) < (len : Int) := Int.emod_lt_of_pos _ hpos
      obtain ⟨cb, co, z, rfl, hc, z0, z1⟩ := h (at_ % (len : Int)).toNat (by omega)
      have HM : Hid (0 ≤ z % most ∧ z % most ≤ 255 ∧ z % most < most) := ⟨Int.emod_nonneg _ (by omega), by
        have : z % most ≤ z := by
          rcases Int.lt_or_le z most with hz | hz
          · rw [Int.emod_eq_of_lt z0 hz]; omega
          · have := Int.emod_lt_of_pos z (show 0 < most by omega); omega
        omega, Int.emod_lt_of_pos _ (by omega)⟩
      clear h
      have mz : (most == 0) = false := by simp; omega
      go_enter Tryz.func14, Tryz.ntmps14
      go_wp2_with fail
      go_ret
      exact ⟨⟨_, rfl, HM.out.1, HM.out.2.1, fun _ => HM.out.2.2⟩, rfl⟩

/-- The same number in every later world. -/
theorem lwAt_val (a : Option Addr) (len cap : Nat) (at_ most : Int) (w : World) (h : Bytes a len w) (hl : len ≤ 4194304) (h0 : 0 ≤ at_) (h1 : at_ ≤ 1000) (hm1 : 1 < most) (hm : most ≤ 9223372036854775807) :
    ∃ v, 0 ≤ v ∧ v ≤ 255 ∧ v < most ∧ ∀ wx, Below w.heap.size w wx → Calls Tryz.prog 14 #[.slice a len cap, .int .i64 at_, .int .i64 most] wx fun e w' => e = .returned (.int .i64 v) ∧ w' = wx := by
  have hmn : ¬ most ≤ 1 := by omega
  by_cases hl0 : len = 0
  · refine ⟨0, by omega, by omega, by omega, fun wx _ => ?_⟩
    have e0 : ((len : Int) == 0) = true := by simp [hl0]
    subst hl0
    go_enter Tryz.func14, Tryz.ntmps14
    go_wp2_with fail
    go_ret
    exact ⟨rfl, rfl⟩
  · have e0 : ((len : Int) == 0) = false := by simp; omega
    have hpos : (0 : Int) < (len : Int) := by omega
    have r0 : 0 ≤ at_ % (len : Int) := Int.emod_nonneg _ (by omega)
    have r1 : at_ % (len : Int) < (len : Int) := Int.emod_lt_of_pos _ hpos
    obtain ⟨cb, co, z, rfl, hc, z0, z1⟩ := h (at_ % (len : Int)).toNat (by omega)
    have hlt : z % most < most := Int.emod_lt_of_pos _ (by omega)
    refine ⟨z % most, Int.emod_nonneg _ (by omega), ?_, hlt, fun wx hb => ?_⟩
    · rcases Int.lt_or_le z most with hz | hz
      · rw [Int.emod_eq_of_lt z0 hz]; omega
      · omega
    have hc2 := (hb.cell (World.block_lt_of_cell? _ _ hc)).trans hc
    have mz : (most == 0) = false := by simp; omega
    clear h hc hb hlt
    go_enter Tryz.func14, Tryz.ntmps14
    go_wp2_with fail
    go_ret
    exact ⟨rfl, rfl⟩
end Go.Proofs.YtfgmalnkpgloiaaGreatDoor
