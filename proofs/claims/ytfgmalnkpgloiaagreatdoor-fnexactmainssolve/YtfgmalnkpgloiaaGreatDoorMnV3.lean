/-
  Rounds: the model's walk.
-/
import Derived.Test.YtfgmalnkpgloiaaGreatDoorMnV2
namespace Go.Proofs.YtfgmalnkpgloiaaGreatDoor
open Go.RowKit Go.Deep

/-- What a round tells. -/
inductive RdEnd (m : Mn.Mains) (xn : Nat) (f : Nat → Int) (B : Nat) (e : Ending) (W : World) : Prop
  | size : 400 < xn → e = .returned (moV none 0 0 none 0 0 0 0 0 2) → RdEnd m xn f B e W
  | form : xn ≤ 400 → ¬ (Mn.Right m ∧ xn = m.pn ∧ Mn.AllOk m f) → e = .returned (moV none 0 0 none 0 0 0 0 0 1) → RdEnd m xn f B e W
  | ok (a : Option Addr) (c : Nat) : xn ≤ 400 → Mn.Right m → xn = m.pn → Mn.AllOk m f → e = .returned (moV a m.pn c none 0 0 (Mn.rest m (Mn.round m f)) 0 0 0) → OwL 2 B m.pn a c (Mn.round m f) W → RdEnd m xn f B e W
/-- What stands from round to round. -/
structure RdS (m : Mn.Mains) (g : Nat) (F : Nat → Int) (w W : World) : Prop where
  now : IsBlk 2 g m.pn F W
  b : Below w.heap.size w W
theorem RdS.below {m : Mn.Mains} {g : Nat} {F : Nat → Int} {w W W' : World} (h : RdS m g F w W) (hb : Below W.heap.size W W') : RdS m g F w W' := ⟨h.now.below hb, h.b.trans (hb.mono h.b.size)⟩
set_option maxRecDepth 100000 in
set_option maxHeartbeats 16000000 in
theorem sround_any (m : Mn.Mains) (pa : Option Addr) (pk : Nat) (la : Option Addr) (lk : Nat) (wa : Option Addr) (wk : Nat) (xb xn xc : Nat) (f : Nat → Int) (w : World) (h : MnAt m pa la wa w) (hx : ∀ i, i < xn → w.cell? ⟨xb, i, none⟩ = some (.int .i64 (f i))) (hs : MnSmall m) (hxn : xn ≤ 1048576) :
    Calls Tryz.prog 18 #[mnV m pa pk la lk wa wk, .slice (some ⟨xb, 0, none⟩) xn xc] w fun e w' => RdEnd m xn f w.heap.size e w' ∧ Below w.heap.size w w' := by
  obtain ⟨i0, hi, hzz, hz1, hz2⟩ := info_parts minfo_i64
  obtain ⟨W0, hW0⟩ : ∃ W0, W0 = (w.alloc (.cells #[.int .i64 m.nodes, .int .i64 m.head, .slice pa m.pn pk, .slice la m.ln lk, .slice wa m.wn wk] 27)).alloc (.cells #[.slice none 0 0, .slice none 0 0, .int .i64 0, .int .i64 0, .int .i64 0, .int .i64 0] 31) := ⟨_, rfl⟩
  have S0 : Hid (MsS m pa pk la lk wa wk w W0) := by
    show MsS _ _ _ _ _ _ _ _ _
    rw [hW0]
    exact ⟨nrow_below (rowN_alloc w _ _) (nbel_alloc _ _), rowN_alloc' (by simp) _ _, (h.below (nbel_alloc _ _)).below (nbel_alloc _ _), mbel2 _ _ _⟩
  have HW0 := Lib.hid hW0
  have HS := Lib.hid hs
  have HX : Hid (∀ V, Below w.heap.size w V → ∀ i, i < xn → V.cell? ⟨xb, i, none⟩ = some (.int .i64 (f i))) := fun V hV i hi => (hV.cell (World.block_lt_of_cell? _ _ (hx i hi))).trans (hx i hi)
  clear h hW0 hs hx
  by_cases h400 : 400 < xn
  · have h4z : (400 : Int) < (xn : Int) := by omega
    have H4 := Lib.hid h400
    clear h400
    have D : Hid ((set6 W0 (w.heap.size + 1) (.slice none 0 0) (.slice none 0 0) (.int .i64 0) (.int .i64 0) (.int .i64 0) (.int .i64 2)).rowIs (w.heap.size + 1) 31 6 (rowN [.slice none 0 0, .slice none 0 0, .int .i64 0, .int .i64 0, .int .i64 0, .int .i64 2]) ∧ Below w.heap.size w (set6 W0 (w.heap.size + 1) (.slice none 0 0) (.slice none 0 0) (.int .i64 0) (.int .i64 0) (.int .i64 0) (.int .i64 2))) := by
      have := set6_done S0.out.res rfl S0.out.old (by omega) (.slice none 0 0) (.slice none 0 0) (.int .i64 0) (.int .i64 0) (.int .i64 0) (.int .i64 2)
      exact ⟨this.1, this.2.1⟩
    go_enter Tryz.func18, Tryz.ntmps18
    go_wp2_with fail
    refine bodyPost_ret (v := moV none 0 0 none 0 0 0 0 0 2) ?_ rfl ⟨RdEnd.size H4.out rfl, ?_⟩
    · simp [results, Tryz.results18, go_sem]
    · exact mbel2 _ _ _
  have h4z : ¬ (400 : Int) < (xn : Int) := by omega
  have H4 : Hid (xn ≤ 400) := by show _ ≤ _; omega
  clear h400
  go_enter Tryz.func18, Tryz.ntmps18
  go_wp2_with fail
  rw [← HW0.out]
  refine (specMains_any m pa pk la lk wa wk _ S0.out.at_ HS.out).mono ?_
  rintro e w1 ⟨⟨b1, rfl, hb1⟩, hb⟩
  have S1 := Lib.hid (S0.out.below hb)
  have K1 := Lib.hid hb1
  clear hb hb1 S0
  cases b1 with
  | false =>
    have HNR : Hid (¬ (Mn.Right m ∧ xn = m.pn ∧ Mn.AllOk m f)) := fun k => by have := K1.out.2 k.1; cases this
    clear K1
    have D := Lib.hid (set6_done S1.out.res rfl S1.out.old (by omega) (.slice none 0 0) (.slice none 0 0) (.int .i64 0) (.int .i64 0) (.int .i64 0) (.int .i64 1))
    obtain ⟨⟨x0, x1, x2, x3, x4, x5⟩, z0, z1, z2, z3, z4, z5⟩ := rowN6 S1.out.res
    have lx := S1.out.res.lt
    go_wp2_with fail
    obtain ⟨⟨q0, q1, q2, q3, q4, q5⟩, _⟩ := rowN6 D.out.1
    unfold set6 at q0 q1 q2 q3 q4 q5
    refine bodyPost_ret (v := moV none 0 0 none 0 0 0 0 0 1) ?_ rfl ⟨RdEnd.form H4.out HNR.out rfl, D.out.2.1⟩
    simp only [results, Tryz.results18]
    simp [go_sem, q0, q1, q2, q3, q4, q5]
  | true =>
  have HR := Lib.hid (K1.out.1 (by trivial))
  clear K1
  obtain ⟨⟨r0, r1, r2, r3, r4⟩, _⟩ := rowN5 S1.out.row
  by_cases hxp : xn = m.pn
  case neg =>
    have hxz : ((xn : Int) != (m.pn : Int)) = true := by simp; omega
    have HNR : Hid (¬ (Mn.Right m ∧ xn = m.pn ∧ Mn.AllOk m f)) := fun k => hxp k.2.1
    clear hxp
    have D := Lib.hid (set6_done S1.out.res rfl S1.out.old (by omega) (.slice none 0 0) (.slice none 0 0) (.int .i64 0) (.int .i64 0) (.int .i64 0) (.int .i64 1))
    obtain ⟨⟨x0, x1, x2, x3, x4, x5⟩, z0, z1, z2, z3, z4, z5⟩ := rowN6 S1.out.res
    have lx := S1.out.res.lt
    go_wp2_with fail
    obtain ⟨⟨q0, q1, q2, q3, q4, q5⟩, _⟩ := rowN6 D.out.1
    unfold set6 at q0 q1 q2 q3 q4 q5
    refine bodyPost_ret (v := moV none 0 0 none 0 0 0 0 0 1) ?_ rfl ⟨RdEnd.form H4.out HNR.out rfl, D.out.2.1⟩
    simp only [results, Tryz.results18]
    simp [go_sem, q0, q1, q2, q3, q4, q5]
  case pos =>
  subst hxp
  have hxz : ((m.pn : Int) != (m.pn : Int)) = false := by simp
  go_wp2_with fail
  refine (swrong_any m pa pk la lk wa wk (some ⟨xb, 0, none⟩) xc f _ S1.out.at_ (Or.inr ⟨xb, rfl, HX.out _ S1.out.old⟩) HR.out).mono ?_
  rintro e w2 ⟨⟨z, rfl, hwr⟩, hb⟩
  have HWR := Lib.hid hwr
  obtain ⟨hzb1, hzb2⟩ := hwr.pos HR.out.pn
  have S2 := Lib.hid (S1.out.below hb)
  clear hwr hb S1 r0 r1 r2 r3 r4 hxz
  by_cases hz0 : 0 ≤ z
  · have HNR : Hid (¬ Mn.AllOk m f) := fun k => by
      rcases HWR.out with ⟨i, h1, _, h3, _⟩ | ⟨h1, _⟩
      · exact h3 (k i h1)
      · omega
    have D := Lib.hid (set6_done S2.out.res rfl S2.out.old (by omega) (.slice none 0 0) (.slice none 0 0) (.int .i64 0) (.int .i64 0) (.int .i64 0) (.int .i64 1))
    obtain ⟨⟨x0, x1, x2, x3, x4, x5⟩, z0, z1, z2, z3, z4, z5⟩ := rowN6 S2.out.res
    have lx := S2.out.res.lt
    go_wp2_with fail
    obtain ⟨⟨q0, q1, q2, q3, q4, q5⟩, _⟩ := rowN6 D.out.1
    unfold set6 at q0 q1 q2 q3 q4 q5
    refine bodyPost_ret (v := moV none 0 0 none 0 0 0 0 0 1) ?_ rfl ⟨RdEnd.form H4.out (fun k => HNR.out k.2.2) rfl, D.out.2.1⟩
    simp only [results, Tryz.results18]
    simp [go_sem, q0, q1, q2, q3, q4, q5]
  have HO : Hid (Mn.AllOk m f) := by
    rcases HWR.out with ⟨i, _, h2, _⟩ | ⟨_, h2⟩
    · omega
    · exact h2
  have hpn := HR.out.pn
  have hln := HR.out.ln
  have HXC : Hid (∀ j, j < m.pn → w2.cell? ⟨xb, j, none⟩ = some (.int .i64 (f j))) := HX.out _ S2.out.old
  clear HWR hzb1 hzb2
  go_wp2_with (at_builtin; refine wpList_append_own _ rfl _ _ 25 rfl w2.heap.size 2 i0 (.int .i64 0) 1 8 Tryz.underlying25 hi hzz hz1 hz2 rfl (by decide) _ _ _ rfl (World.ownsRow_made w2 #[] 0 (Nat.le_refl _) (Nat.zero_le _) rfl) ⟨xb, 0, none⟩ m.pn xc (isV f m.pn) rfl ?qc1 ?qc2 ?qc3 ?qc4 ?qc5 ?qc6 ?_)
  case qc1 => simp [isV_len]
  case qc2 =>
    intro j u hj
    have hjn : j < m.pn := by
      have := (List.getElem?_eq_some_iff.1 hj).1
      simpa [isV_len] using this
    rw [Addr.add_lit]
    refine Lib.cell?_alloc_some _ ?_
    rw [Nat.zero_add, HXC.out j hjn, ← hj, isV_get f m.pn hjn]
  case qc3 =>
    intro u hu
    unfold isV at hu
    obtain ⟨x, _, rfl⟩ := List.mem_map.1 hu
    rfl
  case qc4 => unfold maxLen; omega
  case qc5 => omega
  case qc6 => simp
  intro v' w3 hown hgrow hnil
  have HB : Hid (Below w2.heap.size w2 w3) := ((Below.refl _ _).alloc (Nat.le_refl _) _).grown hgrow (by simp) (by intro k hk; simp [Value.ownBlock] at hk; omega)
  have hown' : w3.ownsRow w2.heap.size 2 1 v' m.pn (isV f m.pn) := by simpa using hown
  obtain ⟨a2, nc, rfl, ho2⟩ := owl_of hown'
  have ST : Hid (OwL 2 w2.heap.size m.pn a2 nc (Mn.roundTo m f 0) w3 ∧ Below w2.heap.size w2 w3) := ⟨ho2, HB.out⟩
  clear hown hown' hgrow hnil HB ho2 HXC
  go_wp2_with fail
  go_loopw [6] (fun iv wr => ∃ (i : Nat), i ≤ m.ln ∧ iv = .int .i64 i ∧ Hid (OwL 2 w2.heap.size m.pn a2 nc (Mn.roundTo m f i) wr ∧ Below w2.heap.size w2 wr)) (fun iv _ => m.ln - (intOf iv).toNat)
  case atStart => exact ⟨0, Nat.zero_le _, rfl, ST⟩
  case round =>
    obtain ⟨i, hil, rfl, hS⟩ := hrel
    clear ST
    have SW := Lib.hid (S2.out.below hS.out.2)
    obtain ⟨⟨r0, r1, r2, r3, r4⟩, _⟩ := rowN5 SW.out.row
    by_cases hlt : i < m.ln
    · have hltz : (i : Int) < (m.ln : Int) := by omega
      have LO := Lib.hid (HR.out.l i hlt)
      have hp0 : 0 < m.pn := by have := (LO.out.num 0 LO.out.n1).lt; omega
      obtain ⟨g, rfl, hg, hnow⟩ := hS.out.1.pos hp0
      obtain ⟨F, hF⟩ : ∃ F, F = Mn.roundTo m f i := ⟨_, rfl⟩
      have HF := Lib.hid hF
      have S3 : Hid (RdS m g F w2 wr) := ⟨by rw [hF]; exact hnow, hS.out.2⟩
      have HOF : Hid (Mn.AllOk m F) := by show Mn.AllOk _ _; rw [hF]; exact Mn.roundTo_ok HR.out HO.out i hil
      obtain ⟨lb, e, xa, xc2, dl, kx⟩ := SW.out.at_.l.one hlt
      subst e
      have KX : Hid (∀ V, Below w2.heap.size w2 V → IsAt xa (m.LN i) (m.L i) V) := by
        obtain ⟨lb', e', xa', xc', dl', kx'⟩ := S2.out.at_.l.one hlt
        cases e'
        have := (hS.out.2.cell (World.block_lt_of_cell? _ _ dl')).trans dl'
        rw [this] at dl
        cases dl
        exact fun V hV => kx'.below hV
      have HSS := Lib.hid (sum_small HR.out HOF.out hlt)
      clear kx hnow hF hS
      go_wp2_with fail
      clear dl
      refine (ssum_any m pa pk _ lk wa wk (some ⟨g, 0, none⟩) nc F xa (m.LN i) xc2 (m.L i) _ SW.out.at_ S3.out.now.at_ (KX.out _ S3.out.b) HR.out HOF.out LO.out.num LO.out.n2).mono ?_
      rintro e w4 ⟨rfl, hb⟩
      have S4 := Lib.hid (S3.out.below hb)
      clear hb S3 SW r0 r1 r2 r3 r4
      obtain ⟨n, hn⟩ : ∃ n, n = m.LN i := ⟨_, rfl⟩
      obtain ⟨L, hL⟩ : ∃ L, L = m.L i := ⟨_, rfl⟩
      rw [← hn, ← hL] at LO HSS KX ⊢
      have HNL : Hid (n = m.LN i ∧ L = m.L i) := ⟨hn, hL⟩
      obtain ⟨SU, hSU⟩ : ∃ SU, SU = Mn.sumTo m F L n := ⟨_, rfl⟩
      obtain ⟨WT, hWT⟩ : ∃ WT, WT = Mn.wtTo m F L n := ⟨_, rfl⟩
      rw [← hSU, ← hWT] at HSS ⊢
      have HSW : Hid (SU = Mn.sumTo m F L n ∧ WT = Mn.wtTo m F L n) := ⟨hSU, hWT⟩
      have ss := HSS.out
      obtain ⟨⟨ss1, ss2⟩, ss3, ss4⟩ := ss
      have hn40 : n ≤ 40 := LO.out.n2
      clear hn hL hSU hWT
      by_cases hw0 : WT = 0
      · have hw0' : (WT == 0) = true := by simp [hw0]
        have HRT : Hid (Mn.roundTo m f (i + 1) = F) := by
          show Mn.loopR m (Mn.roundTo m f i) (m.L i) (m.LN i) = F
          rw [← HF.out, ← HNL.out.1, ← HNL.out.2]
          unfold Mn.loopR Mn.chg
          rw [← HSW.out.2, if_pos hw0, Mn.ap_zero]
        clear hw0
        go_wp2_with fail
        go_roundw
        case rel => exact ⟨i + 1, by omega, by go_num, by rw [HRT.out]; exact Or.inr ⟨g, rfl, hg, S4.out.now⟩, S4.out.b⟩
        case measure => simp [intOf]; omega
      · have hw0' : (WT == 0) = false := by simp [hw0]
        have hw0n : ¬ WT = 0 := hw0
        obtain ⟨c0, hc0⟩ : ∃ c0, c0 = (-SU).tdiv WT := ⟨_, rfl⟩
        have hcb : -50000000000000000 ≤ c0 ∧ c0 ≤ 50000000000000000 := by
          have h1 := Int.natAbs_tdiv_le_natAbs (-SU) WT
          rw [← hc0] at h1
          omega
        have HC0 : Hid ((-SU).tdiv WT = c0) := hc0.symm
        have HRT : Hid (Mn.roundTo m f (i + 1) = Mn.apTo L (Mn.chTo m F L c0 n) F n) := by
          show Mn.loopR m (Mn.roundTo m f i) (m.L i) (m.LN i) = _
          rw [← HF.out, ← HNL.out.1, ← HNL.out.2]
          unfold Mn.loopR Mn.chg
          rw [← HSW.out.2, if_neg hw0n, ← HSW.out.1, HC0.out]
        clear hw0 hc0
        have hq1 : (-SU).tdiv WT = c0 := HC0.out
        go_wp2_with fail
        clear hq1
        go_loopw [10, 11] (fun cv kv wq => ∃ (k : Nat), k ≤ n ∧ cv = .int .i64 (Mn.chTo m F L c0 k) ∧ kv = .int .i64 k ∧ Hid (RdS m g F w2 wq)) (fun _ kv _ => n - (intOf kv).toNat)
        case atStart => exact ⟨0, Nat.zero_le _, rfl, rfl, S4⟩
        case round =>
          obtain ⟨k, hk, rfl, rfl, S5⟩ := hrel
          clear S4
          by_cases hlt2 : k < n
          · have hltz2 : (k : Int) < (n : Int) := by omega
            obtain ⟨xb2, e, dx⟩ := (KX.out _ S5.out.b).at1 hlt2
            subst e
            have nk := LO.out.num k hlt2
            obtain ⟨pp, hpe⟩ : ∃ pp, pp = Mn.place (L k) := ⟨_, rfl⟩
            have hpp : pp < m.pn := by rw [hpe]; exact nk.lt
            have hppz : ((pp : Nat) : Int) < (m.pn : Int) := by omega
            have HPP := Lib.hid (HR.out.p pp hpp)
            have fbd := Mn.okF_bd HPP.out (HOF.out pp hpp)
            have lh := Mn.lohi HPP.out
            have HQ1 : Hid (IntKind.i64.wrap (Mn.hi m pp - F pp) = Mn.hi m pp - F pp) := mwrap_id (by omega) (by omega)
            have HQ2 : Hid (IntKind.i64.wrap (Mn.lo m pp - F pp) = Mn.lo m pp - F pp) := mwrap_id (by omega) (by omega)
            have HQ3 : Hid (IntKind.i64.wrap (F pp - Mn.lo m pp) = F pp - Mn.lo m pp) := mwrap_id (by omega) (by omega)
            have HQ4 : Hid (IntKind.i64.wrap (F pp - Mn.hi m pp) = F pp - Mn.hi m pp) := mwrap_id (by omega) (by omega)
            obtain ⟨CV, hCV⟩ : ∃ CV, CV = Mn.chTo m F L c0 k := ⟨_, rfl⟩
            have HCH : Hid (Mn.chTo m F L c0 (k + 1) = Mn.clampI CV (Mn.loK m F (L k)) (Mn.hiK m F (L k))) := by show _ = _; rw [hCV]; rfl
            rw [← hCV]
            have SV := Lib.hid (S2.out.below S5.out.b)
            obtain ⟨⟨r0, r1, r2, r3, r4⟩, _⟩ := rowN5 SV.out.row
            obtain ⟨pb, ep, d0, d1, d2, d3, d4⟩ := SV.out.at_.p.at5 hpp
            subst ep
            have NK := Lib.hid nk
            have HPE := Lib.hid hpe
            have HPN := Lib.hid hpn
            clear fbd lh nk hpe hCV
            go_wp2_with fail
            refine (splace_any (L k) _ NK.out.1 (by have := NK.out.2; have := HPN.out; omega) (by have := NK.out.2; have := HPN.out; omega)).mono ?_
            rintro e w3 ⟨rfl, e3⟩
            subst w3
            rw [← HPE.out]
            go_wp2_with fail
            refine (srange_any m pp HPP.out _).mono ?_
            rintro e w4 ⟨rfl, hb⟩
            have S8 := Lib.hid (S5.out.below hb)
            have DN : Hid (w4.cell? ⟨g, pp, none⟩ = some (.int .i64 (F pp))) := S8.out.now.cell hpp
            clear hb S5 SV r0 r1 r2 r3 r4 d0 d1 d2 d3 d4 dx
            obtain ⟨xb3, e3, dx⟩ := (KX.out _ S8.out.b).at1 hlt2
            cases e3
            by_cases hzp : 0 < L k
            · have HKE : Hid (Mn.chTo m F L c0 (k + 1) = max (min CV (Mn.hi m pp - F pp)) (Mn.lo m pp - F pp)) := by
                show _ = _
                rw [HCH.out, HPE.out]
                unfold Mn.clampI Mn.loK Mn.hiK
                rw [if_neg (by omega), if_neg (by omega)]
              go_wp2_with fail
              clear dx
              refine wp_region_held_drew (S := fun V => Below w4.heap.size w4 V) (by kernel_rfl) (Below.refl _ _).drew (fun hHeld => ?_)
              obtain ⟨Z, hZ⟩ : ∃ Z, Z = w4.drew := ⟨_, rfl⟩
              rw [← hZ] at hHeld ⊢
              clear hZ
              refine take_do (i := 0) (v := (.int .i64 CV)) rfl (by kernel_rfl) (by kernel_rfl) (by kernel_rfl) (fun _ _ _ h => h) (by rfl) ?_ (by assumption) ?_
              · intro w hSw
                skip
                go_simp
              simp only [Act.put, List.setIfInBounds_toArray, List.set_cons_zero, List.set_cons_succ]
              refine take_do (i := 1) (v := (.int .i64 (Mn.hi m pp))) rfl (by kernel_rfl) (by kernel_rfl) (by kernel_rfl) (fun _ _ _ h => h) (by rfl) ?_ (by assumption) ?_
              · intro w hSw
                skip
                go_simp
              simp only [Act.put, List.setIfInBounds_toArray, List.set_cons_zero, List.set_cons_succ]
              refine take_do (i := 2) (v := (.slice (some ⟨g, 0, none⟩) m.pn nc)) rfl (by kernel_rfl) (by kernel_rfl) (by kernel_rfl) (fun _ _ _ h => h) (by rfl) ?_ (by assumption) ?_
              · intro w hSw
                skip
                go_simp
              simp only [Act.put, List.setIfInBounds_toArray, List.set_cons_zero, List.set_cons_succ]
              refine take_do (i := 3) (v := (.int .i64 ((pp : Nat) : Int))) rfl (by kernel_rfl) (by kernel_rfl) (by kernel_rfl) (fun _ _ _ h => h) (by rfl) ?_ (by assumption) ?_
              · intro w hSw
                skip
                go_simp
              simp only [Act.put, List.setIfInBounds_toArray, List.set_cons_zero, List.set_cons_succ]
              refine take_do (i := 4) (v := (.pointer (some ⟨g, pp, none⟩))) rfl (by kernel_rfl) (by kernel_rfl) (by kernel_rfl) (fun _ _ _ h => h) (by rfl) ?_ (by assumption) ?_
              · intro w hSw
                skip
                go_simp
              simp only [Act.put, List.setIfInBounds_toArray, List.set_cons_zero, List.set_cons_succ]
              refine take_do (i := 5) (v := (.int .i64 (F pp))) rfl (by kernel_rfl) (by kernel_rfl) (by kernel_rfl) (fun _ _ _ h => h) (by rfl) ?_ (by assumption) ?_
              · intro w hSw
                have dn := (hSw.cell (World.block_lt_of_cell? _ _ DN.out)).trans DN.out
                go_simp
              simp only [Act.put, List.setIfInBounds_toArray, List.set_cons_zero, List.set_cons_succ]
              refine take_do (i := 6) (v := (.int .i64 (Mn.hi m pp - F pp))) rfl (by kernel_rfl) (by kernel_rfl) (by kernel_rfl) (fun _ _ _ h => h) (by rfl) ?_ (by assumption) ?_
              · intro w hSw
                have hq := HQ1.out
                go_simp
              simp only [Act.put, List.setIfInBounds_toArray, List.set_cons_zero, List.set_cons_succ]
              refine take_do (i := 8) (v := (.int .i64 (Mn.lo m pp))) rfl (by kernel_rfl) (by kernel_rfl) (by kernel_rfl) (fun _ _ _ h => h) (by rfl) ?_ (by assumption) ?_
              · intro w hSw
                skip
                go_simp
              simp only [Act.put, List.setIfInBounds_toArray, List.set_cons_zero, List.set_cons_succ]
              refine take_do (i := 9) (v := (.slice (some ⟨g, 0, none⟩) m.pn nc)) rfl (by kernel_rfl) (by kernel_rfl) (by kernel_rfl) (fun _ _ _ h => h) (by rfl) ?_ (by assumption) ?_
              · intro w hSw
                skip
                go_simp
              simp only [Act.put, List.setIfInBounds_toArray, List.set_cons_zero, List.set_cons_succ]
              refine take_do (i := 10) (v := (.int .i64 ((pp : Nat) : Int))) rfl (by kernel_rfl) (by kernel_rfl) (by kernel_rfl) (fun _ _ _ h => h) (by rfl) ?_ (by assumption) ?_
              · intro w hSw
                skip
                go_simp
              simp only [Act.put, List.setIfInBounds_toArray, List.set_cons_zero, List.set_cons_succ]
              refine take_do (i := 11) (v := (.pointer (some ⟨g, pp, none⟩))) rfl (by kernel_rfl) (by kernel_rfl) (by kernel_rfl) (fun _ _ _ h => h) (by rfl) ?_ (by assumption) ?_
              · intro w hSw
                skip
                go_simp
              simp only [Act.put, List.setIfInBounds_toArray, List.set_cons_zero, List.set_cons_succ]
              refine take_do (i := 12) (v := (.int .i64 (F pp))) rfl (by kernel_rfl) (by kernel_rfl) (by kernel_rfl) (fun _ _ _ h => h) (by rfl) ?_ (by assumption) ?_
              · intro w hSw
                have dn := (hSw.cell (World.block_lt_of_cell? _ _ DN.out)).trans DN.out
                go_simp
              simp only [Act.put, List.setIfInBounds_toArray, List.set_cons_zero, List.set_cons_succ]
              refine take_do (i := 13) (v := (.int .i64 (Mn.lo m pp - F pp))) rfl (by kernel_rfl) (by kernel_rfl) (by kernel_rfl) (fun _ _ _ h => h) (by rfl) ?_ (by assumption) ?_
              · intro w hSw
                have hq := HQ2.out
                go_simp
              simp only [Act.put, List.setIfInBounds_toArray, List.set_cons_zero, List.set_cons_succ]
              refine take_call (i := 7) rfl (by kernel_rfl) (fun K2 hK => ?_)
              go_simp
              refine (smin_any CV (Mn.hi m pp - F pp) _).mono ?_
              rintro e w5 ⟨rfl, rfl⟩
              go_wp2_with fail
              refine hK.out _ _ hHeld (fun hHeld2 => ?_)
              clear hK hHeld
              have hHeld := hHeld2
              clear hHeld2
              refine take_call (i := 14) rfl (by kernel_rfl) (fun K2 hK => ?_)
              go_simp
              refine (smax_any (min CV (Mn.hi m pp - F pp)) (Mn.lo m pp - F pp) _).mono ?_
              rintro e w6 ⟨rfl, rfl⟩
              go_wp2_with fail
              refine hK.out _ _ hHeld (fun hHeld2 => ?_)
              clear hK hHeld
              have hHeld := hHeld2
              clear hHeld2
              refine take_do (i := 15) (v := (.int .i64 (max (min CV (Mn.hi m pp - F pp)) (Mn.lo m pp - F pp)))) rfl (by kernel_rfl) (by kernel_rfl) (by kernel_rfl) (fun _ _ _ h => h) (by rfl) ?_ (by assumption) ?_
              · intro w hSw
                skip
                go_simp
              simp only [Act.put, List.setIfInBounds_toArray, List.set_cons_zero, List.set_cons_succ]
              refine wpAnyH_done (by kernel_rfl) ?_ _
              have S9 := Lib.hid (S8.out.below hHeld)
              clear hHeld
              obtain ⟨C2, hC2⟩ : ∃ C2, C2 = max (min CV (Mn.hi m pp - F pp)) (Mn.lo m pp - F pp) := ⟨_, rfl⟩
              rw [← hC2] at HKE ⊢
              clear hC2
              go_wp2_with fail
              go_roundw
              case rel => exact ⟨k + 1, by omega, by rw [HKE.out], by go_num, S9⟩
              case measure => simp [intOf]; omega
            · have HKE : Hid (Mn.chTo m F L c0 (k + 1) = max (min CV (F pp - Mn.lo m pp)) (F pp - Mn.hi m pp)) := by
                show _ = _
                have hzn : L k < 0 := by have := NK.out.1; omega
                rw [HCH.out, HPE.out]
                unfold Mn.clampI Mn.loK Mn.hiK
                rw [if_pos hzn, if_pos hzn]
              go_wp2_with fail
              clear dx
              refine wp_region_held_drew (S := fun V => Below w4.heap.size w4 V) (by kernel_rfl) (Below.refl _ _).drew (fun hHeld => ?_)
              obtain ⟨Z, hZ⟩ : ∃ Z, Z = w4.drew := ⟨_, rfl⟩
              rw [← hZ] at hHeld ⊢
              clear hZ
              refine take_do (i := 0) (v := (.int .i64 CV)) rfl (by kernel_rfl) (by kernel_rfl) (by kernel_rfl) (fun _ _ _ h => h) (by rfl) ?_ (by assumption) ?_
              · intro w hSw
                skip
                go_simp
              simp only [Act.put, List.setIfInBounds_toArray, List.set_cons_zero, List.set_cons_succ]
              refine take_do (i := 1) (v := (.slice (some ⟨g, 0, none⟩) m.pn nc)) rfl (by kernel_rfl) (by kernel_rfl) (by kernel_rfl) (fun _ _ _ h => h) (by rfl) ?_ (by assumption) ?_
              · intro w hSw
                skip
                go_simp
              simp only [Act.put, List.setIfInBounds_toArray, List.set_cons_zero, List.set_cons_succ]
              refine take_do (i := 2) (v := (.int .i64 ((pp : Nat) : Int))) rfl (by kernel_rfl) (by kernel_rfl) (by kernel_rfl) (fun _ _ _ h => h) (by rfl) ?_ (by assumption) ?_
              · intro w hSw
                skip
                go_simp
              simp only [Act.put, List.setIfInBounds_toArray, List.set_cons_zero, List.set_cons_succ]
              refine take_do (i := 3) (v := (.pointer (some ⟨g, pp, none⟩))) rfl (by kernel_rfl) (by kernel_rfl) (by kernel_rfl) (fun _ _ _ h => h) (by rfl) ?_ (by assumption) ?_
              · intro w hSw
                skip
                go_simp
              simp only [Act.put, List.setIfInBounds_toArray, List.set_cons_zero, List.set_cons_succ]
              refine take_do (i := 4) (v := (.int .i64 (F pp))) rfl (by kernel_rfl) (by kernel_rfl) (by kernel_rfl) (fun _ _ _ h => h) (by rfl) ?_ (by assumption) ?_
              · intro w hSw
                have dn := (hSw.cell (World.block_lt_of_cell? _ _ DN.out)).trans DN.out
                go_simp
              simp only [Act.put, List.setIfInBounds_toArray, List.set_cons_zero, List.set_cons_succ]
              refine take_do (i := 5) (v := (.int .i64 (Mn.lo m pp))) rfl (by kernel_rfl) (by kernel_rfl) (by kernel_rfl) (fun _ _ _ h => h) (by rfl) ?_ (by assumption) ?_
              · intro w hSw
                skip
                go_simp
              simp only [Act.put, List.setIfInBounds_toArray, List.set_cons_zero, List.set_cons_succ]
              refine take_do (i := 6) (v := (.int .i64 (F pp - Mn.lo m pp))) rfl (by kernel_rfl) (by kernel_rfl) (by kernel_rfl) (fun _ _ _ h => h) (by rfl) ?_ (by assumption) ?_
              · intro w hSw
                have hq := HQ3.out
                go_simp
              simp only [Act.put, List.setIfInBounds_toArray, List.set_cons_zero, List.set_cons_succ]
              refine take_do (i := 8) (v := (.slice (some ⟨g, 0, none⟩) m.pn nc)) rfl (by kernel_rfl) (by kernel_rfl) (by kernel_rfl) (fun _ _ _ h => h) (by rfl) ?_ (by assumption) ?_
              · intro w hSw
                skip
                go_simp
              simp only [Act.put, List.setIfInBounds_toArray, List.set_cons_zero, List.set_cons_succ]
              refine take_do (i := 9) (v := (.int .i64 ((pp : Nat) : Int))) rfl (by kernel_rfl) (by kernel_rfl) (by kernel_rfl) (fun _ _ _ h => h) (by rfl) ?_ (by assumption) ?_
              · intro w hSw
                skip
                go_simp
              simp only [Act.put, List.setIfInBounds_toArray, List.set_cons_zero, List.set_cons_succ]
              refine take_do (i := 10) (v := (.pointer (some ⟨g, pp, none⟩))) rfl (by kernel_rfl) (by kernel_rfl) (by kernel_rfl) (fun _ _ _ h => h) (by rfl) ?_ (by assumption) ?_
              · intro w hSw
                skip
                go_simp
              simp only [Act.put, List.setIfInBounds_toArray, List.set_cons_zero, List.set_cons_succ]
              refine take_do (i := 11) (v := (.int .i64 (F pp))) rfl (by kernel_rfl) (by kernel_rfl) (by kernel_rfl) (fun _ _ _ h => h) (by rfl) ?_ (by assumption) ?_
              · intro w hSw
                have dn := (hSw.cell (World.block_lt_of_cell? _ _ DN.out)).trans DN.out
                go_simp
              simp only [Act.put, List.setIfInBounds_toArray, List.set_cons_zero, List.set_cons_succ]
              refine take_do (i := 12) (v := (.int .i64 (Mn.hi m pp))) rfl (by kernel_rfl) (by kernel_rfl) (by kernel_rfl) (fun _ _ _ h => h) (by rfl) ?_ (by assumption) ?_
              · intro w hSw
                skip
                go_simp
              simp only [Act.put, List.setIfInBounds_toArray, List.set_cons_zero, List.set_cons_succ]
              refine take_do (i := 13) (v := (.int .i64 (F pp - Mn.hi m pp))) rfl (by kernel_rfl) (by kernel_rfl) (by kernel_rfl) (fun _ _ _ h => h) (by rfl) ?_ (by assumption) ?_
              · intro w hSw
                have hq := HQ4.out
                go_simp
              simp only [Act.put, List.setIfInBounds_toArray, List.set_cons_zero, List.set_cons_succ]
              refine take_call (i := 7) rfl (by kernel_rfl) (fun K2 hK => ?_)
              go_simp
              refine (smin_any CV (F pp - Mn.lo m pp) _).mono ?_
              rintro e w5 ⟨rfl, rfl⟩
              go_wp2_with fail
              refine hK.out _ _ hHeld (fun hHeld2 => ?_)
              clear hK hHeld
              have hHeld := hHeld2
              clear hHeld2
              refine take_call (i := 14) rfl (by kernel_rfl) (fun K2 hK => ?_)
              go_simp
              refine (smax_any (min CV (F pp - Mn.lo m pp)) (F pp - Mn.hi m pp) _).mono ?_
              rintro e w6 ⟨rfl, rfl⟩
              go_wp2_with fail
              refine hK.out _ _ hHeld (fun hHeld2 => ?_)
              clear hK hHeld
              have hHeld := hHeld2
              clear hHeld2
              refine take_do (i := 15) (v := (.int .i64 (max (min CV (F pp - Mn.lo m pp)) (F pp - Mn.hi m pp)))) rfl (by kernel_rfl) (by kernel_rfl) (by kernel_rfl) (fun _ _ _ h => h) (by rfl) ?_ (by assumption) ?_
              · intro w hSw
                skip
                go_simp
              simp only [Act.put, List.setIfInBounds_toArray, List.set_cons_zero, List.set_cons_succ]
              refine wpAnyH_done (by kernel_rfl) ?_ _
              have S9 := Lib.hid (S8.out.below hHeld)
              clear hHeld
              obtain ⟨C2, hC2⟩ : ∃ C2, C2 = max (min CV (F pp - Mn.lo m pp)) (F pp - Mn.hi m pp) := ⟨_, rfl⟩
              rw [← hC2] at HKE ⊢
              clear hC2
              go_wp2_with fail
              go_roundw
              case rel => exact ⟨k + 1, by omega, by rw [HKE.out], by go_num, S9⟩
              case measure => simp [intOf]; omega
          · have hkz : ¬ (k : Int) < (n : Int) := by omega
            obtain ⟨CH, hCH⟩ : ∃ CH, CH = Mn.chTo m F L c0 k := ⟨_, rfl⟩
            have HCN : Hid (CH = Mn.chTo m F L c0 n) := by show _ = _; rw [hCH, show k = n by omega]
            have HCB : Hid (∀ j, j < n → Mn.loK m F (L j) ≤ CH ∧ CH ≤ Mn.hiK m F (L j)) := by
              show ∀ _, _
              rw [HCN.out]
              exact Mn.ch_in HR.out HOF.out c0 n LO.out.num
            rw [← hCH]
            clear hCH
            go_wp2_with fail
            go_loopw [15] (fun kv wq => ∃ (k3 : Nat), k3 ≤ n ∧ kv = .int .i64 k3 ∧ Hid (RdS m g (Mn.apTo L CH F k3) w2 wq)) (fun kv _ => n - (intOf kv).toNat)
            case atStart => exact ⟨0, Nat.zero_le _, rfl, S5⟩
            case round =>
              obtain ⟨k3, hk3, rfl, S6⟩ := hrel
              clear S5
              by_cases hlt3 : k3 < n
              · have hltz3 : (k3 : Int) < (n : Int) := by omega
                obtain ⟨xb2, e, dx⟩ := (KX.out _ S6.out.b).at1 hlt3
                subst e
                have nk := LO.out.num k3 hlt3
                obtain ⟨pp, hpe⟩ : ∃ pp, pp = Mn.place (L k3) := ⟨_, rfl⟩
                have hpp : pp < m.pn := by rw [hpe]; exact nk.lt
                have hppz : ((pp : Nat) : Int) < (m.pn : Int) := by omega
                have fbd := Mn.okF_bd (HR.out.p pp hpp) (HOF.out pp hpp)
                have kb := Mn.k_bd HR.out HOF.out nk
                have cb := HCB.out k3 hlt3
                have ev : Mn.apTo L CH F k3 pp = F pp := Mn.ap_other k3 (fun j hj => by rw [hpe]; exact LO.out.one k3 hlt3 j hj)
                have HG : Hid (Mn.apTo L CH F (k3 + 1) = updI (Mn.apTo L CH F k3) pp (F pp + Mn.sg (L k3) CH)) := by
                  show _ = _
                  rw [← ev, hpe]
                  rfl
                have dn := S6.out.now.cell hpp
                rw [ev] at dn
                have zn := S6.out.now.frozen pp
                have ln := S6.out.now.lt
                have NK := Lib.hid nk
                have HPE := Lib.hid hpe
                have HPN := Lib.hid hpn
                have HE1 := Lib.hid fbd
                have cb1 : -200000 ≤ CH := by omega
                have cb2 : CH ≤ 200000 := by omega
                have fb1 := fbd.1
                have fb2 := fbd.2
                clear fbd nk hpe kb cb ev
                go_wp2_with fail
                refine (splace_any (L k3) _ NK.out.1 (by have := NK.out.2; have := HPN.out; omega) (by have := NK.out.2; have := HPN.out; omega)).mono ?_
                rintro e w3 ⟨rfl, e3⟩
                subst w3
                rw [← HPE.out]
                by_cases hzp : 0 < L k3
                · have HK : Hid (Mn.apTo L CH F (k3 + 1) = updI (Mn.apTo L CH F k3) pp (F pp + CH)) := by
                    show _ = _
                    rw [HG.out]
                    unfold Mn.sg
                    rw [if_neg (by omega)]
                  go_wp2_with fail
                  go_roundw
                  case rel => exact ⟨k3 + 1, by omega, by go_num, by rw [HK.out]; exact S6.out.now.set pp _, S6.out.b.setCell (p := ⟨g, pp, none⟩) hg _⟩
                  case measure => simp [intOf]; omega
                · have HK : Hid (Mn.apTo L CH F (k3 + 1) = updI (Mn.apTo L CH F k3) pp (F pp - CH)) := by
                    show _ = _
                    have hzn : L k3 < 0 := by have := NK.out.1; omega
                    rw [HG.out]
                    unfold Mn.sg
                    rw [if_pos hzn]
                    rfl
                  go_wp2_with fail
                  go_roundw
                  case rel => exact ⟨k3 + 1, by omega, by go_num, by rw [HK.out]; exact S6.out.now.set pp _, S6.out.b.setCell (p := ⟨g, pp, none⟩) hg _⟩
                  case measure => simp [intOf]; omega
              · have hkz3 : ¬ (k3 : Int) < (n : Int) := by omega
                have HRE : Hid (Mn.roundTo m f (i + 1) = Mn.apTo L CH F k3) := by show _ = _; rw [HRT.out, ← HCN.out, show k3 = n by omega]
                go_wp2_with fail
                go_roundw
                case rel => exact ⟨i + 1, by omega, by go_num, by rw [HRE.out]; exact Or.inr ⟨g, rfl, hg, S6.out.now⟩, S6.out.b⟩
                case measure => simp [intOf]; omega
    · obtain rfl : i = m.ln := by omega
      go_wp2_with fail
      refine (srest_any m pa pk la lk wa wk a2 nc (Mn.round m f) _ SW.out.at_ hS.out.1.at_ HR.out (Mn.roundTo_ok HR.out HO.out _ (Nat.le_refl _))).mono ?_
      rintro e w9 ⟨rfl, hb⟩
      have S9 := Lib.hid (SW.out.below hb)
      have N9 : Hid (OwL 2 w2.heap.size m.pn a2 nc (Mn.round m f) w9) := hS.out.1.below hb
      have L2 : Hid (w.heap.size + 1 < w2.heap.size) := S2.out.res.lt
      have D := Lib.hid (set6_done S9.out.res rfl S9.out.old (by omega) (.slice a2 m.pn nc) (.slice none 0 0) (.int .i64 (Mn.rest m (Mn.round m f))) (.int .i64 0) (.int .i64 0) (.int .i64 0))
      obtain ⟨⟨x0, x1, x2, x3, x4, x5⟩, z0, z1, z2, z3, z4, z5⟩ := rowN6 S9.out.res
      have lx := S9.out.res.lt
      clear hb hS SW r0 r1 r2 r3 r4
      go_wp2_with fail
      obtain ⟨⟨q0, q1, q2, q3, q4, q5⟩, _⟩ := rowN6 D.out.1
      unfold set6 at q0 q1 q2 q3 q4 q5
      have l2 := L2.out
      refine bodyPost_ret (v := moV a2 m.pn nc none 0 0 (Mn.rest m (Mn.round m f)) 0 0 0) ?_ rfl ⟨RdEnd.ok a2 nc H4.out HR.out rfl HO.out rfl ((N9.out.keep (fun k e hk => D.out.2.2 k (by have := (N9.out.lt e).1; omega))).low (by omega)), D.out.2.1⟩
      simp only [results, Tryz.results18]
      simp [go_sem, q0, q1, q2, q3, q4, q5]
end Go.Proofs.YtfgmalnkpgloiaaGreatDoor
