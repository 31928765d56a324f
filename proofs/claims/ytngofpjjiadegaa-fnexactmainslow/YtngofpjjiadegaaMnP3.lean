/-
  Low nodes: the program's walk.
-/
import Derived.Test.YtngofpjjiadegaaMnP2
import Derived.Test.YtngofpjjiadegaaMnLow
namespace Go.Proofs.Ytngofpjjiadegaa
open Go.RowKit Go.Deep
theorem Mn.Start.out {m : Mn.Mains} {c a : Int} (h : Mn.Start m c a) (hc : c = 0) : Mn.OutAt (Mn.fin m).1 (Mn.nn m) (-1) := by
  cases h with
  | form _ => omega
  | none _ _ _ _ => omega
  | over _ _ _ _ _ => omega
  | ok _ h2 _ => exact h2
/-- What stands behind the flows that were given. -/
structure LiS (m : Mn.Mains) (pa : Option Addr) (pk : Nat) (la : Option Addr) (lk : Nat) (wa : Option Addr) (wk : Nat) (X gk : Nat) (a : Option Addr) (c : Nat) (f : Nat → Int) (w W : World) : Prop where
  row : W.rowIs w.heap.size 31 5 (rowN (mnL m pa pk la lk wa wk))
  r7 : W.rowIs X 59 3 (rowN [.slice la m.ln lk, .slice (some ⟨gk, 0, none⟩) m.pn m.pn, .slice a m.pn c])
  k : KdBlk gk m W
  f : IsAt a m.pn f W
  at_ : MnAt m pa la wa W
  old : Below w.heap.size w W
theorem LiS.below {m : Mn.Mains} {pa : Option Addr} {pk : Nat} {la : Option Addr} {lk : Nat} {wa : Option Addr} {wk X gk : Nat} {a : Option Addr} {c : Nat} {f : Nat → Int} {w W W' : World} (h : LiS m pa pk la lk wa wk X gk a c f w W) (hb : Below W.heap.size W W') : LiS m pa pk la lk wa wk X gk a c f w W' := ⟨nrow_below h.row hb, nrow_below h.r7 hb, h.k.below hb, h.f.below hb, h.at_.below hb, h.old.trans (hb.mono h.old.size)⟩
set_option maxRecDepth 100000 in
set_option maxHeartbeats 8000000 in
theorem ilow_any (m : Mn.Mains) (pa : Option Addr) (pk : Nat) (la : Option Addr) (lk : Nat) (wa : Option Addr) (wk : Nat) (xb xn xc : Nat) (f : Nat → Int) (q : Int) (w : World) (h : MnAt m pa la wa w) (hx : ∀ i, i < xn → w.cell? ⟨xb, i, none⟩ = some (.int .i64 (f i))) (hxn : xn ≤ 1048576) :
    Calls Try.prog 12 #[mnV m pa pk la lk wa wk, .slice (some ⟨xb, 0, none⟩) xn xc, .int .i64 q] w fun e w' => (∃ l a c, Mn.Low m xn f q l ∧ e = .returned (.slice a l.length c) ∧ OwL 2 w.heap.size l.length a c (natI l) w') ∧ Below w.heap.size w w' := by
  obtain ⟨i1, hi1, hy0, hy1, hy2⟩ := info_parts minfo_i64
  obtain ⟨W0, hW0⟩ : ∃ W0, W0 = w.alloc (.cells #[.int .i64 m.nodes, .int .i64 m.head, .slice pa m.pn pk, .slice la m.ln lk, .slice wa m.wn wk] 31) := ⟨_, rfl⟩
  have S0 : Hid (W0.rowIs w.heap.size 31 5 (rowN (mnL m pa pk la lk wa wk)) ∧ MnAt m pa la wa W0 ∧ (∀ i, i < xn → W0.cell? ⟨xb, i, none⟩ = some (.int .i64 (f i))) ∧ Below w.heap.size w W0) := by
    show _ ∧ _
    rw [hW0]
    exact ⟨rowN_alloc w _ _, h.below (nbel_alloc _ _), fun i hi => ((nbel_alloc w _).cell (World.block_lt_of_cell? _ _ (hx i hi))).trans (hx i hi), nbel_alloc _ _⟩
  have HW0 := Lib.hid hW0
  have HXN := Lib.hid hxn
  clear h hx hW0 hxn
  go_enter Try.func12, Try.ntmps12
  go_wp2_with fail
  rw [← HW0.out]
  refine (given_any m pa pk la lk wa wk xb xn xc f _ S0.out.2.1 S0.out.2.2.1 HXN.out).mono ?_
  rintro e w1 ⟨hE, hb⟩
  have R1 := Lib.hid (nrow_below S0.out.1 hb)
  have A1 := Lib.hid (S0.out.2.1.below hb)
  have B1 : Hid (Below w.heap.size w w1) := S0.out.2.2.2.trans (hb.mono S0.out.2.2.2.size)
  have LW1 : Hid (w.heap.size < w1.heap.size) := R1.out.lt
  clear hb S0
  cases hE with
  | no c s h1 e1 =>
    subst e1
    have HL : Hid (Mn.Low m xn f q []) := .no (fun k => by
      rcases h1 with ⟨_, h2⟩ | ⟨_, _, h2⟩
      · have := k.1; omega
      · exact h2 ⟨k.2.1, k.2.2.1, k.2.2.2.1⟩)
    clear h1
    have B2 : Hid (Below w.heap.size w (w1.alloc (.cells #[.slice none 0 0, .slice none 0 0, .slice none 0 0] 59))) := B1.out.alloc B1.out.size _
    go_wp2_with fail
    refine bodyPost_ret (v := .slice none 0 0) ?_ rfl ⟨⟨[], none, 0, HL.out, rfl, Or.inl ⟨rfl, rfl, rfl⟩⟩, B2.out⟩
    simp [results, Try.results12, go_sem]
  | ok gk a c h1 hr hxp ho e1 hk how hgk =>
  subst e1
  subst hxp
  have HR := Lib.hid hr
  have HO := Lib.hid ho
  have H1 := Lib.hid h1
  obtain ⟨W2, hW2⟩ : ∃ W2, W2 = w1.alloc (.cells #[.slice la m.ln lk, .slice (some ⟨gk, 0, none⟩) m.pn m.pn, .slice a m.pn c] 59) := ⟨_, rfl⟩
  have S2 : Hid (LiS m pa pk la lk wa wk w1.heap.size gk a c f w W2) := by
    show LiS _ _ _ _ _ _ _ _ _ _ _ _ _ _
    rw [hW2]
    exact ⟨nrow_below R1.out (nbel_alloc _ _), rowN_alloc w1 _ _, hk.below (nbel_alloc _ _), how.at_.below (nbel_alloc _ _), A1.out.below (nbel_alloc _ _), B1.out.alloc B1.out.size _⟩
  have HW2 := Lib.hid hW2
  obtain ⟨⟨r0, r1, r2, r3, r4⟩, _⟩ := rowN5 R1.out
  have lw1 := LW1.out
  clear hr ho h1 hW2 hk how hgk A1 B1
  go_wp2_with fail
  rw [← HW2.out]
  clear r0 r1 r2 r3 r4 lw1 HW2
  generalize w1.heap.size = X at *
  refine (startMains_any m pa pk la lk wa wk _ S2.out.at_).mono ?_
  rintro e w3 ⟨hE, hb⟩
  have S3 := Lib.hid (S2.out.below hb)
  clear hb S2 R1
  cases hE with
  | no cc aa ev hst hc her e1 =>
    subst e1
    have HL : Hid (Mn.Low m m.pn f q []) := .no (fun k => hc (k.2.2.2.2.one hst).1.symm)
    have B4 : Hid (Below w.heap.size w (w3.alloc (.cells #[.slice none 0 0, .slice none 0 0, .slice none 0 0] 59))) := S3.out.old.alloc S3.out.old.size _
    clear hst hc
    rcases her with ⟨s, rfl, _⟩ | ⟨s, rfl⟩
    · go_wp2_with fail
      refine bodyPost_ret (v := .slice none 0 0) ?_ rfl ⟨⟨[], none, 0, HL.out, rfl, Or.inl ⟨rfl, rfl, rfl⟩⟩, B4.out⟩
      simp [results, Try.results12, go_sem]
    · go_wp2_with fail
      refine bodyPost_ret (v := .slice none 0 0) ?_ rfl ⟨⟨[], none, 0, HL.out, rfl, Or.inl ⟨rfl, rfl, rfl⟩⟩, B4.out⟩
      simp [results, Try.results12, go_sem]
  | ok gk2 gf tv hst e1 _ _ htr _ _ =>
  subst e1
  have HST := Lib.hid hst
  have HT3 := Lib.hid htr
  obtain ⟨ta, tc, etv, _⟩ := htr
  subst etv
  obtain ⟨W4, hW4⟩ : ∃ W4, W4 = w3.alloc (.cells #[.slice la m.ln lk, .slice (some ⟨gk2, 0, none⟩) m.pn m.pn, .slice (some ⟨gf, 0, none⟩) m.pn m.pn] 59) := ⟨_, rfl⟩
  have hb4 : Below w3.heap.size w3 W4 := by rw [hW4]; exact nbel_alloc _ _
  have S4 := Lib.hid (S3.out.below hb4)
  have T4 := Lib.hid (HT3.out.below hb4)
  have HW4 := Lib.hid hW4
  obtain ⟨⟨r0, r1, r2, r3, r4⟩, _⟩ := rowN5 S3.out.row
  obtain ⟨⟨x0, x1, x2⟩, _⟩ := rowN3 S3.out.r7
  have l1 := S3.out.row.lt
  have l2 := S3.out.r7.lt
  clear hst hb4 hW4 HT3
  go_wp2_with fail
  rw [← HW4.out]
  clear r0 r1 r2 r3 r4 x0 x1 x2 l1 l2 HW4
  refine (headsAlong_any m la m.ln lk gk a c f _ _ S4.out.k S4.out.f T4.out HR.out HO.out (HST.out.out rfl)).mono ?_
  rintro e w5 ⟨⟨gh, rfl, hhd, hgh⟩, hb⟩
  obtain ⟨H, hH⟩ : ∃ H, H = Mn.heads m f := ⟨_, rfl⟩
  have ZH : Hid (w.heap.size ≤ gh) := Nat.le_trans S4.out.old.size hgh
  have ST : Hid (LoS w.heap.size gh (Mn.nn m) H (Mn.lowTo H q 0) (.slice none 0 0) w w5) := by
    refine ⟨World.ownsRow_nil _ _ _ _, by rw [hH]; exact hhd, ?_, S4.out.old.trans (hb.mono S4.out.old.size)⟩
    intro e
    simp [Value.ownBlock] at e
  have HHE := Lib.hid hH
  obtain ⟨hnn, hn1, hn2, hwn⟩ := HR.out.nn
  clear hb hhd hgh hH hnn hwn S3 S4 T4
  go_wp2_with fail
  go_loopw [11, 36] (fun ov kv wr => ∃ (k : Nat), k ≤ Mn.nn m ∧ kv = .int .i64 k ∧ Hid (LoS w.heap.size gh (Mn.nn m) H (Mn.lowTo H q k) ov w wr)) (fun _ kv _ => Mn.nn m - (intOf kv).toNat)
  case atStart => exact ⟨0, Nat.zero_le _, rfl, ST⟩
  case round =>
    obtain ⟨k, hk, rfl, hS⟩ := hrel
    clear ST
    obtain ⟨av, cv, rfl⟩ := lo_shape hS.out
    by_cases hlt : k < Mn.nn m
    · have hltz : (k : Int) < (Mn.nn m : Int) := by omega
      have c0 := hS.out.hd.cell hlt
      have hlen : (Mn.lowTo H q k).length ≤ k := Mn.lowTo_len H q k
      by_cases hq : H k < q
      · have HE : Hid (Mn.lowTo H q (k + 1) = Mn.lowTo H q k ++ [k]) := by show _ = _; simp only [Mn.lowTo, hq, if_true]
        have zw : w.heap.size ≤ wr.heap.size := hS.out.old.size
        have zg : gh < wr.heap.size := hS.out.hd.lt
        go_wp2_with (at_builtin; refine wpList_append_lies _ rfl _ _ 24 rfl w.heap.size 2 i1 (.int .i64 0) 1 8 Try.underlying24 hi1 hy0 hy1 hy2 rfl (by decide) _ _ _ rfl (hS.out.own.alloc _) ⟨wr.heap.size, 0, none⟩ 1 1 [.int .i64 (k : Int)] rfl rfl ?a1 ?a2 ?a3 ?a4 ?a5 ?a6 (wr.heap.size + 1) ?a7 ?_)
        try (case a1 => exact lit_cells _ _ rfl _ _)
        try (case a2 => first | rfl | (intro u hu; simp at hu; subst hu; rfl))
        try (case a3 => omega)
        try (case a4 => (unfold maxLen; omega))
        try (case a5 => omega)
        try (case a6 => first | omega | (simp; omega))
        try (case a7 => simp)
        intro g cap W3 hown hgrow hat hlt3
        have S3 : Hid (LoS w.heap.size gh (Mn.nn m) H (Mn.lowTo H q (k + 1)) (.slice (some ⟨g, 0, none⟩) ((Mn.lowTo H q k).length + 1) cap) w W3) := by
          show LoS _ _ _ _ _ _ _ _
          rw [HE.out]
          exact hS.out.app (Nat.le_refl _) hown hgrow hat
        clear hown hgrow hat hlt3 hS
        go_wp2_with fail
        go_roundw
        case rel => exact ⟨k + 1, by omega, by go_num, S3⟩
        case measure => simp [intOf]; omega
      · have HE : Hid (Mn.lowTo H q (k + 1) = Mn.lowTo H q k) := by show _ = _; simp only [Mn.lowTo, hq, if_false]
        go_wp2_with fail
        go_roundw
        case rel => exact ⟨k + 1, by omega, by go_num, by rw [HE.out]; exact hS.out⟩
        case measure => simp [intOf]; omega
    · have hkz : ¬ (k : Int) < (Mn.nn m : Int) := by omega
      have HL : Hid (Mn.Low m m.pn f q (Mn.lowTo H q k)) := by
        show Mn.Low _ _ _ _ _
        rw [show k = Mn.nn m by omega, HHE.out]
        exact .ok ⟨H1.out, HR.out, rfl, HO.out, HST.out⟩
      have OW : Hid (OwL 2 w.heap.size (Mn.lowTo H q k).length av cv (natI (Mn.lowTo H q k)) wr) := owl_nat hS.out.own
      go_wp2_with fail
      refine bodyPost_ret (v := .slice av (Mn.lowTo H q k).length cv) ?_ rfl ⟨⟨_, HL.out, _, _, rfl, OW.out⟩, hS.out.old⟩
      simp [results, Try.results12]
end Go.Proofs.Ytngofpjjiadegaa
