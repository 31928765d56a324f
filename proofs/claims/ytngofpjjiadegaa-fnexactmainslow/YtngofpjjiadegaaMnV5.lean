/-
  Low nodes: the model's walk.
-/
import Derived.Test.YtngofpjjiadegaaMnV4
import Derived.Test.YtngofpjjiadegaaMnLow
namespace Go.Proofs.Ytngofpjjiadegaa
open Go.RowKit Go.Deep
theorem mo_field (a b c d e : Value) (x : Int) (w : World) : (Instr.field 53 (.agg #[a, b, c, d, e, .int .i64 x]) 5).run Try.prog w = .ok (.int .i64 x) w := by kernel_rfl
structure LwS (m : Mn.Mains) (pa : Option Addr) (pk : Nat) (la : Option Addr) (lk : Nat) (wa : Option Addr) (wk : Nat) (f : Nat → Int) (xb xn : Nat) (w W : World) : Prop where
  row : W.rowIs w.heap.size 31 5 (rowN (mnL m pa pk la lk wa wk))
  at_ : MnAt m pa la wa W
  x : ∀ i, i < xn → W.cell? ⟨xb, i, none⟩ = some (.int .i64 (f i))
  old : Below w.heap.size w W
theorem LwS.below {m : Mn.Mains} {pa : Option Addr} {pk : Nat} {la : Option Addr} {lk : Nat} {wa : Option Addr} {wk : Nat} {f : Nat → Int} {xb xn : Nat} {w W W' : World} (h : LwS m pa pk la lk wa wk f xb xn w W) (hb : Below W.heap.size W W') : LwS m pa pk la lk wa wk f xb xn w W' := ⟨nrow_below h.row hb, h.at_.below hb, fun i hi => (hb.cell (World.block_lt_of_cell? _ _ (h.x i hi))).trans (h.x i hi), h.old.trans (hb.mono h.old.size)⟩
set_option maxRecDepth 100000 in
set_option maxHeartbeats 8000000 in
theorem slow_any (m : Mn.Mains) (pa : Option Addr) (pk : Nat) (la : Option Addr) (lk : Nat) (wa : Option Addr) (wk : Nat) (xb xn xc : Nat) (f : Nat → Int) (q : Int) (w : World) (h : MnAt m pa la wa w) (hx : ∀ i, i < xn → w.cell? ⟨xb, i, none⟩ = some (.int .i64 (f i))) (hs : MnSmall m) (hxn : xn ≤ 1048576) :
    Calls Try.prog 10 #[mnV m pa pk la lk wa wk, .slice (some ⟨xb, 0, none⟩) xn xc, .int .i64 q] w fun e w' => (∃ l a c, Mn.Low m xn f q l ∧ e = .returned (.slice a l.length c) ∧ OwL 2 w.heap.size l.length a c (natI l) w') ∧ Below w.heap.size w w' := by
  obtain ⟨i1, hi1, hy0, hy1, hy2⟩ := info_parts minfo_i64
  obtain ⟨W0, hW0⟩ : ∃ W0, W0 = (w.alloc (.cells #[.int .i64 m.nodes, .int .i64 m.head, .slice pa m.pn pk, .slice la m.ln lk, .slice wa m.wn wk] 31)).alloc (.cells #[] 2) := ⟨_, rfl⟩
  have S0 : Hid (LwS m pa pk la lk wa wk f xb xn w W0) := by
    show LwS _ _ _ _ _ _ _ _ _ _ _ _
    rw [hW0]
    exact ⟨nrow_below (rowN_alloc w _ _) (nbel_alloc _ _), (h.below (nbel_alloc _ _)).below (nbel_alloc _ _), fun i hi => ((mbel2 w _ _).cell (World.block_lt_of_cell? _ _ (hx i hi))).trans (hx i hi), mbel2 _ _ _⟩
  have O0 : Hid (W0.ownsRow (w.heap.size + 1) 2 1 (.slice (some ⟨w.heap.size + 1, 0, none⟩) 0 0) ([] : List Nat).length (natL [])) := by
    show World.ownsRow _ _ _ _ _ _ _
    rw [hW0]
    have := World.ownsRow_made (e := 2) (size := 1) (base := w.heap.size + 1) (w.alloc (.cells #[.int .i64 m.nodes, .int .i64 m.head, .slice pa m.pn pk, .slice la m.ln lk, .slice wa m.wn wk] 31)) #[] 0 (by simp) (Nat.zero_le _) rfl
    simpa [natL] using this
  have HW0 := Lib.hid hW0
  have HS := Lib.hid hs
  have HXN := Lib.hid hxn
  clear h hx hW0 hs hxn
  go_enter Try.func10, Try.ntmps10
  go_wp2_with fail
  rw [← HW0.out]
  refine (sround_any m pa pk la lk wa wk xb xn xc f _ S0.out.at_ S0.out.x HS.out HXN.out).mono ?_
  rintro e w1 ⟨hE, hb⟩
  have S1 := Lib.hid (S0.out.below hb)
  have O1 := Lib.hid (mown_below O0.out hb)
  clear hb S0 O0
  have OE := Lib.hid (owl_nat O1.out)
  cases hE with
  | size h1 e1 =>
    subst e1
    have HL := Lib.hid (Mn.Low.no (q := q) (fun k => by have := k.1; omega) : Mn.Low m xn f q [])
    clear h1
    have hfd := mo_field (.slice none 0 0) (.slice none 0 0) (.int .i64 0) (.int .i64 0) (.int .i64 0) 2
    go_wp2_with fail
    go_ret
    exact ⟨⟨_, _, _, HL.out, rfl, OE.out.low (by omega)⟩, S1.out.old⟩
  | form h1 h2 e1 =>
    subst e1
    have HL := Lib.hid (Mn.Low.no (q := q) (fun k => h2 ⟨k.2.1, k.2.2.1, k.2.2.2.1⟩) : Mn.Low m xn f q [])
    clear h1 h2
    have hfd := mo_field (.slice none 0 0) (.slice none 0 0) (.int .i64 0) (.int .i64 0) (.int .i64 0) 1
    go_wp2_with fail
    go_ret
    exact ⟨⟨_, _, _, HL.out, rfl, OE.out.low (by omega)⟩, S1.out.old⟩
  | ok a1 c1 h1 hr hxp ho e1 _ =>
  subst e1
  have hfd := mo_field (.slice a1 m.pn c1) (.slice none 0 0) (.int .i64 (Mn.rest m (Mn.round m f))) (.int .i64 0) (.int .i64 0) 0
  obtain ⟨⟨r0, r1, r2, r3, r4⟩, _⟩ := rowN5 S1.out.row
  have HR := Lib.hid hr
  have HO := Lib.hid ho
  subst hxp
  clear hr ho
  go_wp2_with fail
  refine (specStart_any m pa pk la lk wa wk _ S1.out.at_ HS.out).mono ?_
  rintro e w2 ⟨hE, hb⟩
  have S2 := Lib.hid (S1.out.below hb)
  have O2 := Lib.hid (mown_below O1.out hb)
  have OE := Lib.hid (owl_nat O2.out)
  clear hb S1 O1 hfd r0 r1 r2 r3 r4
  cases hE with
  | no c a hst hc e1 =>
    subst e1
    have hcn : (c != 0) = true := by simp [hc]
    have HL := Lib.hid (Mn.Low.no (q := q) (fun k => hc (k.2.2.2.2.one hst).1.symm) : Mn.Low m m.pn f q [])
    have hfd := mo_field (.slice none 0 0) (.slice none 0 0) (.int .i64 0) (.int .i64 0) (.int .i64 a) c
    clear hst hc
    go_wp2_with fail
    go_ret
    exact ⟨⟨_, _, _, HL.out, rfl, OE.out.low (by omega)⟩, S2.out.old⟩
  | ok gf hst e1 _ _ =>
  subst e1
  have HST := Lib.hid hst
  have hfd := mo_field (.slice (some ⟨gf, 0, none⟩) m.pn m.pn) (.slice none 0 0) (.int .i64 0) (.int .i64 0) (.int .i64 0) 0
  obtain ⟨⟨r0, r1, r2, r3, r4⟩, _⟩ := rowN5 S2.out.row
  clear hst OE
  go_wp2_with fail
  refine (sheads_any m pa pk la lk wa wk (some ⟨xb, 0, none⟩) xc f _ S2.out.at_ (Or.inr ⟨xb, rfl, S2.out.x⟩) HR.out HO.out).mono ?_
  rintro e w3 ⟨⟨gh, rfl, hhd, hgh⟩, hb⟩
  have B3 : Hid (Below w.heap.size w w3) := S2.out.old.trans (hb.mono S2.out.old.size)
  have O3 := Lib.hid (mown_below O2.out hb)
  have lz0 : w.heap.size + 1 < w2.heap.size := (O2.out.lt _ rfl).2
  have HD3 := Lib.hid hhd
  obtain ⟨hnn, hn1, hn2, hwn⟩ := HR.out.nn
  have HGH : Hid (w2.heap.size ≤ gh) := hgh
  have HW3 : Hid (gh < w3.heap.size) := hhd.lt
  have HZB : Hid (w.heap.size + 1 ≤ gh) := by show _ ≤ _; omega
  obtain ⟨H, hH⟩ : ∃ H, H = Mn.heads m f := ⟨_, rfl⟩
  rw [← hH] at HD3
  have HHE := Lib.hid hH
  have ST : Hid (LoS (w.heap.size + 1) gh (Mn.nn m) H (Mn.lowTo H q 0) (.slice (some ⟨w.heap.size + 1, 0, none⟩) 0 0) w w3) := by
    refine ⟨O3.out, HD3.out, ?_, B3.out⟩
    intro e
    have eg : w.heap.size + 1 = gh := by simpa [Value.ownBlock] using e
    have := HGH.out
    omega
  clear hb hhd hgh hH hfd r0 r1 r2 r3 r4 S2 O2 hnn hwn O3 B3 HD3 HGH HW3 lz0
  go_wp2_with fail
  go_loopw [7, 9] (fun ov kv wr => ∃ (k : Nat), k ≤ Mn.nn m ∧ kv = .int .i64 k ∧ Hid (LoS (w.heap.size + 1) gh (Mn.nn m) H (Mn.lowTo H q k) ov w wr)) (fun _ kv _ => Mn.nn m - (intOf kv).toNat)
  case atStart => exact ⟨0, Nat.zero_le _, rfl, ST⟩
  case round =>
    obtain ⟨k, hk, rfl, hS⟩ := hrel
    clear ST
    obtain ⟨av, cv, rfl⟩ := lo_shape hS.out
    by_cases hlt : k < Mn.nn m
    · have hltz : (k : Int) < (Mn.nn m : Int) := by omega
      have c0 := hS.out.hd.cell hlt
      have hlen : (Mn.lowTo H q k).length ≤ k := Mn.lowTo_len H q k
      by_cases hq : H k < q
      · have HE : Hid (Mn.lowTo H q (k + 1) = Mn.lowTo H q k ++ [k]) := by show _ = _; simp only [Mn.lowTo, hq, if_true]
        have zw : w.heap.size ≤ wr.heap.size := hS.out.old.size
        have zg : gh < wr.heap.size := hS.out.hd.lt
        have zb : w.heap.size + 1 ≤ wr.heap.size := by have := HZB.out; omega
        go_wp2_with (at_builtin; refine wpList_append_lies _ rfl _ _ 24 rfl (w.heap.size + 1) 2 i1 (.int .i64 0) 1 8 Try.underlying24 hi1 hy0 hy1 hy2 rfl (by decide) _ _ _ rfl (hS.out.own.alloc _) ⟨wr.heap.size, 0, none⟩ 1 1 [.int .i64 (k : Int)] rfl rfl ?a1 ?a2 ?a3 ?a4 ?a5 ?a6 (wr.heap.size + 1) ?a7 ?_)
        try (case a1 => exact lit_cells _ _ rfl _ _)
        try (case a2 => first | rfl | (intro u hu; simp at hu; subst hu; rfl))
        try (case a3 => omega)
        try (case a4 => (unfold maxLen; omega))
        try (case a5 => omega)
        try (case a6 => first | omega | (simp; omega))
        try (case a7 => simp)
        intro g cap W3 hown hgrow hat hlt3
        have S3 : Hid (LoS (w.heap.size + 1) gh (Mn.nn m) H (Mn.lowTo H q (k + 1)) (.slice (some ⟨g, 0, none⟩) ((Mn.lowTo H q k).length + 1) cap) w W3) := by
          show LoS _ _ _ _ _ _ _ _
          rw [HE.out]
          exact hS.out.app (by omega) hown hgrow hat
        clear hown hgrow hat hlt3 hS
        go_wp2_with fail
        go_roundw
        case rel => exact ⟨k + 1, by omega, by go_num, S3⟩
        case measure => simp [intOf]; omega
      · have HE : Hid (Mn.lowTo H q (k + 1) = Mn.lowTo H q k) := by show _ = _; simp only [Mn.lowTo, hq, if_false]
        go_wp2_with fail
        go_roundw
        case rel => exact ⟨k + 1, by omega, by go_num, by rw [HE.out]; exact hS.out⟩
        case measure => simp [intOf]; omega
    · have hkz : ¬ (k : Int) < (Mn.nn m : Int) := by omega
      have HL : Hid (Mn.Low m m.pn f q (Mn.lowTo H q k)) := by
        show Mn.Low _ _ _ _ _
        rw [show k = Mn.nn m by omega, HHE.out]
        exact .ok ⟨h1, HR.out, rfl, HO.out, HST.out⟩
      have OW : Hid (OwL 2 w.heap.size (Mn.lowTo H q k).length av cv (natI (Mn.lowTo H q k)) wr) := (owl_nat hS.out.own).low (by omega)
      go_wp2_with fail
      refine bodyPost_ret (v := .slice av (Mn.lowTo H q k).length cv) ?_ rfl ⟨⟨_, HL.out, _, _, rfl, OW.out⟩, hS.out.old⟩
      simp [results, Try.results10]
end Go.Proofs.Ytngofpjjiadegaa
