/-
  The law FnRiverAbove.
-/
import Derived.Test.YtdpghhmcibiplaaDoorRvLawL
import Derived.Test.YtdpghhmcibiplaaDoorRvLw2
import Derived.Test.YtdpghhmcibiplaaDoorRvAb2
import Derived.Test.YtdpghhmcibiplaaDoorLwAt
import Derived.Laws.StructEq
namespace Go.Proofs.YtdpghhmcibiplaaDoor
open Go.RowKit Go.Deep

theorem above_fn (n : Nat) (rs : Nat → Rv.Rc) (p i : Nat) (hi : i < n) : (∃ j, j < (Rv.above n rs p n).length ∧ natF (Rv.above n rs p n) j = (i : Int)) ↔ Rv.To n rs p i := by
  unfold natF
  rw [← Rv.mem_above hi]
  constructor
  · rintro ⟨j, h1, h2⟩
    have : (Rv.above n rs p n).getD j 0 = i := by omega
    rw [← this, List.getD_eq_getElem?_getD, List.getElem?_eq_getElem h1]
    exact List.getElem_mem h1
  · intro h
    obtain ⟨j, h1, h2⟩ := List.getElem_of_mem h
    exact ⟨j, h1, by rw [List.getD_eq_getElem?_getD, List.getElem?_eq_getElem h1]; simp [h2]⟩
theorem above_le (n : Nat) (rs : Nat → Rv.Rc) (p m : Nat) : (Rv.above n rs p m).length ≤ m := by unfold Rv.above; exact Nat.le_trans (List.length_filter_le _ _) (by simp)
theorem eq_rc (r : Rv.Rc) (w : World) : (binOp .eql 43 (rcV r) (rcV r)).run Tryd.prog w = .ok (.bool true) w := by
  have u3 := Tryd.underlying2
  have a3 := Tryd.isAgg2
  have z3 := Tryd.sizeOf2
  have hS : Tryd.prog.underlying 43 = some (.struct (Tryd.prog.fieldsOf 43)) := by kernel_rfl
  have hp : Tryd.prog.stoodInHeld 43 = false := by kernel_rfl
  rw [run_eql_struct, show (10000 : Nat) = 9999 + 1 from rfl, run_equalIn_struct w 9999 43 _ _ hS hp]
  simp only [Program.fieldsOf, Tryd.underlying43]
  go_simp

/-- What stands while the other rain is made. -/
structure OtS (w : World) (n m gl gr go N P : Nat) (a8 : Option Addr) (rs : Nat → Rv.Rc) (f f' : Nat → Int) (i : Nat) (W : World) : Prop where
  old : Below w.heap.size w W
  dr : Drawn w.heap.size n m gl gr rs f W
  ot : InBlk go m f' W
  far : go ≠ gl ∧ go ≠ gr ∧ w.heap.size ≤ go
  ab : IntsAt a8 N (natF (Rv.above n rs P n)) W
  ha : ∀ b, a8 = some ⟨b, 0, none⟩ → b ≠ go
  eq : ∀ j, j < n → Rv.To n rs P j → f j = f' j
  du : i = i
theorem OtS.below {w : World} {n m gl gr go N P : Nat} {a8 : Option Addr} {rs : Nat → Rv.Rc} {f f' : Nat → Int} {i : Nat} {W W' : World} (h : OtS w n m gl gr go N P a8 rs f f' i W) (hb : Below W.heap.size W W') : OtS w n m gl gr go N P a8 rs f f' i W' :=
  ⟨h.old.trans (hb.mono h.old.size), h.dr.below hb, h.ot.block (hb.block _ h.ot.lt), h.far, h.ab.below hb, h.ha, h.eq, rfl⟩
theorem OtS.set {w : World} {n m gl gr go N P : Nat} {a8 : Option Addr} {rs : Nat → Rv.Rc} {f f' : Nat → Int} {i j : Nat} {W : World} (h : OtS w n m gl gr go N P a8 rs f f' j W) (x : Int) (hno : ¬ Rv.To n rs P i) : OtS w n m gl gr go N P a8 rs f (Rv.upd f' i x) j (W.setCell ⟨go, i, none⟩ (.int .i64 x)) := by
  obtain ⟨f1, f2, f3⟩ := h.far
  have hd := h.dr
  refine ⟨h.old.setCell (p := ⟨go, i, none⟩) f3 _, ⟨hd.1, hd.2.1, hd.2.2.1, hd.2.2.2.1.block (blk_setCell_other _ _ _ _ (by show gl ≠ go; exact f1.symm)), hd.2.2.2.2.block (blk_setCell_other _ _ _ _ (by show gr ≠ go; exact f2.symm))⟩, h.ot.set i x, h.far, h.ab.same (fun b e _ => blk_setCell_other _ _ _ _ (by show b ≠ go; exact h.ha b e)), h.ha, fun k hk ht => ?_, rfl⟩
  by_cases e : k = i
  · subst e; exact absurd ht hno
  · rw [Rv.upd_ne _ _ e]; exact h.eq k hk ht

/-- What the last comparison reads. -/
def FinS (w : World) (XA XB xl xf xt yl yf yt P : Nat) (r : Rv.Rc) (fx tx : Int) (rowA rowB : Nat → Value) (W : World) : Prop :=
  Below w.heap.size w W ∧ W.rowIs XA 27 5 rowA ∧ W.rowIs XB 27 5 rowB ∧ RcCells xl (P * 5) r W ∧ W.cell? ⟨xf, P, none⟩ = some (.int .i64 fx) ∧ W.cell? ⟨xt, P, none⟩ = some (.int .i64 tx) ∧ RcCells yl (P * 5) r W ∧ W.cell? ⟨yf, P, none⟩ = some (.int .i64 fx) ∧ W.cell? ⟨yt, P, none⟩ = some (.int .i64 tx)
theorem FinS.drew {w : World} {XA XB xl xf xt yl yf yt P : Nat} {r : Rv.Rc} {fx tx : Int} {rowA rowB : Nat → Value} {W : World} (h : FinS w XA XB xl xf xt yl yf yt P r fx tx rowA rowB W) : FinS w XA XB xl xf xt yl yf yt P r fx tx rowA rowB W.drew := by
  obtain ⟨h1, h2, h3, h4, h5, h6, h7, h8, h9⟩ := h
  exact ⟨h1.drew, h2.drew, h3.drew, h4.block rfl, h5, h6, h7.block rfl, h8, h9⟩

set_option maxRecDepth 100000 in
set_option maxHeartbeats 16000000 in
theorem aboveR_law (a b : Option Addr) (len cap len2 cap2 : Nat) (w : World) (h : Bytes a len w) (h2 : Bytes b len2 w) (hl : len ≤ 1048576) (hl2 : len2 ≤ 1048576) (hg : Et w) :
    Calls Tryd.prog 6 #[.slice a len cap, .slice b len2 cap2] w fun e w' => e = .returned (.bool true) ∧ Below w.heap.size w w' := by
  obtain ⟨i0, hi0, hz0, hz1, hz2⟩ := info_parts info_rc
  have hlz : ¬ (1048576 : Int) < (len : Int) := by omega
  have hlz2 : ¬ (1048576 : Int) < (len2 : Int) := by omega
  have H := Lib.hid h
  have H2 := Lib.hid h2
  have HG := Lib.hid hg
  clear h h2 hg
  go_enter Tryd.func6, Tryd.ntmps6
  go_wp2_with fail
  refine (drawStep_any a len cap _ H.out (by omega)).mono ?_
  rintro e w1 ⟨⟨n, m, gl, gr, cl, cr, rs, f, rfl, hD⟩, hb⟩
  have B1 := Lib.hid hb
  have D1 := Lib.hid hD
  obtain ⟨⟨hn1, hn2⟩, ⟨hm1, hm2⟩, _, _, _⟩ := hD
  have hnz : ((n : Int) == 0) = false := by simp; omega
  have hnn : ¬ (n : Int) = 0 := by omega
  clear hb
  go_wp2_with fail
  refine (specStep_any _ _ n cl m cr rs f _ D1.out.2.2.2.1.at_ D1.out.2.2.2.2.at_).mono ?_
  rintro e w2 ⟨hE, hb⟩
  have B2 : Hid (Below w.heap.size w w2) := B1.out.trans (hb.mono B1.out.size)
  have D2 := Lib.hid (D1.out.below hb)
  clear hb B1 D1
  rcases hE with ⟨k, hk, hk0, rfl⟩ | ⟨st, sl, sf, stt, sc, scf, sct, hk, rfl, _⟩
  · have hkz : (k == 0) = false := by simp [hk0]
    have hkn : (k != 0) = true := by simp [hk0]
    have hfd := code_field (.slice none 0 0) (.slice none 0 0) (.slice none 0 0) 0 k
    clear hk
    go_wp2_with fail
    go_ret
    exact ⟨rfl, B2.out⟩
  · have HK := Lib.hid hk
    have hinv := Rv.stepF_inv hk
    have hn40 : n ≤ 40 := hinv.1.1.1.2
    have HRt := Lib.hid hinv.1.1
    have HRun := Lib.hid hinv.2
    obtain rfl : m = n := hinv.1.2.1
    have hfd := code_field (.slice (some ⟨sl, 0, none⟩) m sc) (.slice (some ⟨sf, 0, none⟩) m scf) (.slice (some ⟨stt, 0, none⟩) m sct) st.sea 0
    clear hk hinv hm1 hm2
    go_wp2_with fail
    refine (lwAt_any b len2 cap2 0 m _ (H2.out.below B2.out) (by omega) (by omega) (by omega) (by omega)).mono ?_
    rintro e w2b ⟨⟨p, rfl, p0, _, p1⟩, rfl⟩
    have p2 := p1 (by omega)
    obtain ⟨P, rfl⟩ : ∃ P : Nat, p = (P : Int) := ⟨p.toNat, by omega⟩
    have hP : P < m := by omega
    clear p1 hfd
    go_wp2_with (at_builtin; refine wpList_append_lies _ rfl _ _ 25 rfl w2b.heap.size 43 i0 (.agg #[.int .i64 0, .int .i64 0, .int .i64 0, .int .i64 0, .int .i64 0]) 5 40 Tryd.underlying25 hi0 hz0 hz1 hz2 rfl (by decide) _ _ _ rfl (World.ownsRow_made w2b #[] 0 (Nat.le_refl _) (Nat.zero_le _) rfl) ⟨gl, 0, none⟩ m cl ((listOf rs m).flatMap rcCells) rfl ?qa1 ?qa2 ?qa3 ?qa4 ?qa5 ?qa6 ?qa7 (w2b.heap.size + 1) ?qa8 ?_)
    try (case qa1 => rw [rcCells_len, listOf_len])
    try (case qa2 => (
      intro j u hj
      have hjn : j < m * 5 := by
        have := (List.getElem?_eq_some_iff.1 hj).1
        rw [rcCells_len, listOf_len] at this
        exact this
      rw [Addr.add_lit]
      refine Lib.cell?_alloc_some _ ?_
      rw [Nat.zero_add, rc_cell (fun i hi => D2.out.2.2.2.1.cells hi) j hjn]
      rw [rcCells_get _ _ (by rw [listOf_len]; exact hjn)] at hj
      rw [← hj]
      unfold rcRow; rw [rcList_of rs (by omega)]))
    try (case qa3 => (
      intro u hu
      obtain ⟨x, _, hx⟩ := List.mem_flatMap.1 hu
      simp [rcCells] at hx
      rcases hx with rfl | rfl | rfl | rfl | rfl <;> rfl))
    try (case qa4 => omega)
    try (case qa5 => (unfold maxLen; omega))
    try (case qa6 => omega)
    try (case qa7 => first | omega | simp)
    try (case qa8 => simp)
    intro g3b g3 w3 hown hgrow hat hlt3
    have hb : Below w2b.heap.size w2b w3 := ((Below.refl _ w2b).alloc (Nat.le_refl _) _).grown hgrow (by simp) (by intro k hk; simp [Value.ownBlock] at hk; omega)
    have K3 : Hid (RcBlk g3b m rs w3) := Lib.hid (copy_blk (by simpa using hown))
    have B3 : Hid (Below w.heap.size w w3) := B2.out.trans (hb.mono B2.out.size)
    have D3 := Lib.hid (D2.out.below hb)
    clear hown hgrow hat hlt3 hb B2 D2
    go_wp2_with fail
    obtain ⟨b3, hb3⟩ : ∃ b3, b3 = g3b := ⟨_, rfl⟩
    refine (implAbove_go g3b m g3 P rs _ (fun i hi => K3.out.cells hi) HRt.out hP).mono ?_
    rintro e w4 ⟨⟨v4, rfl, ho⟩, hb⟩
    obtain ⟨a8, c8, rfl, hI⟩ := nat_own ho
    have zz3 := D3.out.2.2.2.1.lt
    have zz4 := D3.out.2.2.2.2.lt
    have HA8 : Hid (∀ k, a8 = some ⟨k, 0, none⟩ → k < w4.heap.size) := fun k hk => by
      have := (ho.lt k (by rw [hk]; rfl)).2; exact this
    have B4 : Hid (Below w.heap.size w w4) := B3.out.trans (hb.mono B3.out.size)
    have D4 := Lib.hid (D3.out.below hb)
    have I4 := Lib.hid hI
    have hNA : (Rv.above m rs P m).length ≤ 1048576 := by have := above_le m rs P m; omega
    have HAF := Lib.hid (fun i hi => above_fn m rs P i hi)
    clear hb ho hI B3 D3 K3 hb3 b3
    go_wp2_with fail
    refine (lwHas_any a8 _ c8 _ (P : Int) _ I4.out hNA true (by simpa using (HAF.out P hP).2 Rv.To.here)).mono ?_
    rintro e w4b ⟨rfl, rfl⟩
    go_wp2_with fail
    refine (specAbove_go gl m cl P rs _ (fun i hi => D4.out.2.2.2.1.cells hi) HRt.out hP).mono ?_
    rintro e w5 ⟨⟨v5, rfl, ho⟩, hb⟩
    obtain ⟨a9, c9, rfl, hI⟩ := nat_own ho
    have B5 : Hid (Below w.heap.size w w5) := B4.out.trans (hb.mono B4.out.size)
    have D5 := Lib.hid (D4.out.below hb)
    have I5 := Lib.hid (I4.out.below hb)
    have J5 := Lib.hid hI
    have HA5 : Hid (∀ k, a8 = some ⟨k, 0, none⟩ → k < w5.heap.size) := fun k hk => Nat.lt_of_lt_of_le (HA8.out k hk) hb.size
    clear hb ho hI B4 D4 I4 HA8
    go_wp2_with fail
    refine (lwSame_same a8 a9 _ c8 c9 _ _ I5.out J5.out hNA).mono ?_
    rintro e w6 ⟨rfl, hb⟩
    have B6 : Hid (Below w.heap.size w w6) := B5.out.trans (hb.mono B5.out.size)
    have D6 := Lib.hid (D5.out.below hb)
    have I6 := Lib.hid (I5.out.below hb)
    have HA6 : Hid (∀ k, a8 = some ⟨k, 0, none⟩ → k < w6.heap.size) := fun k hk => Nat.lt_of_lt_of_le (HA5.out k hk) hb.size
    clear hb B5 D5 I5 J5 HA5
    go_wp2_with fail
    refine (lwCopy_any gr m cr f _ D6.out.2.2.2.2 hn1 (by omega)).mono ?_
    rintro e w7 ⟨⟨go, co, rfl, hgo, hq⟩, hb⟩
    have l1 := D6.out.2.2.2.1.lt
    have l2 := D6.out.2.2.2.2.lt
    have l3 := B6.out.size
    have S7 : Hid (OtS w m m gl gr go (Rv.above m rs P m).length P a8 rs f f 0 w7) := ⟨B6.out.trans (hb.mono B6.out.size), D6.out.below hb, hq, ⟨by omega, by omega, by omega⟩, I6.out.below hb, fun k hk => by have := HA6.out k hk; omega, fun _ _ _ => rfl, rfl⟩
    clear hb hq B6 D6 I6 HA6 l1 l2 l3 hgo
    generalize (Rv.above m rs P m).length = NA at *
    go_wp2_with fail
    go_loopw [10] (fun iv wr => ∃ (i : Nat) (f' : Nat → Int), i ≤ m ∧ iv = .int .i64 i ∧ Hid (OtS w m m gl gr go NA P a8 rs f f' 0 wr)) (fun iv _ => m - (intOf iv).toNat)
    case atStart => exact ⟨0, f, Nat.zero_le _, rfl, S7⟩
    case round =>
      obtain ⟨i, f', hi, rfl, hS⟩ := hrel
      clear S7
      by_cases hlt : i < m
      · have hltz : (i : Int) < (m : Int) := by omega
        obtain ⟨bB, hbB⟩ := bool_of (∃ j, j < NA ∧ natF (Rv.above m rs P m) j = (i : Int))
        have HBB := Lib.hid hbB
        clear hbB
        go_wp2_with fail
        refine (lwHas_any a8 NA c8 _ (i : Int) _ hS.out.ab hNA bB HBB.out).mono ?_
        rintro e w8 ⟨rfl, rfl⟩
        cases bB with
        | true =>
          go_wp2_with fail
          go_roundw
          case rel => exact ⟨i + 1, f', by omega, by go_num, hS⟩
          case measure => simp [intOf]; omega
        | false =>
          have HNo : Hid (¬ Rv.To m rs P i) := fun k => by have := HBB.out.2 ((HAF.out i hlt).2 k); cases this
          go_wp2_with fail
          refine (lwAt_any b len2 cap2 ((i : Int) + 1) 200 _ (H2.out.below hS.out.old) (by omega) (by omega) (by omega) (by omega)).mono ?_
          rintro e w9 ⟨⟨x, rfl, _, _, _⟩, rfl⟩
          have c0 := hS.out.ot.cell hlt
          have f0 := hS.out.ot.frozen i
          have zg := hS.out.ot.lt
          have S9 := Lib.hid (hS.out.set (i := i) x HNo.out)
          clear hS
          go_wp2_with fail
          go_roundw
          case rel => exact ⟨i + 1, Rv.upd f' i x, by omega, by go_num, S9⟩
          case measure => simp [intOf]; omega
      · obtain rfl : i = m := by omega
        clear hlt hi
        have S9 := hS
        clear hS
        go_wp2_with fail
        refine (specStep_any _ _ i cl i co rs f' _ S9.out.dr.2.2.2.1.at_ S9.out.ot.at_).mono ?_
        rintro e w10 ⟨hE, hb⟩
        have S10 := Lib.hid (S9.out.below hb)
        clear hb S9
        rcases hE with ⟨k, hk, hk0, rfl⟩ | ⟨st2, sl2, sf2, stt2, sc2, scf2, sct2, hk, rfl, _⟩
        · have hkz : (k == 0) = false := by simp [hk0]
          have hkn : (k != 0) = true := by simp [hk0]
          have hfd := code_field (.slice none 0 0) (.slice none 0 0) (.slice none 0 0) 0 k
          clear hk
          go_wp2_with fail
          go_ret
          exact ⟨rfl, S10.out.old⟩
        · have HK2 := Lib.hid hk
          have HRun2 := Lib.hid (Rv.stepF_inv hk).2
          have hfd := code_field (.slice (some ⟨sl2, 0, none⟩) i sc2) (.slice (some ⟨sf2, 0, none⟩) i scf2) (.slice (some ⟨stt2, 0, none⟩) i sct2) st2.sea 0
          clear hk
          have B10 := Lib.hid S10.out.old
          have D10 := Lib.hid S10.out.dr
          go_wp2_with (at_builtin; refine wpList_append_lies _ rfl _ _ 25 rfl w10.heap.size 43 i0 (.agg #[.int .i64 0, .int .i64 0, .int .i64 0, .int .i64 0, .int .i64 0]) 5 40 Tryd.underlying25 hi0 hz0 hz1 hz2 rfl (by decide) _ _ _ rfl (World.ownsRow_made w10 #[] 0 (Nat.le_refl _) (Nat.zero_le _) rfl) ⟨gl, 0, none⟩ i cl ((listOf rs i).flatMap rcCells) rfl ?qc1 ?qc2 ?qc3 ?qc4 ?qc5 ?qc6 ?qc7 (w10.heap.size + 1) ?qc8 ?_)
          try (case qc1 => rw [rcCells_len, listOf_len])
          try (case qc2 => (
            intro j u hj
            have hjn : j < i * 5 := by
              have := (List.getElem?_eq_some_iff.1 hj).1
              rw [rcCells_len, listOf_len] at this
              exact this
            rw [Addr.add_lit]
            refine Lib.cell?_alloc_some _ ?_
            rw [Nat.zero_add, rc_cell (fun i hi => D10.out.2.2.2.1.cells hi) j hjn]
            rw [rcCells_get _ _ (by rw [listOf_len]; exact hjn)] at hj
            rw [← hj]
            unfold rcRow; rw [rcList_of rs (by omega)]))
          try (case qc3 => (
            intro u hu
            obtain ⟨x, _, hx⟩ := List.mem_flatMap.1 hu
            simp [rcCells] at hx
            rcases hx with rfl | rfl | rfl | rfl | rfl <;> rfl))
          try (case qc4 => omega)
          try (case qc5 => (unfold maxLen; omega))
          try (case qc6 => omega)
          try (case qc7 => first | omega | simp)
          try (case qc8 => simp)
          intro g11b g11 w11 hown hgrow hat hlt3
          have hb : Below w10.heap.size w10 w11 := ((Below.refl _ w10).alloc (Nat.le_refl _) _).grown hgrow (by simp) (by intro k hk; simp [Value.ownBlock] at hk; omega)
          have K11 : Hid (RcBlk g11b i rs w11) := Lib.hid (copy_blk (by simpa using hown))
          have B11 : Hid (Below w.heap.size w w11) := B10.out.trans (hb.mono B10.out.size)
          have D11 := Lib.hid (D10.out.below hb)
          have S11 := Lib.hid (S10.out.below hb)
          clear S10
          clear hown hgrow hat hlt3 hb B10 D10
          go_wp2_with fail
          refine (lwCopy_any gr i cr f _ D11.out.2.2.2.2 hn1 (by omega)).mono ?_
          rintro e w12 ⟨⟨q1, q2, rfl, _, hq⟩, hb⟩
          have S12 := Lib.hid (S11.out.below hb)
          have K12 := Lib.hid (K11.out.block (hb.block _ K11.out.lt))
          have Q12 := Lib.hid hq
          clear hb hq S11 K11 B11 D11
          go_wp2_with fail
          refine (implStep_any _ _ i g11 i q2 rs f _ K12.out.at_ Q12.out.at_ (HG.out.below S12.out.old)).mono ?_
          rintro e w13 ⟨hE, hb⟩
          have S13 := Lib.hid (S12.out.below hb)
          clear hb S12 K12 Q12
          rcases hE with ⟨k, hk, _, _⟩ | ⟨st', xl, xf, xt, xc, xcf, xct, hk, rfl, hL⟩
          · rw [HK.out] at hk; cases hk
          · rw [HK.out] at hk
            cases hk
            have RA : Hid (World.rowIs _ w13.heap.size 27 5 (ro5 (.slice (some ⟨xl, 0, none⟩) i xc) (.slice (some ⟨xf, 0, none⟩) i xcf) (.slice (some ⟨xt, 0, none⟩) i xct) st.sea 0)) := Lib.hid (World.rowIs_alloc w13 #[.slice (some ⟨xl, 0, none⟩) i xc, .slice (some ⟨xf, 0, none⟩) i xcf, .slice (some ⟨xt, 0, none⟩) i xct, .int .i64 st.sea, .int .i64 0] 27 _ (ro5_row (.slice (some ⟨xl, 0, none⟩) i xc) (.slice (some ⟨xf, 0, none⟩) i xcf) (.slice (some ⟨xt, 0, none⟩) i xct) st.sea 0))
            have hb13 : Below w13.heap.size w13 (w13.alloc (.cells #[.slice (some ⟨xl, 0, none⟩) i xc, .slice (some ⟨xf, 0, none⟩) i xcf, .slice (some ⟨xt, 0, none⟩) i xct, .int .i64 st.sea, .int .i64 0] 27)) := (Below.refl _ _).alloc (Nat.le_refl _) _
            have S14 := Lib.hid (S13.out.below hb13)
            have L14 := Lib.hid (hL.2.2.1.block (hb13.block _ hL.2.2.1.lt))
            have F14 := Lib.hid (hL.2.2.2.1.block (hb13.block _ hL.2.2.2.1.lt))
            have T14 := Lib.hid (hL.2.2.2.2.block (hb13.block _ hL.2.2.2.2.lt))
            clear hL hb13 S13
            go_upto_region 19 with fail
            generalize (w13.alloc (.cells #[.slice (some ⟨xl, 0, none⟩) i xc, .slice (some ⟨xf, 0, none⟩) i xcf, .slice (some ⟨xt, 0, none⟩) i xct, .int .i64 st.sea, .int .i64 0] 27)) = W14 at *
            generalize w13.heap.size = XA at *
            have B14 := Lib.hid S14.out.old
            have D14 := Lib.hid S14.out.dr
            go_wp2_with (at_builtin; refine wpList_append_lies _ rfl _ _ 25 rfl W14.heap.size 43 i0 (.agg #[.int .i64 0, .int .i64 0, .int .i64 0, .int .i64 0, .int .i64 0]) 5 40 Tryd.underlying25 hi0 hz0 hz1 hz2 rfl (by decide) _ _ _ rfl (World.ownsRow_made W14 #[] 0 (Nat.le_refl _) (Nat.zero_le _) rfl) ⟨gl, 0, none⟩ i cl ((listOf rs i).flatMap rcCells) rfl ?qd1 ?qd2 ?qd3 ?qd4 ?qd5 ?qd6 ?qd7 (W14.heap.size + 1) ?qd8 ?_)
            try (case qd1 => rw [rcCells_len, listOf_len])
            try (case qd2 => (
              intro j u hj
              have hjn : j < i * 5 := by
                have := (List.getElem?_eq_some_iff.1 hj).1
                rw [rcCells_len, listOf_len] at this
                exact this
              rw [Addr.add_lit]
              refine Lib.cell?_alloc_some _ ?_
              rw [Nat.zero_add, rc_cell (fun i hi => D14.out.2.2.2.1.cells hi) j hjn]
              rw [rcCells_get _ _ (by rw [listOf_len]; exact hjn)] at hj
              rw [← hj]
              unfold rcRow; rw [rcList_of rs (by omega)]))
            try (case qd3 => (
              intro u hu
              obtain ⟨x, _, hx⟩ := List.mem_flatMap.1 hu
              simp [rcCells] at hx
              rcases hx with rfl | rfl | rfl | rfl | rfl <;> rfl))
            try (case qd4 => omega)
            try (case qd5 => (unfold maxLen; omega))
            try (case qd6 => omega)
            try (case qd7 => first | omega | simp)
            try (case qd8 => simp)
            intro g15b g15 w15 hown hgrow hat hlt3
            have hb : Below W14.heap.size W14 w15 := ((Below.refl _ W14).alloc (Nat.le_refl _) _).grown hgrow (by simp) (by intro k hk; simp [Value.ownBlock] at hk; omega)
            have K15 : Hid (RcBlk g15b i rs w15) := Lib.hid (copy_blk (by simpa using hown))
            have B15 : Hid (Below w.heap.size w w15) := B14.out.trans (hb.mono B14.out.size)
            have D15 := Lib.hid (D14.out.below hb)
            have S15 := Lib.hid (S14.out.below hb)
            have RA15 := Lib.hid (RA.out.of_block (hb.block _ RA.out.lt))
            have L15 := Lib.hid (L14.out.block (hb.block _ L14.out.lt))
            have F15 := Lib.hid (F14.out.block (hb.block _ F14.out.lt))
            have T15 := Lib.hid (T14.out.block (hb.block _ T14.out.lt))
            clear S14 RA L14 F14 T14
            clear hown hgrow hat hlt3 hb B14 D14
            go_wp2_with fail
            refine (implStep_any _ _ i g15 i co rs f' _ K15.out.at_ S15.out.ot.at_ (HG.out.below S15.out.old)).mono ?_
            rintro e w16 ⟨hE, hb⟩
            have B16 := Lib.hid (S15.out.below hb).old
            have HEQ := Lib.hid S15.out.eq
            have RA16 := Lib.hid (RA15.out.of_block (hb.block _ RA15.out.lt))
            have L16 := Lib.hid (L15.out.block (hb.block _ L15.out.lt))
            have F16 := Lib.hid (F15.out.block (hb.block _ F15.out.lt))
            have T16 := Lib.hid (T15.out.block (hb.block _ T15.out.lt))
            clear hb S15 K15 RA15 L15 F15 T15 B15 D15
            rcases hE with ⟨k, hk, _, _⟩ | ⟨st'', yl, yf, yt, yc, ycf, yct, hk, rfl, hL⟩
            · rw [HK2.out] at hk; cases hk
            · rw [HK2.out] at hk
              cases hk
              obtain ⟨_, e1, e2, e3⟩ := Rv.run_above HRt.out HEQ.out (Nat.le_refl _) HRun.out HRun2.out P hP Rv.To.here
              have hb16 : Below w16.heap.size w16 (w16.alloc (.cells #[.slice (some ⟨yl, 0, none⟩) i yc, .slice (some ⟨yf, 0, none⟩) i ycf, .slice (some ⟨yt, 0, none⟩) i yct, .int .i64 st2.sea, .int .i64 0] 27)) := (Below.refl _ _).alloc (Nat.le_refl _) _
              have er : Rv.after rs st2 P = Rv.after rs st P := by unfold Rv.after; rw [e1]
              have RB : World.rowIs _ w16.heap.size 27 5 (ro5 (.slice (some ⟨yl, 0, none⟩) i yc) (.slice (some ⟨yf, 0, none⟩) i ycf) (.slice (some ⟨yt, 0, none⟩) i yct) st2.sea 0) := World.rowIs_alloc w16 #[.slice (some ⟨yl, 0, none⟩) i yc, .slice (some ⟨yf, 0, none⟩) i ycf, .slice (some ⟨yt, 0, none⟩) i yct, .int .i64 st2.sea, .int .i64 0] 27 _ (ro5_row (.slice (some ⟨yl, 0, none⟩) i yc) (.slice (some ⟨yf, 0, none⟩) i ycf) (.slice (some ⟨yt, 0, none⟩) i yct) st2.sea 0)
              have FS : Hid (FinS w XA w16.heap.size xl xf xt yl yf yt P (Rv.after rs st P) (st.fl P) (st.tk P) (ro5 (.slice (some ⟨xl, 0, none⟩) i xc) (.slice (some ⟨xf, 0, none⟩) i xcf) (.slice (some ⟨xt, 0, none⟩) i xct) st.sea 0) (ro5 (.slice (some ⟨yl, 0, none⟩) i yc) (.slice (some ⟨yf, 0, none⟩) i ycf) (.slice (some ⟨yt, 0, none⟩) i yct) st2.sea 0) (w16.alloc (.cells #[.slice (some ⟨yl, 0, none⟩) i yc, .slice (some ⟨yf, 0, none⟩) i ycf, .slice (some ⟨yt, 0, none⟩) i yct, .int .i64 st2.sea, .int .i64 0] 27))) := ⟨B16.out.trans (hb16.mono B16.out.size), RA16.out.of_block (hb16.block _ RA16.out.lt), RB, (L16.out.block (hb16.block _ L16.out.lt)).cells hP, (F16.out.block (hb16.block _ F16.out.lt)).cell hP, (T16.out.block (hb16.block _ T16.out.lt)).cell hP, by rw [← er]; exact (hL.2.2.1.block (hb16.block _ hL.2.2.1.lt)).cells hP, by rw [e3]; exact (hL.2.2.2.1.block (hb16.block _ hL.2.2.2.1.lt)).cell hP, by rw [e2]; exact (hL.2.2.2.2.block (hb16.block _ hL.2.2.2.2.lt)).cell hP⟩
              clear hL hb16 RB er e1 e2 e3 RA16 L16 F16 T16 B16
              generalize Rv.after rs st P = r at *
              generalize st.fl P = fx at *
              generalize st.tk P = tx at *
              go_upto_region 20 with fail
              generalize (w16.alloc (.cells #[.slice (some ⟨yl, 0, none⟩) i yc, .slice (some ⟨yf, 0, none⟩) i ycf, .slice (some ⟨yt, 0, none⟩) i yct, .int .i64 st2.sea, .int .i64 0] 27)) = W16 at *
              generalize w16.heap.size = XB at *
              have a0 : W16.cell? ⟨XA, 0, none⟩ = some (.slice (some ⟨xl, 0, none⟩) i xc) := FS.out.2.1.cell (i := 0) (by omega)
              have a1 : W16.cell? ⟨XA, 1, none⟩ = some (.slice (some ⟨xf, 0, none⟩) i xcf) := FS.out.2.1.cell (i := 1) (by omega)
              have a2 : W16.cell? ⟨XA, 2, none⟩ = some (.slice (some ⟨xt, 0, none⟩) i xct) := FS.out.2.1.cell (i := 2) (by omega)
              have b0 : W16.cell? ⟨XB, 0, none⟩ = some (.slice (some ⟨yl, 0, none⟩) i yc) := FS.out.2.2.1.cell (i := 0) (by omega)
              have b1 : W16.cell? ⟨XB, 1, none⟩ = some (.slice (some ⟨yf, 0, none⟩) i ycf) := FS.out.2.2.1.cell (i := 1) (by omega)
              have b2 : W16.cell? ⟨XB, 2, none⟩ = some (.slice (some ⟨yt, 0, none⟩) i yct) := FS.out.2.2.1.cell (i := 2) (by omega)
              have hPz : (P : Int) < (i : Int) := by omega
              have heq := eq_rc r
              go_wp2_with fail
              clear a0 a1 a2 b0 b1 b2
              refine wp_region_held_drew (S := FinS w XA XB xl xf xt yl yf yt P r fx tx (ro5 (.slice (some ⟨xl, 0, none⟩) i xc) (.slice (some ⟨xf, 0, none⟩) i xcf) (.slice (some ⟨xt, 0, none⟩) i xct) st.sea 0) (ro5 (.slice (some ⟨yl, 0, none⟩) i yc) (.slice (some ⟨yf, 0, none⟩) i ycf) (.slice (some ⟨yt, 0, none⟩) i yct) st2.sea 0)) (by kernel_rfl) FS.out.drew (fun hHeld => ?_)
              clear FS
              refine take_do (i := 0) (v := (.pointer (some ⟨XA, 0, none⟩))) rfl (by kernel_rfl) (by kernel_rfl) (by kernel_rfl) (fun _ _ _ h => h) (by rfl) ?_ (by assumption) ?_
              · intro w hSw
                clear hSw
                go_simp
              simp only [Act.put, List.setIfInBounds_toArray, List.set_cons_zero, List.set_cons_succ]
              refine take_do (i := 1) (v := (.slice (some ⟨xl, 0, none⟩) i xc)) rfl (by kernel_rfl) (by kernel_rfl) (by kernel_rfl) (fun _ _ _ h => h) (by rfl) ?_ (by assumption) ?_
              · intro w hSw
                obtain ⟨_, r1, r2, ⟨c0, c1, c2, c3, c4⟩, k1, k2, ⟨d0, d1, d2, d3, d4⟩, k3, k4⟩ := hSw
                have a0 : w.cell? ⟨XA, 0, none⟩ = some (.slice (some ⟨xl, 0, none⟩) i xc) := r1.cell (i := 0) (by omega)
                have a1 : w.cell? ⟨XA, 1, none⟩ = some (.slice (some ⟨xf, 0, none⟩) i xcf) := r1.cell (i := 1) (by omega)
                have a2 : w.cell? ⟨XA, 2, none⟩ = some (.slice (some ⟨xt, 0, none⟩) i xct) := r1.cell (i := 2) (by omega)
                have b0 : w.cell? ⟨XB, 0, none⟩ = some (.slice (some ⟨yl, 0, none⟩) i yc) := r2.cell (i := 0) (by omega)
                have b1 : w.cell? ⟨XB, 1, none⟩ = some (.slice (some ⟨yf, 0, none⟩) i ycf) := r2.cell (i := 1) (by omega)
                have b2 : w.cell? ⟨XB, 2, none⟩ = some (.slice (some ⟨yt, 0, none⟩) i yct) := r2.cell (i := 2) (by omega)
                clear r1 r2
                go_simp
              simp only [Act.put, List.setIfInBounds_toArray, List.set_cons_zero, List.set_cons_succ]
              refine take_do (i := 2) (v := (.int .i64 P)) rfl (by kernel_rfl) (by kernel_rfl) (by kernel_rfl) (fun _ _ _ h => h) (by rfl) ?_ (by assumption) ?_
              · intro w hSw
                clear hSw
                go_simp
              simp only [Act.put, List.setIfInBounds_toArray, List.set_cons_zero, List.set_cons_succ]
              refine take_do (i := 3) (v := (.pointer (some ⟨xl, P * 5, none⟩))) rfl (by kernel_rfl) (by kernel_rfl) (by kernel_rfl) (fun _ _ _ h => h) (by rfl) ?_ (by assumption) ?_
              · intro w hSw
                clear hSw
                go_simp
              simp only [Act.put, List.setIfInBounds_toArray, List.set_cons_zero, List.set_cons_succ]
              refine take_do (i := 4) (v := (rcV r)) rfl (by kernel_rfl) (by kernel_rfl) (by kernel_rfl) (fun _ _ _ h => h) (by rfl) ?_ (by assumption) ?_
              · intro w hSw
                obtain ⟨_, r1, r2, ⟨c0, c1, c2, c3, c4⟩, k1, k2, ⟨d0, d1, d2, d3, d4⟩, k3, k4⟩ := hSw
                have a0 : w.cell? ⟨XA, 0, none⟩ = some (.slice (some ⟨xl, 0, none⟩) i xc) := r1.cell (i := 0) (by omega)
                have a1 : w.cell? ⟨XA, 1, none⟩ = some (.slice (some ⟨xf, 0, none⟩) i xcf) := r1.cell (i := 1) (by omega)
                have a2 : w.cell? ⟨XA, 2, none⟩ = some (.slice (some ⟨xt, 0, none⟩) i xct) := r1.cell (i := 2) (by omega)
                have b0 : w.cell? ⟨XB, 0, none⟩ = some (.slice (some ⟨yl, 0, none⟩) i yc) := r2.cell (i := 0) (by omega)
                have b1 : w.cell? ⟨XB, 1, none⟩ = some (.slice (some ⟨yf, 0, none⟩) i ycf) := r2.cell (i := 1) (by omega)
                have b2 : w.cell? ⟨XB, 2, none⟩ = some (.slice (some ⟨yt, 0, none⟩) i yct) := r2.cell (i := 2) (by omega)
                clear r1 r2
                go_simp
              simp only [Act.put, List.setIfInBounds_toArray, List.set_cons_zero, List.set_cons_succ]
              refine take_do (i := 5) (v := (.pointer (some ⟨XB, 0, none⟩))) rfl (by kernel_rfl) (by kernel_rfl) (by kernel_rfl) (fun _ _ _ h => h) (by rfl) ?_ (by assumption) ?_
              · intro w hSw
                clear hSw
                go_simp
              simp only [Act.put, List.setIfInBounds_toArray, List.set_cons_zero, List.set_cons_succ]
              refine take_do (i := 6) (v := (.slice (some ⟨yl, 0, none⟩) i yc)) rfl (by kernel_rfl) (by kernel_rfl) (by kernel_rfl) (fun _ _ _ h => h) (by rfl) ?_ (by assumption) ?_
              · intro w hSw
                obtain ⟨_, r1, r2, ⟨c0, c1, c2, c3, c4⟩, k1, k2, ⟨d0, d1, d2, d3, d4⟩, k3, k4⟩ := hSw
                have a0 : w.cell? ⟨XA, 0, none⟩ = some (.slice (some ⟨xl, 0, none⟩) i xc) := r1.cell (i := 0) (by omega)
                have a1 : w.cell? ⟨XA, 1, none⟩ = some (.slice (some ⟨xf, 0, none⟩) i xcf) := r1.cell (i := 1) (by omega)
                have a2 : w.cell? ⟨XA, 2, none⟩ = some (.slice (some ⟨xt, 0, none⟩) i xct) := r1.cell (i := 2) (by omega)
                have b0 : w.cell? ⟨XB, 0, none⟩ = some (.slice (some ⟨yl, 0, none⟩) i yc) := r2.cell (i := 0) (by omega)
                have b1 : w.cell? ⟨XB, 1, none⟩ = some (.slice (some ⟨yf, 0, none⟩) i ycf) := r2.cell (i := 1) (by omega)
                have b2 : w.cell? ⟨XB, 2, none⟩ = some (.slice (some ⟨yt, 0, none⟩) i yct) := r2.cell (i := 2) (by omega)
                clear r1 r2
                go_simp
              simp only [Act.put, List.setIfInBounds_toArray, List.set_cons_zero, List.set_cons_succ]
              refine take_do (i := 7) (v := (.int .i64 P)) rfl (by kernel_rfl) (by kernel_rfl) (by kernel_rfl) (fun _ _ _ h => h) (by rfl) ?_ (by assumption) ?_
              · intro w hSw
                clear hSw
                go_simp
              simp only [Act.put, List.setIfInBounds_toArray, List.set_cons_zero, List.set_cons_succ]
              refine take_do (i := 8) (v := (.pointer (some ⟨yl, P * 5, none⟩))) rfl (by kernel_rfl) (by kernel_rfl) (by kernel_rfl) (fun _ _ _ h => h) (by rfl) ?_ (by assumption) ?_
              · intro w hSw
                clear hSw
                go_simp
              simp only [Act.put, List.setIfInBounds_toArray, List.set_cons_zero, List.set_cons_succ]
              refine take_do (i := 9) (v := (rcV r)) rfl (by kernel_rfl) (by kernel_rfl) (by kernel_rfl) (fun _ _ _ h => h) (by rfl) ?_ (by assumption) ?_
              · intro w hSw
                obtain ⟨_, r1, r2, ⟨c0, c1, c2, c3, c4⟩, k1, k2, ⟨d0, d1, d2, d3, d4⟩, k3, k4⟩ := hSw
                have a0 : w.cell? ⟨XA, 0, none⟩ = some (.slice (some ⟨xl, 0, none⟩) i xc) := r1.cell (i := 0) (by omega)
                have a1 : w.cell? ⟨XA, 1, none⟩ = some (.slice (some ⟨xf, 0, none⟩) i xcf) := r1.cell (i := 1) (by omega)
                have a2 : w.cell? ⟨XA, 2, none⟩ = some (.slice (some ⟨xt, 0, none⟩) i xct) := r1.cell (i := 2) (by omega)
                have b0 : w.cell? ⟨XB, 0, none⟩ = some (.slice (some ⟨yl, 0, none⟩) i yc) := r2.cell (i := 0) (by omega)
                have b1 : w.cell? ⟨XB, 1, none⟩ = some (.slice (some ⟨yf, 0, none⟩) i ycf) := r2.cell (i := 1) (by omega)
                have b2 : w.cell? ⟨XB, 2, none⟩ = some (.slice (some ⟨yt, 0, none⟩) i yct) := r2.cell (i := 2) (by omega)
                clear r1 r2
                go_simp
              simp only [Act.put, List.setIfInBounds_toArray, List.set_cons_zero, List.set_cons_succ]
              refine take_do (i := 10) (v := (.bool true)) rfl (by kernel_rfl) (by kernel_rfl) (by kernel_rfl) (fun _ _ _ h => h) (by rfl) ?_ (by assumption) ?_
              · intro w hSw
                clear hSw
                go_simp
              simp only [Act.put, List.setIfInBounds_toArray, List.set_cons_zero, List.set_cons_succ]
              refine take_do (i := 11) (v := (.bool true)) rfl (by kernel_rfl) (by kernel_rfl) (by kernel_rfl) (fun _ _ _ h => h) (by rfl) ?_ (by assumption) ?_
              · intro w hSw
                clear hSw
                go_simp
              simp only [Act.put, List.setIfInBounds_toArray, List.set_cons_zero, List.set_cons_succ]
              refine take_do (i := 12) (v := (.pointer (some ⟨XA, 1, none⟩))) rfl (by kernel_rfl) (by kernel_rfl) (by kernel_rfl) (fun _ _ _ h => h) (by rfl) ?_ (by assumption) ?_
              · intro w hSw
                clear hSw
                go_simp
              simp only [Act.put, List.setIfInBounds_toArray, List.set_cons_zero, List.set_cons_succ]
              refine take_do (i := 13) (v := (.slice (some ⟨xf, 0, none⟩) i xcf)) rfl (by kernel_rfl) (by kernel_rfl) (by kernel_rfl) (fun _ _ _ h => h) (by rfl) ?_ (by assumption) ?_
              · intro w hSw
                obtain ⟨_, r1, r2, ⟨c0, c1, c2, c3, c4⟩, k1, k2, ⟨d0, d1, d2, d3, d4⟩, k3, k4⟩ := hSw
                have a0 : w.cell? ⟨XA, 0, none⟩ = some (.slice (some ⟨xl, 0, none⟩) i xc) := r1.cell (i := 0) (by omega)
                have a1 : w.cell? ⟨XA, 1, none⟩ = some (.slice (some ⟨xf, 0, none⟩) i xcf) := r1.cell (i := 1) (by omega)
                have a2 : w.cell? ⟨XA, 2, none⟩ = some (.slice (some ⟨xt, 0, none⟩) i xct) := r1.cell (i := 2) (by omega)
                have b0 : w.cell? ⟨XB, 0, none⟩ = some (.slice (some ⟨yl, 0, none⟩) i yc) := r2.cell (i := 0) (by omega)
                have b1 : w.cell? ⟨XB, 1, none⟩ = some (.slice (some ⟨yf, 0, none⟩) i ycf) := r2.cell (i := 1) (by omega)
                have b2 : w.cell? ⟨XB, 2, none⟩ = some (.slice (some ⟨yt, 0, none⟩) i yct) := r2.cell (i := 2) (by omega)
                clear r1 r2
                go_simp
              simp only [Act.put, List.setIfInBounds_toArray, List.set_cons_zero, List.set_cons_succ]
              refine take_do (i := 14) (v := (.int .i64 P)) rfl (by kernel_rfl) (by kernel_rfl) (by kernel_rfl) (fun _ _ _ h => h) (by rfl) ?_ (by assumption) ?_
              · intro w hSw
                clear hSw
                go_simp
              simp only [Act.put, List.setIfInBounds_toArray, List.set_cons_zero, List.set_cons_succ]
              refine take_do (i := 15) (v := (.pointer (some ⟨xf, P, none⟩))) rfl (by kernel_rfl) (by kernel_rfl) (by kernel_rfl) (fun _ _ _ h => h) (by rfl) ?_ (by assumption) ?_
              · intro w hSw
                clear hSw
                go_simp
              simp only [Act.put, List.setIfInBounds_toArray, List.set_cons_zero, List.set_cons_succ]
              refine take_do (i := 16) (v := (.int .i64 fx)) rfl (by kernel_rfl) (by kernel_rfl) (by kernel_rfl) (fun _ _ _ h => h) (by rfl) ?_ (by assumption) ?_
              · intro w hSw
                obtain ⟨_, r1, r2, ⟨c0, c1, c2, c3, c4⟩, k1, k2, ⟨d0, d1, d2, d3, d4⟩, k3, k4⟩ := hSw
                have a0 : w.cell? ⟨XA, 0, none⟩ = some (.slice (some ⟨xl, 0, none⟩) i xc) := r1.cell (i := 0) (by omega)
                have a1 : w.cell? ⟨XA, 1, none⟩ = some (.slice (some ⟨xf, 0, none⟩) i xcf) := r1.cell (i := 1) (by omega)
                have a2 : w.cell? ⟨XA, 2, none⟩ = some (.slice (some ⟨xt, 0, none⟩) i xct) := r1.cell (i := 2) (by omega)
                have b0 : w.cell? ⟨XB, 0, none⟩ = some (.slice (some ⟨yl, 0, none⟩) i yc) := r2.cell (i := 0) (by omega)
                have b1 : w.cell? ⟨XB, 1, none⟩ = some (.slice (some ⟨yf, 0, none⟩) i ycf) := r2.cell (i := 1) (by omega)
                have b2 : w.cell? ⟨XB, 2, none⟩ = some (.slice (some ⟨yt, 0, none⟩) i yct) := r2.cell (i := 2) (by omega)
                clear r1 r2
                go_simp
              simp only [Act.put, List.setIfInBounds_toArray, List.set_cons_zero, List.set_cons_succ]
              refine take_do (i := 17) (v := (.pointer (some ⟨XB, 1, none⟩))) rfl (by kernel_rfl) (by kernel_rfl) (by kernel_rfl) (fun _ _ _ h => h) (by rfl) ?_ (by assumption) ?_
              · intro w hSw
                clear hSw
                go_simp
              simp only [Act.put, List.setIfInBounds_toArray, List.set_cons_zero, List.set_cons_succ]
              refine take_do (i := 18) (v := (.slice (some ⟨yf, 0, none⟩) i ycf)) rfl (by kernel_rfl) (by kernel_rfl) (by kernel_rfl) (fun _ _ _ h => h) (by rfl) ?_ (by assumption) ?_
              · intro w hSw
                obtain ⟨_, r1, r2, ⟨c0, c1, c2, c3, c4⟩, k1, k2, ⟨d0, d1, d2, d3, d4⟩, k3, k4⟩ := hSw
                have a0 : w.cell? ⟨XA, 0, none⟩ = some (.slice (some ⟨xl, 0, none⟩) i xc) := r1.cell (i := 0) (by omega)
                have a1 : w.cell? ⟨XA, 1, none⟩ = some (.slice (some ⟨xf, 0, none⟩) i xcf) := r1.cell (i := 1) (by omega)
                have a2 : w.cell? ⟨XA, 2, none⟩ = some (.slice (some ⟨xt, 0, none⟩) i xct) := r1.cell (i := 2) (by omega)
                have b0 : w.cell? ⟨XB, 0, none⟩ = some (.slice (some ⟨yl, 0, none⟩) i yc) := r2.cell (i := 0) (by omega)
                have b1 : w.cell? ⟨XB, 1, none⟩ = some (.slice (some ⟨yf, 0, none⟩) i ycf) := r2.cell (i := 1) (by omega)
                have b2 : w.cell? ⟨XB, 2, none⟩ = some (.slice (some ⟨yt, 0, none⟩) i yct) := r2.cell (i := 2) (by omega)
                clear r1 r2
                go_simp
              simp only [Act.put, List.setIfInBounds_toArray, List.set_cons_zero, List.set_cons_succ]
              refine take_do (i := 19) (v := (.int .i64 P)) rfl (by kernel_rfl) (by kernel_rfl) (by kernel_rfl) (fun _ _ _ h => h) (by rfl) ?_ (by assumption) ?_
              · intro w hSw
                clear hSw
                go_simp
              simp only [Act.put, List.setIfInBounds_toArray, List.set_cons_zero, List.set_cons_succ]
              refine take_do (i := 20) (v := (.pointer (some ⟨yf, P, none⟩))) rfl (by kernel_rfl) (by kernel_rfl) (by kernel_rfl) (fun _ _ _ h => h) (by rfl) ?_ (by assumption) ?_
              · intro w hSw
                clear hSw
                go_simp
              simp only [Act.put, List.setIfInBounds_toArray, List.set_cons_zero, List.set_cons_succ]
              refine take_do (i := 21) (v := (.int .i64 fx)) rfl (by kernel_rfl) (by kernel_rfl) (by kernel_rfl) (fun _ _ _ h => h) (by rfl) ?_ (by assumption) ?_
              · intro w hSw
                obtain ⟨_, r1, r2, ⟨c0, c1, c2, c3, c4⟩, k1, k2, ⟨d0, d1, d2, d3, d4⟩, k3, k4⟩ := hSw
                have a0 : w.cell? ⟨XA, 0, none⟩ = some (.slice (some ⟨xl, 0, none⟩) i xc) := r1.cell (i := 0) (by omega)
                have a1 : w.cell? ⟨XA, 1, none⟩ = some (.slice (some ⟨xf, 0, none⟩) i xcf) := r1.cell (i := 1) (by omega)
                have a2 : w.cell? ⟨XA, 2, none⟩ = some (.slice (some ⟨xt, 0, none⟩) i xct) := r1.cell (i := 2) (by omega)
                have b0 : w.cell? ⟨XB, 0, none⟩ = some (.slice (some ⟨yl, 0, none⟩) i yc) := r2.cell (i := 0) (by omega)
                have b1 : w.cell? ⟨XB, 1, none⟩ = some (.slice (some ⟨yf, 0, none⟩) i ycf) := r2.cell (i := 1) (by omega)
                have b2 : w.cell? ⟨XB, 2, none⟩ = some (.slice (some ⟨yt, 0, none⟩) i yct) := r2.cell (i := 2) (by omega)
                clear r1 r2
                go_simp
              simp only [Act.put, List.setIfInBounds_toArray, List.set_cons_zero, List.set_cons_succ]
              refine take_do (i := 22) (v := (.bool true)) rfl (by kernel_rfl) (by kernel_rfl) (by kernel_rfl) (fun _ _ _ h => h) (by rfl) ?_ (by assumption) ?_
              · intro w hSw
                clear hSw
                go_simp
              simp only [Act.put, List.setIfInBounds_toArray, List.set_cons_zero, List.set_cons_succ]
              refine take_do (i := 23) (v := (.bool true)) rfl (by kernel_rfl) (by kernel_rfl) (by kernel_rfl) (fun _ _ _ h => h) (by rfl) ?_ (by assumption) ?_
              · intro w hSw
                clear hSw
                go_simp
              simp only [Act.put, List.setIfInBounds_toArray, List.set_cons_zero, List.set_cons_succ]
              refine take_do (i := 24) (v := (.bool true)) rfl (by kernel_rfl) (by kernel_rfl) (by kernel_rfl) (fun _ _ _ h => h) (by rfl) ?_ (by assumption) ?_
              · intro w hSw
                clear hSw
                go_simp
              simp only [Act.put, List.setIfInBounds_toArray, List.set_cons_zero, List.set_cons_succ]
              refine take_do (i := 25) (v := (.pointer (some ⟨XA, 2, none⟩))) rfl (by kernel_rfl) (by kernel_rfl) (by kernel_rfl) (fun _ _ _ h => h) (by rfl) ?_ (by assumption) ?_
              · intro w hSw
                clear hSw
                go_simp
              simp only [Act.put, List.setIfInBounds_toArray, List.set_cons_zero, List.set_cons_succ]
              refine take_do (i := 26) (v := (.slice (some ⟨xt, 0, none⟩) i xct)) rfl (by kernel_rfl) (by kernel_rfl) (by kernel_rfl) (fun _ _ _ h => h) (by rfl) ?_ (by assumption) ?_
              · intro w hSw
                obtain ⟨_, r1, r2, ⟨c0, c1, c2, c3, c4⟩, k1, k2, ⟨d0, d1, d2, d3, d4⟩, k3, k4⟩ := hSw
                have a0 : w.cell? ⟨XA, 0, none⟩ = some (.slice (some ⟨xl, 0, none⟩) i xc) := r1.cell (i := 0) (by omega)
                have a1 : w.cell? ⟨XA, 1, none⟩ = some (.slice (some ⟨xf, 0, none⟩) i xcf) := r1.cell (i := 1) (by omega)
                have a2 : w.cell? ⟨XA, 2, none⟩ = some (.slice (some ⟨xt, 0, none⟩) i xct) := r1.cell (i := 2) (by omega)
                have b0 : w.cell? ⟨XB, 0, none⟩ = some (.slice (some ⟨yl, 0, none⟩) i yc) := r2.cell (i := 0) (by omega)
                have b1 : w.cell? ⟨XB, 1, none⟩ = some (.slice (some ⟨yf, 0, none⟩) i ycf) := r2.cell (i := 1) (by omega)
                have b2 : w.cell? ⟨XB, 2, none⟩ = some (.slice (some ⟨yt, 0, none⟩) i yct) := r2.cell (i := 2) (by omega)
                clear r1 r2
                go_simp
              simp only [Act.put, List.setIfInBounds_toArray, List.set_cons_zero, List.set_cons_succ]
              refine take_do (i := 27) (v := (.int .i64 P)) rfl (by kernel_rfl) (by kernel_rfl) (by kernel_rfl) (fun _ _ _ h => h) (by rfl) ?_ (by assumption) ?_
              · intro w hSw
                clear hSw
                go_simp
              simp only [Act.put, List.setIfInBounds_toArray, List.set_cons_zero, List.set_cons_succ]
              refine take_do (i := 28) (v := (.pointer (some ⟨xt, P, none⟩))) rfl (by kernel_rfl) (by kernel_rfl) (by kernel_rfl) (fun _ _ _ h => h) (by rfl) ?_ (by assumption) ?_
              · intro w hSw
                clear hSw
                go_simp
              simp only [Act.put, List.setIfInBounds_toArray, List.set_cons_zero, List.set_cons_succ]
              refine take_do (i := 29) (v := (.int .i64 tx)) rfl (by kernel_rfl) (by kernel_rfl) (by kernel_rfl) (fun _ _ _ h => h) (by rfl) ?_ (by assumption) ?_
              · intro w hSw
                obtain ⟨_, r1, r2, ⟨c0, c1, c2, c3, c4⟩, k1, k2, ⟨d0, d1, d2, d3, d4⟩, k3, k4⟩ := hSw
                have a0 : w.cell? ⟨XA, 0, none⟩ = some (.slice (some ⟨xl, 0, none⟩) i xc) := r1.cell (i := 0) (by omega)
                have a1 : w.cell? ⟨XA, 1, none⟩ = some (.slice (some ⟨xf, 0, none⟩) i xcf) := r1.cell (i := 1) (by omega)
                have a2 : w.cell? ⟨XA, 2, none⟩ = some (.slice (some ⟨xt, 0, none⟩) i xct) := r1.cell (i := 2) (by omega)
                have b0 : w.cell? ⟨XB, 0, none⟩ = some (.slice (some ⟨yl, 0, none⟩) i yc) := r2.cell (i := 0) (by omega)
                have b1 : w.cell? ⟨XB, 1, none⟩ = some (.slice (some ⟨yf, 0, none⟩) i ycf) := r2.cell (i := 1) (by omega)
                have b2 : w.cell? ⟨XB, 2, none⟩ = some (.slice (some ⟨yt, 0, none⟩) i yct) := r2.cell (i := 2) (by omega)
                clear r1 r2
                go_simp
              simp only [Act.put, List.setIfInBounds_toArray, List.set_cons_zero, List.set_cons_succ]
              refine take_do (i := 30) (v := (.pointer (some ⟨XB, 2, none⟩))) rfl (by kernel_rfl) (by kernel_rfl) (by kernel_rfl) (fun _ _ _ h => h) (by rfl) ?_ (by assumption) ?_
              · intro w hSw
                clear hSw
                go_simp
              simp only [Act.put, List.setIfInBounds_toArray, List.set_cons_zero, List.set_cons_succ]
              refine take_do (i := 31) (v := (.slice (some ⟨yt, 0, none⟩) i yct)) rfl (by kernel_rfl) (by kernel_rfl) (by kernel_rfl) (fun _ _ _ h => h) (by rfl) ?_ (by assumption) ?_
              · intro w hSw
                obtain ⟨_, r1, r2, ⟨c0, c1, c2, c3, c4⟩, k1, k2, ⟨d0, d1, d2, d3, d4⟩, k3, k4⟩ := hSw
                have a0 : w.cell? ⟨XA, 0, none⟩ = some (.slice (some ⟨xl, 0, none⟩) i xc) := r1.cell (i := 0) (by omega)
                have a1 : w.cell? ⟨XA, 1, none⟩ = some (.slice (some ⟨xf, 0, none⟩) i xcf) := r1.cell (i := 1) (by omega)
                have a2 : w.cell? ⟨XA, 2, none⟩ = some (.slice (some ⟨xt, 0, none⟩) i xct) := r1.cell (i := 2) (by omega)
                have b0 : w.cell? ⟨XB, 0, none⟩ = some (.slice (some ⟨yl, 0, none⟩) i yc) := r2.cell (i := 0) (by omega)
                have b1 : w.cell? ⟨XB, 1, none⟩ = some (.slice (some ⟨yf, 0, none⟩) i ycf) := r2.cell (i := 1) (by omega)
                have b2 : w.cell? ⟨XB, 2, none⟩ = some (.slice (some ⟨yt, 0, none⟩) i yct) := r2.cell (i := 2) (by omega)
                clear r1 r2
                go_simp
              simp only [Act.put, List.setIfInBounds_toArray, List.set_cons_zero, List.set_cons_succ]
              refine take_do (i := 32) (v := (.int .i64 P)) rfl (by kernel_rfl) (by kernel_rfl) (by kernel_rfl) (fun _ _ _ h => h) (by rfl) ?_ (by assumption) ?_
              · intro w hSw
                clear hSw
                go_simp
              simp only [Act.put, List.setIfInBounds_toArray, List.set_cons_zero, List.set_cons_succ]
              refine take_do (i := 33) (v := (.pointer (some ⟨yt, P, none⟩))) rfl (by kernel_rfl) (by kernel_rfl) (by kernel_rfl) (fun _ _ _ h => h) (by rfl) ?_ (by assumption) ?_
              · intro w hSw
                clear hSw
                go_simp
              simp only [Act.put, List.setIfInBounds_toArray, List.set_cons_zero, List.set_cons_succ]
              refine take_do (i := 34) (v := (.int .i64 tx)) rfl (by kernel_rfl) (by kernel_rfl) (by kernel_rfl) (fun _ _ _ h => h) (by rfl) ?_ (by assumption) ?_
              · intro w hSw
                obtain ⟨_, r1, r2, ⟨c0, c1, c2, c3, c4⟩, k1, k2, ⟨d0, d1, d2, d3, d4⟩, k3, k4⟩ := hSw
                have a0 : w.cell? ⟨XA, 0, none⟩ = some (.slice (some ⟨xl, 0, none⟩) i xc) := r1.cell (i := 0) (by omega)
                have a1 : w.cell? ⟨XA, 1, none⟩ = some (.slice (some ⟨xf, 0, none⟩) i xcf) := r1.cell (i := 1) (by omega)
                have a2 : w.cell? ⟨XA, 2, none⟩ = some (.slice (some ⟨xt, 0, none⟩) i xct) := r1.cell (i := 2) (by omega)
                have b0 : w.cell? ⟨XB, 0, none⟩ = some (.slice (some ⟨yl, 0, none⟩) i yc) := r2.cell (i := 0) (by omega)
                have b1 : w.cell? ⟨XB, 1, none⟩ = some (.slice (some ⟨yf, 0, none⟩) i ycf) := r2.cell (i := 1) (by omega)
                have b2 : w.cell? ⟨XB, 2, none⟩ = some (.slice (some ⟨yt, 0, none⟩) i yct) := r2.cell (i := 2) (by omega)
                clear r1 r2
                go_simp
              simp only [Act.put, List.setIfInBounds_toArray, List.set_cons_zero, List.set_cons_succ]
              refine take_do (i := 35) (v := (.bool true)) rfl (by kernel_rfl) (by kernel_rfl) (by kernel_rfl) (fun _ _ _ h => h) (by rfl) ?_ (by assumption) ?_
              · intro w hSw
                clear hSw
                go_simp
              simp only [Act.put, List.setIfInBounds_toArray, List.set_cons_zero, List.set_cons_succ]
              refine take_do (i := 36) (v := (.bool true)) rfl (by kernel_rfl) (by kernel_rfl) (by kernel_rfl) (fun _ _ _ h => h) (by rfl) ?_ (by assumption) ?_
              · intro w hSw
                clear hSw
                go_simp
              simp only [Act.put, List.setIfInBounds_toArray, List.set_cons_zero, List.set_cons_succ]
              refine take_do (i := 37) (v := (.bool true)) rfl (by kernel_rfl) (by kernel_rfl) (by kernel_rfl) (fun _ _ _ h => h) (by rfl) ?_ (by assumption) ?_
              · intro w hSw
                clear hSw
                go_simp
              simp only [Act.put, List.setIfInBounds_toArray, List.set_cons_zero, List.set_cons_succ]
              refine wpAnyH_done (by kernel_rfl) ?_ _
              have BE := Lib.hid hHeld.1
              clear hHeld
              go_wp2_with fail
              go_ret
              exact ⟨rfl, BE.out⟩
set_option maxRecDepth 100000 in
theorem aboveR_all (w : World) (a : Option Addr) (len cap : Nat) (h : Bytes a len w) (_hm : len ≤ 9223372036854775807) (b : Option Addr) (len2 cap2 : Nat) (h2 : Bytes b len2 w) (_hm2 : len2 ≤ 9223372036854775807) (hg : Et w) :
    Calls Tryd.prog 6 #[.slice a len cap, .slice b len2 cap2] w fun e w' => e = .returned (.bool true) ∧ Below w.heap.size w w' := by
  by_cases hl : len ≤ 1048576
  · by_cases hl2 : len2 ≤ 1048576
    · exact aboveR_law a b len cap len2 cap2 w h h2 hl hl2 hg
    · have hz : ¬ (1048576 : Int) < (len : Int) := by omega
      have hz2 : (1048576 : Int) < (len2 : Int) := by omega
      go_enter Tryd.func6, Tryd.ntmps6
      go_wp2_with fail
      go_ret
      exact ⟨rfl, Below.refl _ _⟩
  · have hz : (1048576 : Int) < (len : Int) := by omega
    go_enter Tryd.func6, Tryd.ntmps6
    go_wp2_with fail
    go_ret
    exact ⟨rfl, Below.refl _ _⟩
end Go.Proofs.YtdpghhmcibiplaaDoor
