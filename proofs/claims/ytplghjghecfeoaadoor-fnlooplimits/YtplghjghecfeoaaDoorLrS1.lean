/-
  The model's LoopRun.
-/
import Derived.Test.YtplghjghecfeoaaDoorLrR2
import Derived.Laws.OwnMore
namespace Go.Proofs.YtplghjghecfeoaaDoor
open Go.RowKit Go.Deep

attribute [local go_sem] lrun_store_float lrun_store_complex
/-- A loop's six, its start, its wants: one list. -/
def Fl.allF (l : Fl.Lo) (start : Nat) (f : Nat → Nat) (i : Nat) : Nat := if i < 6 then l.at_ i else if i = 6 then start else f (i - 7)
theorem lst_all (l : Fl.Lo) (start : Nat) (f : Nat → Nat) : ∀ n, [.float .f64 l.up, .float .f64 l.sum, .float .f64 l.gain, .float .f64 l.lag, .float .f64 l.low, .float .f64 l.high, .float .f64 start] ++ lst f n = lst (Fl.allF l start f) (7 + n)
  | 0 => rfl
  | n + 1 => by
    rw [lst_succ, ← List.append_assoc, lst_all l start f n]
    show _ = lst (Fl.allF l start f) (7 + n + 1)
    rw [lst_succ]
    have : Fl.allF l start f (7 + n) = f n := by
      unfold Fl.allF
      rw [if_neg (by omega), if_neg (by omega)]
      congr 1; omega
    rw [this]
theorem all_split (l : Fl.Lo) (start n : Nat) (f : Nat → Nat) : Fl.allB (Fl.allF l start f) (7 + n) = (Fl.allB l.at_ 6 && (Fl.measB start && Fl.allB f n)) := by
  rw [Bool.eq_iff_iff]
  constructor
  · intro h
    have hat := Fl.allB_at h
    have h1 : Fl.allB l.at_ 6 = true := Fl.allB_of (fun i hi => by
      have := hat i (by omega)
      unfold Fl.allF at this
      rw [if_pos hi] at this
      exact this)
    have h2 : Fl.measB start = true := by
      have := hat 6 (by omega)
      exact this
    have h3 : Fl.allB f n = true := Fl.allB_of (fun i hi => by
      have := hat (7 + i) (by omega)
      unfold Fl.allF at this
      rw [if_neg (by omega), if_neg (by omega)] at this
      have e : 7 + i - 7 = i := by omega
      rw [e] at this
      exact this)
    rw [h1, h2, h3]; rfl
  · intro h
    obtain ⟨h1, h2⟩ := Bool.and_eq_true_iff.1 h
    obtain ⟨h2, h3⟩ := Bool.and_eq_true_iff.1 h2
    refine Fl.allB_of (fun i hi => ?_)
    unfold Fl.allF
    by_cases c1 : i < 6
    · rw [if_pos c1]; exact Fl.allB_at h1 i c1
    · rw [if_neg c1]
      by_cases c2 : i = 6
      · rw [if_pos c2]; exact h2
      · rw [if_neg c2]; exact Fl.allB_at h3 _ (by omega)
theorem one_num : ∃ s m e, Ieee.double.read 4607182418800017408 = .number s m e := ⟨_, _, _, Fl.one_read⟩
/-- What stands from round to round: the box besides. -/
structure RunS (w : World) (l : Fl.Lo) (b9 : Nat) (c1 c2 v1 : Value) (n1 : Nat) (f1 : Nat → Nat) (v2 : Value) (n2 : Nat) (f2 : Nat → Nat) (W : World) : Prop where
  base : RnB w b9 c1 c2 v1 n1 f1 v2 n2 f2 W
  box : W.rowIs w.heap.size 25 6 (rowL (loL l))
section
variable {w : World} {l : Fl.Lo} {b9 : Nat} {c1 c2 v1 : Value} {n1 : Nat} {f1 : Nat → Nat} {v2 : Value} {n2 : Nat} {f2 : Nat → Nat} {W : World}
theorem RunS.push1 {W' : World} {v' : Value} {o : Obj} (h : RunS w l b9 c1 c2 v1 n1 f1 v2 n2 f2 W) (hown : W'.ownsRow (b9 + 1) 23 1 v' (n1 + 1) (lst f1 n1 ++ [.float .f64 (f1 n1)])) (hg : (W.alloc o).grownBy W' v1.ownBlock) (hat : v'.ownBlock = v1.ownBlock ∨ v'.ownBlock = some (W.alloc o).heap.size) : RunS w l b9 c1 c2 v' (n1 + 1) f1 v2 n2 f2 W' :=
  ⟨h.base.push1 hown hg hat, h.base.far (Or.inl rfl) hg h.box (by have := h.base.num; omega)⟩
theorem RunS.push2 {W' : World} {v' : Value} {o : Obj} (h : RunS w l b9 c1 c2 v1 n1 f1 v2 n2 f2 W) (hown : W'.ownsRow (b9 + 1) 23 1 v' (n2 + 1) (lst f2 n2 ++ [.float .f64 (f2 n2)])) (hg : (W.alloc o).grownBy W' v2.ownBlock) (hat : v'.ownBlock = v2.ownBlock ∨ v'.ownBlock = some (W.alloc o).heap.size) : RunS w l b9 c1 c2 v1 n1 f1 v' (n2 + 1) f2 W' :=
  ⟨h.base.push2 hown hg hat, h.base.far (Or.inr rfl) hg h.box (by have := h.base.num; omega)⟩
theorem RunS.set0 (h : RunS w l b9 c1 c2 v1 n1 f1 v2 n2 f2 W) (u : Value) : RunS w l b9 u c2 v1 n1 f1 v2 n2 f2 (W.setCell ⟨b9, 0, none⟩ u) :=
  have hn := h.base.num
  ⟨h.base.set0 u, h.box.setOther (a := ⟨b9, 0, none⟩) (by show w.heap.size ≠ b9; omega) _⟩
theorem RunS.set1 (h : RunS w l b9 c1 c2 v1 n1 f1 v2 n2 f2 W) (u : Value) : RunS w l b9 c1 u v1 n1 f1 v2 n2 f2 (W.setCell ⟨b9, 1, none⟩ u) :=
  have hn := h.base.num
  ⟨h.base.set1 u, h.box.setOther (a := ⟨b9, 1, none⟩) (by show w.heap.size ≠ b9; omega) _⟩
end
set_option maxRecDepth 100000 in
set_option maxHeartbeats 16000000 in
theorem specLoop_any (l : Fl.Lo) (start g n cap : Nat) (f : Nat → Nat) (w : World) (h : ∀ i, i < n → w.cell? ⟨g, i, none⟩ = some (.float .f64 (f i))) :
    Calls Tryd.prog 6 #[loV l, .float .f64 start, .slice (some ⟨g, 0, none⟩) n cap] w fun e w' => LoEnd w.heap.size l start n f e w' ∧ Below w.heap.size w w' := by
  obtain ⟨W, hW⟩ : ∃ W, W = (w.alloc (.cells #[.float .f64 l.up, .float .f64 l.sum, .float .f64 l.gain, .float .f64 l.lag, .float .f64 l.low, .float .f64 l.high] 25)).alloc (.cells #[nilS, nilS, .int .i64 0] 30) := ⟨_, rfl⟩
  have HB : Hid (Below w.heap.size w W) := by show Below _ _ _; rw [hW]; exact (bel_alloc _ _).alloc (by simp) _
  have HX : Hid (W.rowIs w.heap.size 25 6 (rowL (loL l))) := by show World.rowIs _ _ _ _ _; rw [hW]; exact wrow_below (rowL_alloc w (loL l) _) (bel_alloc _ _)
  have HR : Hid (W.rowIs (w.heap.size + 1) 30 3 (rowL (outL nilS nilS 0))) := by show World.rowIs _ _ _ _ _; rw [hW]; exact rowL_alloc' (by simp) (outL nilS nilS 0) _
  have HZ : Hid (W.heap.size = w.heap.size + 2) := by show _ = _; rw [hW]; simp
  have HW := Lib.hid hW
  have HC := Lib.hid h
  clear hW h
  by_cases hbig : 200 < n
  · have hz : (200 : Int) < (n : Int) := by omega
    have HCO := Lib.hid (code_size (l := l) (start := start) (f := f) hbig)
    go_enter Tryd.func6, Tryd.ntmps6
    go_wp2_with fail
    exact bodyPost_ret (v := .agg #[nilS, nilS, .int .i64 2]) (by simp [results, Tryd.results6, go_sem]) rfl ⟨loEnd_bad HCO.out (by decide), (bel_alloc _ _).alloc (by simp) _⟩
  have hz : ¬ (200 : Int) < (n : Int) := by omega
  have HN := Lib.hid hbig
  have hn200 : n ≤ 200 := by omega
  clear hbig
  obtain ⟨i0, hi, hz0, hz1, hz2⟩ := info_parts linfo_f64
  have HO : Hid (∀ o, ((w.alloc (.cells #[.float .f64 l.up, .float .f64 l.sum, .float .f64 l.gain, .float .f64 l.lag, .float .f64 l.low, .float .f64 l.high] 25)).alloc (.cells #[nilS, nilS, .int .i64 0] 30)).alloc o = W.alloc o) := fun o => by rw [HW.out]
  go_enter Tryd.func6, Tryd.ntmps6
  go_wp2_with (at_builtin; refine wpList_append_own_at _ rfl _ _ 26 rfl (w.heap.size + 2) 23 i0 (.float .f64 0) 1 8 Tryd.underlying26 hi hz0 hz1 hz2 rfl (by decide) _ 7 [.float .f64 l.up, .float .f64 l.sum, .float .f64 l.gain, .float .f64 l.lag, .float .f64 l.low, .float .f64 l.high, .float .f64 start] rfl ?d0 ⟨g, 0, none⟩ n cap (lst f n) rfl ?d6 ?d1 ?d2 ?d3 ?d4 ?d5 ?_)
  case d0 => rw [HO.out]; have := HZ.out; simpa [HZ.out] using World.ownsRow_lit (base := w.heap.size + 2) (e := 23) (size := 1) W #[.float .f64 l.up, .float .f64 l.sum, .float .f64 l.gain, .float .f64 l.lag, .float .f64 l.low, .float .f64 l.high, .float .f64 start] 7 (by omega) (by decide) rfl
  case d6 => simp [lst_len]
  case d1 =>
    intro j u hj
    have hjn : j < n := by
      rcases Nat.lt_or_ge j n with h | h
      · exact h
      · rw [List.getElem?_eq_none (by rw [lst_len]; exact h)] at hj; cases hj
    rw [lst_at hjn] at hj
    injection hj with hj
    subst hj
    rw [HO.out]
    have hcell := HC.out j hjn
    have hlt : g < w.heap.size := World.block_lt_of_cell? _ _ hcell
    rw [World.cell?_alloc_lt _ _ ⟨g, j, none⟩ (by have := HZ.out; show g < _; omega)]
    exact (HB.out.cell (p := ⟨g, j, none⟩) hlt).trans hcell
  case d2 =>
    intro u hu
    unfold lst at hu
    obtain ⟨i, _, e⟩ := List.mem_map.1 hu
    rw [← e]; rfl
  case d3 => unfold maxLen; omega
  case d4 => omega
  intro va w1 hown hgrow _ _
  rw [HO.out] at hgrow
  obtain ⟨N, hN⟩ : ∃ N, N = 7 + n := ⟨_, rfl⟩
  have HOW : Hid (OwnF (w.heap.size + 2) va N (Fl.allF l start f) w1) := by show World.ownsRow _ _ _ _ _ _ _; rw [hN, ← lst_all]; exact hown
  have hbk : Below W.heap.size W w1 := ⟨hgrow.os, hgrow.tape, hgrow.output, by have := hgrow.size; simp at this; omega, fun k hk => by
    rw [hgrow.block k (by simp; omega) (fun e => by have h2 : k = W.heap.size := (Option.some.inj (e.trans (by simp [Value.ownBlock, HZ.out]))); omega)]
    exact blk_alloc_lt _ _ _ hk⟩
  replace HX := Lib.hid (wrow_below HX.out hbk)
  replace HR := Lib.hid (wrow_below HR.out hbk)
  replace HB : Hid (Below w.heap.size w w1) := HB.out.trans (hbk.mono HB.out.size)
  clear hown hgrow hbk HW HO HZ
  obtain ⟨gv, kv, rfl⟩ : ∃ g k, va = .slice (some ⟨g, 0, none⟩) N k := by
    rcases HOW.out.form with ⟨_, e⟩ | ⟨g, k, e, _⟩
    · omega
    · exact ⟨g, k, e⟩
  have HFB : Hid (FlAt (some ⟨gv, 0, none⟩) N (Fl.allF l start f) w1) := by
    rcases HOW.out.form with ⟨_, e⟩ | ⟨g, k, e, _, hf⟩
    · omega
    · injection e with e1 e2 e3
      injection e1 with e1
      injection e1 with e1
      subst e1
      exact hf.at_
  clear HOW
  have hN207 : N ≤ 207 := by omega
  have HNE := Lib.hid hN
  clear hN
  go_wp2_with fail
  go_loopw [8] (fun iv wx => ∃ k : Nat, k ≤ N ∧ iv = .int .i64 k ∧ Hid (Fl.allB (Fl.allF l start f) k = true) ∧ wx = w1) (fun i _ => N - (intOf i).toNat)
  case atStart => exact ⟨0, Nat.zero_le _, rfl, rfl, rfl⟩
  case round =>
    obtain ⟨k, hk, rfl, hA, rfl⟩ := hrel
    by_cases hlt : k < N
    · have hltz : (k : Int) < (N : Int) := by omega
      have hk0 : (0 : Int) ≤ (k : Int) := by omega
      obtain ⟨g1, eg, k1⟩ := HFB.out.at_ hlt
      injection eg with eg
      injection eg with eg
      subst eg
      cases hm : Fl.measB (Fl.allF l start f k)
      · have HNO : Hid (Fl.loopOk l start n f = false) := by
          show _ = _
          have h1 := Fl.allB_no hlt hm
          rw [HNE.out, all_split] at h1
          unfold Fl.loopOk Fl.rightL
          cases hx : Fl.allB l.at_ 6
          · rfl
          · rw [hx] at h1
            have h2 : (Fl.measB start && Fl.allB f n) = false := by simpa using h1
            rw [h2]; simp
        obtain ⟨⟨o0, o1, o2⟩, z0, z1, z2⟩ := row3_cells HR.out
        have l0 := World.rowIs.lt HR.out
        go_wp2_with (first | (go_at_call 23; refine (specMeas_any _ _).mono ?_; rintro e w' ⟨rfl, rfl⟩))
        exact bodyPost_ret (v := .agg #[nilS, nilS, .int .i64 1]) (by simp [results, Tryd.results6, go_sem, o0, o1, o2]) rfl ⟨loEnd_bad (code_form HN.out HNO.out) (by decide), lbelow_set3 HB.out (by omega) _ _ _⟩
      · go_wp2_with (first | (go_at_call 23; refine (specMeas_any _ _).mono ?_; rintro e w' ⟨rfl, rfl⟩))
        go_roundw
        case rel => exact ⟨k + 1, by omega, by go_num, by show (Fl.allB (Fl.allF l start f) k && Fl.measB (Fl.allF l start f k)) = true; rw [hA.out, hm]; rfl, by trivial⟩
        case measure => simp [intOf]; omega
    · obtain rfl : k = N := by omega
      have hall := hA.out
      rw [HNE.out, all_split] at hall
      obtain ⟨a1, a2⟩ := Bool.and_eq_true_iff.1 hall
      obtain ⟨a2, a3⟩ := Bool.and_eq_true_iff.1 a2
      have HLO := Lib.hid (Fl.loOk_of a1)
      have HST := Lib.hid a2
      have HAL := Lib.hid a3
      have HA1 := Lib.hid a1
      have HLE1 : Hid (Fl.leB l.lag 4607182418800017408 = !Fl.gtB l.lag 4607182418800017408) := Fl.le_gt (Fl.meas_bd HLO.out.lag).num one_num
      have HLE2 : Hid (Fl.leB l.low l.high = !Fl.gtB l.low l.high) := Fl.le_gt (Fl.meas_bd HLO.out.low).num (Fl.meas_bd HLO.out.high).num
      clear hall a1 a2 a3 hA HFB HNE
      obtain ⟨⟨y0, y1, y2⟩, y3, y4, y5⟩ := row6_cells HX.out
      cases h1 : Fl.gtB l.lag 0
      · have e1 : (FloatKind.f64.format.order l.lag 0 == some .gt) = false := h1
        have HNO : Hid (Fl.loopOk l start n f = false) := by
          show _ = _
          unfold Fl.loopOk Fl.rightL
          rw [h1]
          simp
        obtain ⟨⟨o0, o1, o2⟩, z0, z1, z2⟩ := row3_cells HR.out
        have l0 := World.rowIs.lt HR.out
        go_wp2_with fail
        exact bodyPost_ret (v := .agg #[nilS, nilS, .int .i64 1]) (by simp [results, Tryd.results6, go_sem, o0, o1, o2]) rfl ⟨loEnd_bad (code_form HN.out HNO.out) (by decide), lbelow_set3 HB.out (by omega) _ _ _⟩
      have e1 : (FloatKind.f64.format.order l.lag 0 == some .gt) = true := h1
      cases h2 : Fl.gtB l.lag 4607182418800017408
      rotate_left
      · have e2 : (FloatKind.f64.format.order l.lag 4607182418800017408 == some .gt) = true := h2
        have HNO : Hid (Fl.loopOk l start n f = false) := by
          show _ = _
          unfold Fl.loopOk Fl.rightL
          rw [HLE1.out, h2]
          simp
        obtain ⟨⟨o0, o1, o2⟩, z0, z1, z2⟩ := row3_cells HR.out
        have l0 := World.rowIs.lt HR.out
        go_wp2_with fail
        exact bodyPost_ret (v := .agg #[nilS, nilS, .int .i64 1]) (by simp [results, Tryd.results6, go_sem, o0, o1, o2]) rfl ⟨loEnd_bad (code_form HN.out HNO.out) (by decide), lbelow_set3 HB.out (by omega) _ _ _⟩
      have e2 : (FloatKind.f64.format.order l.lag 4607182418800017408 == some .gt) = false := h2
      cases h3 : Fl.gtB l.low l.high
      rotate_left
      · have e3 : (FloatKind.f64.format.order l.low l.high == some .gt) = true := h3
        have HNO : Hid (Fl.loopOk l start n f = false) := by
          show _ = _
          unfold Fl.loopOk Fl.rightL
          rw [HLE2.out, h3]
          simp
        obtain ⟨⟨o0, o1, o2⟩, z0, z1, z2⟩ := row3_cells HR.out
        have l0 := World.rowIs.lt HR.out
        go_wp2_with fail
        exact bodyPost_ret (v := .agg #[nilS, nilS, .int .i64 1]) (by simp [results, Tryd.results6, go_sem, o0, o1, o2]) rfl ⟨loEnd_bad (code_form HN.out HNO.out) (by decide), lbelow_set3 HB.out (by omega) _ _ _⟩
      have e3 : (FloatKind.f64.format.order l.low l.high == some .gt) = false := h3
      have HOK : Hid (Fl.loopOk l start n f = true) := by
        show _ = _
        unfold Fl.loopOk Fl.rightL
        rw [HA1.out, h1, HLE1.out, h2, HLE2.out, h3, HST.out, HAL.out]
        rfl
      clear h1 h2 h3 HLE1 HLE2 HA1
      obtain ⟨W4, hW4⟩ : ∃ W4, W4 = wr.alloc (.cells #[nilS, nilS, .int .i64 0] 30) := ⟨_, rfl⟩
      obtain ⟨b9, hb9⟩ : ∃ b9, b9 = wr.heap.size := ⟨_, rfl⟩
      have HI : Hid (RunS w l b9 nilS nilS nilS 0 (Fl.vals l start f) nilS 0 (Fl.drvs l start f) W4) := by
        have hb : Below wr.heap.size wr W4 := by rw [hW4]; exact bel_alloc _ _
        have hl := HR.out.lt
        refine ⟨⟨wrow_below HR.out hb, ?_, Two.nil _ _ _ _, HB.out.trans (hb.mono HB.out.size), by omega⟩, wrow_below HX.out hb⟩
        rw [hW4]; exact rowL_alloc' hb9.symm (outL nilS nilS 0) _
      have HW4 := Lib.hid hW4
      have HB9 := Lib.hid hb9
      clear hW4 hb9
      go_wp2_with fail
      rw [← HW4.out, ← HB9.out]
      clear HW4 HB9 HX HR HB y0 y1 y2 y3 y4 y5 e1 e2 e3
      go_loopw [10, 11, 12] (fun vv sv iv wx => ∃ (i : Nat) (v1 v2 : Value), i ≤ n ∧ vv = .float .f64 (Fl.st l start f i).v ∧ sv = .float .f64 (Fl.st l start f i).s ∧ iv = .int .i64 i ∧ Hid (Fl.okTo l start f i = true) ∧ Hid (RunS w l b9 v1 v2 v1 i (Fl.vals l start f) v2 i (Fl.drvs l start f) wx)) (fun _ _ iv _ => n - (intOf iv).toNat)
      case atStart => exact ⟨0, nilS, nilS, Nat.zero_le _, rfl, rfl, rfl, rfl, HI⟩
      case round =>
        clear HI
        obtain ⟨i, v1, v2, hi1, rfl, rfl, rfl, hA, HI⟩ := hrel
        by_cases hlt : i < n
        · have hltz : (i : Int) < (n : Int) := by omega
          have hi00 : (0 : Int) ≤ (i : Int) := by omega
          have hcell := HC.out i hlt
          have ka := (HI.out.base.bel.cell (p := ⟨g, i, none⟩) (World.block_lt_of_cell? _ _ hcell)).trans hcell
          have hat := Fl.okTo_at HST.out hA.out
          have hN := Fl.nxF (x := Fl.st l start f i) HLO.out (Fl.allB_at HAL.out i hlt) hat.1 hat.2
          have HV := Lib.hid hat.1
          have HBD := Lib.hid hN.bd
          have hnx : Fl.st l start f (i + 1) = Fl.nx l (f i) (Fl.st l start f i) := rfl
          unfold Fl.nx at hnx
          have q1 := fun (wx : World) => run_float_arith (P := Tryd.prog) (w := wx) .sub 23 .f64 (f i) (Fl.st l start f i).v _ hN.e
          have q2 := fun (wx : World) => run_float_arith (P := Tryd.prog) (w := wx) .mul 23 .f64 l.sum (Fl.errW (f i) (Fl.st l start f i)) _ hN.t
          have q3 := fun (wx : World) => run_float_arith (P := Tryd.prog) (w := wx) .add 23 .f64 (Fl.st l start f i).s (Fl.mulW l.sum (Fl.errW (f i) (Fl.st l start f i))) _ hN.s
          have q4 := fun (wx : World) => run_float_arith (P := Tryd.prog) (w := wx) .mul 23 .f64 l.up (Fl.errW (f i) (Fl.st l start f i)) _ hN.u
          have q5 := fun (wx : World) => run_float_arith (P := Tryd.prog) (w := wx) .add 23 .f64 (Fl.mulW l.up (Fl.errW (f i) (Fl.st l start f i))) (Fl.sumW l (f i) (Fl.st l start f i)) _ hN.d
          clear hN hat hcell
          obtain ⟨⟨y0, y1, y2⟩, y3, y4, y5⟩ := row6_cells HI.out.box
          by_cases h1 : FloatKind.f64.format.order (Fl.drvW l (f i) (Fl.st l start f i)) l.low = some .lt
          · have h1' : (FloatKind.f64.format.order (Fl.drvW l (f i) (Fl.st l start f i)) l.low == some .lt) = true := by rw [h1]; rfl
            rw [if_pos h1] at hnx
            clear h1
            have hV := Fl.vaF (p := l.low) (x := (Fl.st l start f i)) HLO.out ((Fl.meas_bd HLO.out.low).mono (by omega)) HV.out
            have q6 := fun (wx : World) => run_float_arith (P := Tryd.prog) (w := wx) .mul 23 .f64 l.gain l.low _ hV.g
            have q7 := fun (wx : World) => run_float_arith (P := Tryd.prog) (w := wx) .sub 23 .f64 (Fl.mulW l.gain l.low) (Fl.st l start f i).v _ hV.gv
            have q8 := fun (wx : World) => run_float_arith (P := Tryd.prog) (w := wx) .mul 23 .f64 l.lag (Fl.subW (Fl.mulW l.gain l.low) (Fl.st l start f i).v) _ hV.m
            have q9 := fun (wx : World) => run_float_arith (P := Tryd.prog) (w := wx) .add 23 .f64 (Fl.st l start f i).v (Fl.mulW l.lag (Fl.subW (Fl.mulW l.gain l.low) (Fl.st l start f i).v)) _ hV.v
            clear hV
            have HSV : Hid ((Fl.st l start f (i + 1)).v = (Fl.valW l l.low (Fl.st l start f i))) := by show _ = _; rw [hnx]
            have HSS : Hid ((Fl.st l start f (i + 1)).s = (Fl.st l start f i).s) := by show _ = _; rw [hnx]
            have HSD : Hid ((Fl.st l start f (i + 1)).d = l.low) := by show _ = _; rw [hnx]
            clear hnx
            obtain ⟨V, hVe⟩ : ∃ V, V = (Fl.valW l l.low (Fl.st l start f i)) := ⟨_, rfl⟩
            rw [← hVe] at HSV q9
            obtain ⟨P, hPe⟩ : ∃ P, P = l.low := ⟨_, rfl⟩
            rw [← hPe] at HSD
            have HPE := Lib.hid hPe
            clear hVe hPe
            go_wp2_with fail
            clear q1 q2 q3 q4 q5 q6 q7 q8 q9 ka y0 y1 y2 y3 y4 y5
            refine (specMeas_any _ _).mono ?_
            rintro e w7 ⟨rfl, rfl⟩
            cases hm1 : Fl.measB V
            · have HNO := Lib.hid (Fl.okTo_no (l := l) (start := start) (f := f) hlt (by unfold Fl.okS; rw [HSV.out, hm1]; simp))
              obtain ⟨⟨o0, o1, o2⟩, z0, z1, z2⟩ := row3_cells HI.out.base.res
              have l0 := World.rowIs.lt HI.out.base.res
              go_wp2_with fail
              exact bodyPost_ret (v := .agg #[nilS, nilS, .int .i64 5]) (by simp [results, Tryd.results6, go_sem, o0, o1, o2]) rfl ⟨loEnd_bad (code_over HN.out HOK.out HNO.out) (by decide), lbelow_set3 HI.out.base.bel (by omega) _ _ _⟩
            · go_wp2_with fail
              refine (specMeas_any _ _).mono ?_
              rintro e w8 ⟨rfl, rfl⟩
              cases hm2 : Fl.measB (Fl.st l start f i).s
              · have HNO := Lib.hid (Fl.okTo_no (l := l) (start := start) (f := f) hlt (by unfold Fl.okS; rw [HSV.out, HSS.out, hm1, hm2]; simp))
                obtain ⟨⟨o0, o1, o2⟩, z0, z1, z2⟩ := row3_cells HI.out.base.res
                have l0 := World.rowIs.lt HI.out.base.res
                go_wp2_with fail
                exact bodyPost_ret (v := .agg #[nilS, nilS, .int .i64 5]) (by simp [results, Tryd.results6, go_sem, o0, o1, o2]) rfl ⟨loEnd_bad (code_over HN.out HOK.out HNO.out) (by decide), lbelow_set3 HI.out.base.bel (by omega) _ _ _⟩
              · have HA2 : Hid (Fl.okTo l start f (i + 1) = true) := by show (Fl.okTo l start f i && Fl.okS (Fl.st l start f (i + 1))) = true; unfold Fl.okS; rw [hA.out, HSV.out, HSS.out, hm1, hm2]; rfl
                clear hm1 hm2
                have HF1 : Hid (V = Fl.vals l start f i) := HSV.out.symm
                have HF2 : Hid (l.low = Fl.drvs l start f i) := HPE.out.symm.trans HSD.out.symm
                obtain ⟨⟨o0, o1, o2⟩, _⟩ := row3_cells HI.out.base.out
                have l9 := HI.out.base.out.lt
                go_wp2_with (at_builtin; refine wpList_append_own_at _ rfl _ _ 26 rfl (b9 + 1) 23 i0 (.float .f64 0) 1 8 Tryd.underlying26 hi hz0 hz1 hz2 rfl (by decide) _ _ _ rfl (World.ownsRow.alloc HI.out.base.own.one _) ⟨w8.heap.size, 0, none⟩ 1 1 [.float .f64 V] rfl rfl (cell_one_new _ _ _) ?c2 ?c3 ?c4 ?c5 ?_)
                case c2 => intro u hu; simp at hu; subst hu; rfl
                case c3 => unfold maxLen; omega
                case c4 => omega
                case c5 => have := HI.out.base.out.lt; simp; omega
                intro va wa hown hgrow _ hatb
                rw [HF1.out] at hown
                have HJ := Lib.hid (HI.out.push1 hown hgrow (by simpa using hatb))
                clear hown hgrow hatb HI o0 o1 o2 l9
                obtain ⟨gv, kv, rfl⟩ : ∃ g k, va = .slice (some ⟨g, 0, none⟩) (i + 1) k := by
                  rcases HJ.out.base.own.one.form with ⟨_, e⟩ | ⟨g, k, e, _⟩
                  · omega
                  · exact ⟨g, k, e⟩
                obtain ⟨Wb, hWb⟩ : ∃ Wb, Wb = wa.setCell ⟨b9, 0, none⟩ (.slice (some ⟨gv, 0, none⟩) (i + 1) kv) := ⟨_, rfl⟩
                have HJ2 : Hid (RunS w l b9 (.slice (some ⟨gv, 0, none⟩) (i + 1) kv) v2 (.slice (some ⟨gv, 0, none⟩) (i + 1) kv) (i + 1) (Fl.vals l start f) v2 i (Fl.drvs l start f) Wb) := by show RunS _ _ _ _ _ _ _ _ _ _ _ _; rw [hWb]; exact HJ.out.set0 _
                have HWb := Lib.hid hWb
                have o0 := HJ.out.base.out.cell (i := 0) (by omega)
                have o1 : wa.cell? ⟨b9, 1, none⟩ = some v2 := HJ.out.base.out.cell (i := 1) (by omega)
                have z0 := HJ.out.base.out.frozen 0
                have l9 := HJ.out.base.out.lt
                clear hWb HJ
                have HZ : Hid (Wb.heap.size = wa.heap.size) := by show _ = _; rw [HWb.out]; simp
                have HO : Hid (∀ o, (wa.setCell ⟨b9, 0, none⟩ (.slice (some ⟨gv, 0, none⟩) (i + 1) kv)).alloc o = Wb.alloc o) := fun o => by rw [HWb.out]
                go_wp2_with (at_builtin; refine wpList_append_own_at _ rfl _ _ 26 rfl (b9 + 1) 23 i0 (.float .f64 0) 1 8 Tryd.underlying26 hi hz0 hz1 hz2 rfl (by decide) _ _ _ rfl (by rw [HO.out]; exact World.ownsRow.alloc HJ2.out.base.own.two _) ⟨wa.heap.size, 0, none⟩ 1 1 [.float .f64 l.low] rfl rfl ?c1 ?c2 ?c3 ?c4 ?c5 ?_)
                case c1 => rw [HO.out, ← HZ.out]; exact cell_one_new _ _ _
                case c2 => intro u hu; simp at hu; subst hu; rfl
                case c3 => unfold maxLen; omega
                case c4 => omega
                case c5 => have := HJ2.out.base.out.lt; have h2 := HZ.out; simp; omega
                intro vb wd hown hgrow _ hatb
                rw [HO.out] at hgrow
                rw [HF2.out] at hown
                have HJ := Lib.hid (HJ2.out.push2 hown hgrow (by have := HZ.out; simpa [this] using hatb))
                clear hown hgrow hatb HJ2 o0 o1 z0 l9 HWb HZ HO
                obtain ⟨gd, kd, rfl⟩ : ∃ g k, vb = .slice (some ⟨g, 0, none⟩) (i + 1) k := by
                  rcases HJ.out.base.own.two.form with ⟨_, e⟩ | ⟨g, k, e, _⟩
                  · omega
                  · exact ⟨g, k, e⟩
                have HJ2 := Lib.hid (HJ.out.set1 (.slice (some ⟨gd, 0, none⟩) (i + 1) kd))
                have o1 := HJ.out.base.out.cell (i := 1) (by omega)
                have z1 := HJ.out.base.out.frozen 1
                have l9 := HJ.out.base.out.lt
                clear HJ
                go_wp2_with fail
                go_roundw
                case rel => exact ⟨i + 1, _, _, by omega, by rw [HSV.out], by rw [HSS.out], by go_num, HA2, HJ2⟩
                case measure => simp [intOf]; omega
          have h1' : (FloatKind.f64.format.order (Fl.drvW l (f i) (Fl.st l start f i)) l.low == some .lt) = false := by simpa using h1
          rw [if_neg h1] at hnx
          clear h1
          by_cases h2 : FloatKind.f64.format.order (Fl.drvW l (f i) (Fl.st l start f i)) l.high = some .gt
          · have h2' : (FloatKind.f64.format.order (Fl.drvW l (f i) (Fl.st l start f i)) l.high == some .gt) = true := by rw [h2]; rfl
            rw [if_pos h2] at hnx
            clear h2
            have hV := Fl.vaF (p := l.high) (x := (Fl.st l start f i)) HLO.out ((Fl.meas_bd HLO.out.high).mono (by omega)) HV.out
            have q6 := fun (wx : World) => run_float_arith (P := Tryd.prog) (w := wx) .mul 23 .f64 l.gain l.high _ hV.g
            have q7 := fun (wx : World) => run_float_arith (P := Tryd.prog) (w := wx) .sub 23 .f64 (Fl.mulW l.gain l.high) (Fl.st l start f i).v _ hV.gv
            have q8 := fun (wx : World) => run_float_arith (P := Tryd.prog) (w := wx) .mul 23 .f64 l.lag (Fl.subW (Fl.mulW l.gain l.high) (Fl.st l start f i).v) _ hV.m
            have q9 := fun (wx : World) => run_float_arith (P := Tryd.prog) (w := wx) .add 23 .f64 (Fl.st l start f i).v (Fl.mulW l.lag (Fl.subW (Fl.mulW l.gain l.high) (Fl.st l start f i).v)) _ hV.v
            clear hV
            have HSV : Hid ((Fl.st l start f (i + 1)).v = (Fl.valW l l.high (Fl.st l start f i))) := by show _ = _; rw [hnx]
            have HSS : Hid ((Fl.st l start f (i + 1)).s = (Fl.st l start f i).s) := by show _ = _; rw [hnx]
            have HSD : Hid ((Fl.st l start f (i + 1)).d = l.high) := by show _ = _; rw [hnx]
            clear hnx
            obtain ⟨V, hVe⟩ : ∃ V, V = (Fl.valW l l.high (Fl.st l start f i)) := ⟨_, rfl⟩
            rw [← hVe] at HSV q9
            obtain ⟨P, hPe⟩ : ∃ P, P = l.high := ⟨_, rfl⟩
            rw [← hPe] at HSD
            have HPE := Lib.hid hPe
            clear hVe hPe
            go_wp2_with fail
            clear q1 q2 q3 q4 q5 q6 q7 q8 q9 ka y0 y1 y2 y3 y4 y5
            refine (specMeas_any _ _).mono ?_
            rintro e w7 ⟨rfl, rfl⟩
            cases hm1 : Fl.measB V
            · have HNO := Lib.hid (Fl.okTo_no (l := l) (start := start) (f := f) hlt (by unfold Fl.okS; rw [HSV.out, hm1]; simp))
              obtain ⟨⟨o0, o1, o2⟩, z0, z1, z2⟩ := row3_cells HI.out.base.res
              have l0 := World.rowIs.lt HI.out.base.res
              go_wp2_with fail
              exact bodyPost_ret (v := .agg #[nilS, nilS, .int .i64 5]) (by simp [results, Tryd.results6, go_sem, o0, o1, o2]) rfl ⟨loEnd_bad (code_over HN.out HOK.out HNO.out) (by decide), lbelow_set3 HI.out.base.bel (by omega) _ _ _⟩
            · go_wp2_with fail
              refine (specMeas_any _ _).mono ?_
              rintro e w8 ⟨rfl, rfl⟩
              cases hm2 : Fl.measB (Fl.st l start f i).s
              · have HNO := Lib.hid (Fl.okTo_no (l := l) (start := start) (f := f) hlt (by unfold Fl.okS; rw [HSV.out, HSS.out, hm1, hm2]; simp))
                obtain ⟨⟨o0, o1, o2⟩, z0, z1, z2⟩ := row3_cells HI.out.base.res
                have l0 := World.rowIs.lt HI.out.base.res
                go_wp2_with fail
                exact bodyPost_ret (v := .agg #[nilS, nilS, .int .i64 5]) (by simp [results, Tryd.results6, go_sem, o0, o1, o2]) rfl ⟨loEnd_bad (code_over HN.out HOK.out HNO.out) (by decide), lbelow_set3 HI.out.base.bel (by omega) _ _ _⟩
              · have HA2 : Hid (Fl.okTo l start f (i + 1) = true) := by show (Fl.okTo l start f i && Fl.okS (Fl.st l start f (i + 1))) = true; unfold Fl.okS; rw [hA.out, HSV.out, HSS.out, hm1, hm2]; rfl
                clear hm1 hm2
                have HF1 : Hid (V = Fl.vals l start f i) := HSV.out.symm
                have HF2 : Hid (l.high = Fl.drvs l start f i) := HPE.out.symm.trans HSD.out.symm
                obtain ⟨⟨o0, o1, o2⟩, _⟩ := row3_cells HI.out.base.out
                have l9 := HI.out.base.out.lt
                go_wp2_with (at_builtin; refine wpList_append_own_at _ rfl _ _ 26 rfl (b9 + 1) 23 i0 (.float .f64 0) 1 8 Tryd.underlying26 hi hz0 hz1 hz2 rfl (by decide) _ _ _ rfl (World.ownsRow.alloc HI.out.base.own.one _) ⟨w8.heap.size, 0, none⟩ 1 1 [.float .f64 V] rfl rfl (cell_one_new _ _ _) ?c2 ?c3 ?c4 ?c5 ?_)
                case c2 => intro u hu; simp at hu; subst hu; rfl
                case c3 => unfold maxLen; omega
                case c4 => omega
                case c5 => have := HI.out.base.out.lt; simp; omega
                intro va wa hown hgrow _ hatb
                rw [HF1.out] at hown
                have HJ := Lib.hid (HI.out.push1 hown hgrow (by simpa using hatb))
                clear hown hgrow hatb HI o0 o1 o2 l9
                obtain ⟨gv, kv, rfl⟩ : ∃ g k, va = .slice (some ⟨g, 0, none⟩) (i + 1) k := by
                  rcases HJ.out.base.own.one.form with ⟨_, e⟩ | ⟨g, k, e, _⟩
                  · omega
                  · exact ⟨g, k, e⟩
                obtain ⟨Wb, hWb⟩ : ∃ Wb, Wb = wa.setCell ⟨b9, 0, none⟩ (.slice (some ⟨gv, 0, none⟩) (i + 1) kv) := ⟨_, rfl⟩
                have HJ2 : Hid (RunS w l b9 (.slice (some ⟨gv, 0, none⟩) (i + 1) kv) v2 (.slice (some ⟨gv, 0, none⟩) (i + 1) kv) (i + 1) (Fl.vals l start f) v2 i (Fl.drvs l start f) Wb) := by show RunS _ _ _ _ _ _ _ _ _ _ _ _; rw [hWb]; exact HJ.out.set0 _
                have HWb := Lib.hid hWb
                have o0 := HJ.out.base.out.cell (i := 0) (by omega)
                have o1 : wa.cell? ⟨b9, 1, none⟩ = some v2 := HJ.out.base.out.cell (i := 1) (by omega)
                have z0 := HJ.out.base.out.frozen 0
                have l9 := HJ.out.base.out.lt
                clear hWb HJ
                have HZ : Hid (Wb.heap.size = wa.heap.size) := by show _ = _; rw [HWb.out]; simp
                have HO : Hid (∀ o, (wa.setCell ⟨b9, 0, none⟩ (.slice (some ⟨gv, 0, none⟩) (i + 1) kv)).alloc o = Wb.alloc o) := fun o => by rw [HWb.out]
                go_wp2_with (at_builtin; refine wpList_append_own_at _ rfl _ _ 26 rfl (b9 + 1) 23 i0 (.float .f64 0) 1 8 Tryd.underlying26 hi hz0 hz1 hz2 rfl (by decide) _ _ _ rfl (by rw [HO.out]; exact World.ownsRow.alloc HJ2.out.base.own.two _) ⟨wa.heap.size, 0, none⟩ 1 1 [.float .f64 l.high] rfl rfl ?c1 ?c2 ?c3 ?c4 ?c5 ?_)
                case c1 => rw [HO.out, ← HZ.out]; exact cell_one_new _ _ _
                case c2 => intro u hu; simp at hu; subst hu; rfl
                case c3 => unfold maxLen; omega
                case c4 => omega
                case c5 => have := HJ2.out.base.out.lt; have h2 := HZ.out; simp; omega
                intro vb wd hown hgrow _ hatb
                rw [HO.out] at hgrow
                rw [HF2.out] at hown
                have HJ := Lib.hid (HJ2.out.push2 hown hgrow (by have := HZ.out; simpa [this] using hatb))
                clear hown hgrow hatb HJ2 o0 o1 z0 l9 HWb HZ HO
                obtain ⟨gd, kd, rfl⟩ : ∃ g k, vb = .slice (some ⟨g, 0, none⟩) (i + 1) k := by
                  rcases HJ.out.base.own.two.form with ⟨_, e⟩ | ⟨g, k, e, _⟩
                  · omega
                  · exact ⟨g, k, e⟩
                have HJ2 := Lib.hid (HJ.out.set1 (.slice (some ⟨gd, 0, none⟩) (i + 1) kd))
                have o1 := HJ.out.base.out.cell (i := 1) (by omega)
                have z1 := HJ.out.base.out.frozen 1
                have l9 := HJ.out.base.out.lt
                clear HJ
                go_wp2_with fail
                go_roundw
                case rel => exact ⟨i + 1, _, _, by omega, by rw [HSV.out], by rw [HSS.out], by go_num, HA2, HJ2⟩
                case measure => simp [intOf]; omega
          have h2' : (FloatKind.f64.format.order (Fl.drvW l (f i) (Fl.st l start f i)) l.high == some .gt) = false := by simpa using h2
          rw [if_neg h2] at hnx
          clear h2
          have hV := Fl.vaF (p := (Fl.drvW l (f i) (Fl.st l start f i))) (x := (Fl.st l start f i)) HLO.out HBD.out HV.out
          have q6 := fun (wx : World) => run_float_arith (P := Tryd.prog) (w := wx) .mul 23 .f64 l.gain (Fl.drvW l (f i) (Fl.st l start f i)) _ hV.g
          have q7 := fun (wx : World) => run_float_arith (P := Tryd.prog) (w := wx) .sub 23 .f64 (Fl.mulW l.gain (Fl.drvW l (f i) (Fl.st l start f i))) (Fl.st l start f i).v _ hV.gv
          have q8 := fun (wx : World) => run_float_arith (P := Tryd.prog) (w := wx) .mul 23 .f64 l.lag (Fl.subW (Fl.mulW l.gain (Fl.drvW l (f i) (Fl.st l start f i))) (Fl.st l start f i).v) _ hV.m
          have q9 := fun (wx : World) => run_float_arith (P := Tryd.prog) (w := wx) .add 23 .f64 (Fl.st l start f i).v (Fl.mulW l.lag (Fl.subW (Fl.mulW l.gain (Fl.drvW l (f i) (Fl.st l start f i))) (Fl.st l start f i).v)) _ hV.v
          clear hV
          have HSV : Hid ((Fl.st l start f (i + 1)).v = (Fl.valW l (Fl.drvW l (f i) (Fl.st l start f i)) (Fl.st l start f i))) := by show _ = _; rw [hnx]
          have HSS : Hid ((Fl.st l start f (i + 1)).s = (Fl.sumW l (f i) (Fl.st l start f i))) := by show _ = _; rw [hnx]
          have HSD : Hid ((Fl.st l start f (i + 1)).d = (Fl.drvW l (f i) (Fl.st l start f i))) := by show _ = _; rw [hnx]
          clear hnx
          obtain ⟨V, hVe⟩ : ∃ V, V = (Fl.valW l (Fl.drvW l (f i) (Fl.st l start f i)) (Fl.st l start f i)) := ⟨_, rfl⟩
          rw [← hVe] at HSV q9
          obtain ⟨P, hPe⟩ : ∃ P, P = (Fl.drvW l (f i) (Fl.st l start f i)) := ⟨_, rfl⟩
          rw [← hPe] at HSD
          have HPE := Lib.hid hPe
          clear hVe hPe
          go_wp2_with fail
          clear q1 q2 q3 q4 q5 q6 q7 q8 q9 ka y0 y1 y2 y3 y4 y5
          refine (specMeas_any _ _).mono ?_
          rintro e w7 ⟨rfl, rfl⟩
          cases hm1 : Fl.measB V
          · have HNO := Lib.hid (Fl.okTo_no (l := l) (start := start) (f := f) hlt (by unfold Fl.okS; rw [HSV.out, hm1]; simp))
            obtain ⟨⟨o0, o1, o2⟩, z0, z1, z2⟩ := row3_cells HI.out.base.res
            have l0 := World.rowIs.lt HI.out.base.res
            go_wp2_with fail
            exact bodyPost_ret (v := .agg #[nilS, nilS, .int .i64 5]) (by simp [results, Tryd.results6, go_sem, o0, o1, o2]) rfl ⟨loEnd_bad (code_over HN.out HOK.out HNO.out) (by decide), lbelow_set3 HI.out.base.bel (by omega) _ _ _⟩
          · go_wp2_with fail
            refine (specMeas_any _ _).mono ?_
            rintro e w8 ⟨rfl, rfl⟩
            cases hm2 : Fl.measB (Fl.sumW l (f i) (Fl.st l start f i))
            · have HNO := Lib.hid (Fl.okTo_no (l := l) (start := start) (f := f) hlt (by unfold Fl.okS; rw [HSV.out, HSS.out, hm1, hm2]; simp))
              obtain ⟨⟨o0, o1, o2⟩, z0, z1, z2⟩ := row3_cells HI.out.base.res
              have l0 := World.rowIs.lt HI.out.base.res
              go_wp2_with fail
              exact bodyPost_ret (v := .agg #[nilS, nilS, .int .i64 5]) (by simp [results, Tryd.results6, go_sem, o0, o1, o2]) rfl ⟨loEnd_bad (code_over HN.out HOK.out HNO.out) (by decide), lbelow_set3 HI.out.base.bel (by omega) _ _ _⟩
            · have HA2 : Hid (Fl.okTo l start f (i + 1) = true) := by show (Fl.okTo l start f i && Fl.okS (Fl.st l start f (i + 1))) = true; unfold Fl.okS; rw [hA.out, HSV.out, HSS.out, hm1, hm2]; rfl
              clear hm1 hm2
              have HF1 : Hid (V = Fl.vals l start f i) := HSV.out.symm
              have HF2 : Hid ((Fl.drvW l (f i) (Fl.st l start f i)) = Fl.drvs l start f i) := HPE.out.symm.trans HSD.out.symm
              obtain ⟨⟨o0, o1, o2⟩, _⟩ := row3_cells HI.out.base.out
              have l9 := HI.out.base.out.lt
              go_wp2_with (at_builtin; refine wpList_append_own_at _ rfl _ _ 26 rfl (b9 + 1) 23 i0 (.float .f64 0) 1 8 Tryd.underlying26 hi hz0 hz1 hz2 rfl (by decide) _ _ _ rfl (World.ownsRow.alloc HI.out.base.own.one _) ⟨w8.heap.size, 0, none⟩ 1 1 [.float .f64 V] rfl rfl (cell_one_new _ _ _) ?c2 ?c3 ?c4 ?c5 ?_)
              case c2 => intro u hu; simp at hu; subst hu; rfl
              case c3 => unfold maxLen; omega
              case c4 => omega
              case c5 => have := HI.out.base.out.lt; simp; omega
              intro va wa hown hgrow _ hatb
              rw [HF1.out] at hown
              have HJ := Lib.hid (HI.out.push1 hown hgrow (by simpa using hatb))
              clear hown hgrow hatb HI o0 o1 o2 l9
              obtain ⟨gv, kv, rfl⟩ : ∃ g k, va = .slice (some ⟨g, 0, none⟩) (i + 1) k := by
                rcases HJ.out.base.own.one.form with ⟨_, e⟩ | ⟨g, k, e, _⟩
                · omega
                · exact ⟨g, k, e⟩
              obtain ⟨Wb, hWb⟩ : ∃ Wb, Wb = wa.setCell ⟨b9, 0, none⟩ (.slice (some ⟨gv, 0, none⟩) (i + 1) kv) := ⟨_, rfl⟩
              have HJ2 : Hid (RunS w l b9 (.slice (some ⟨gv, 0, none⟩) (i + 1) kv) v2 (.slice (some ⟨gv, 0, none⟩) (i + 1) kv) (i + 1) (Fl.vals l start f) v2 i (Fl.drvs l start f) Wb) := by show RunS _ _ _ _ _ _ _ _ _ _ _ _; rw [hWb]; exact HJ.out.set0 _
              have HWb := Lib.hid hWb
              have o0 := HJ.out.base.out.cell (i := 0) (by omega)
              have o1 : wa.cell? ⟨b9, 1, none⟩ = some v2 := HJ.out.base.out.cell (i := 1) (by omega)
              have z0 := HJ.out.base.out.frozen 0
              have l9 := HJ.out.base.out.lt
              clear hWb HJ
              have HZ : Hid (Wb.heap.size = wa.heap.size) := by show _ = _; rw [HWb.out]; simp
              have HO : Hid (∀ o, (wa.setCell ⟨b9, 0, none⟩ (.slice (some ⟨gv, 0, none⟩) (i + 1) kv)).alloc o = Wb.alloc o) := fun o => by rw [HWb.out]
              go_wp2_with (at_builtin; refine wpList_append_own_at _ rfl _ _ 26 rfl (b9 + 1) 23 i0 (.float .f64 0) 1 8 Tryd.underlying26 hi hz0 hz1 hz2 rfl (by decide) _ _ _ rfl (by rw [HO.out]; exact World.ownsRow.alloc HJ2.out.base.own.two _) ⟨wa.heap.size, 0, none⟩ 1 1 [.float .f64 (Fl.drvW l (f i) (Fl.st l start f i))] rfl rfl ?c1 ?c2 ?c3 ?c4 ?c5 ?_)
              case c1 => rw [HO.out, ← HZ.out]; exact cell_one_new _ _ _
              case c2 => intro u hu; simp at hu; subst hu; rfl
              case c3 => unfold maxLen; omega
              case c4 => omega
              case c5 => have := HJ2.out.base.out.lt; have h2 := HZ.out; simp; omega
              intro vb wd hown hgrow _ hatb
              rw [HO.out] at hgrow
              rw [HF2.out] at hown
              have HJ := Lib.hid (HJ2.out.push2 hown hgrow (by have := HZ.out; simpa [this] using hatb))
              clear hown hgrow hatb HJ2 o0 o1 z0 l9 HWb HZ HO
              obtain ⟨gd, kd, rfl⟩ : ∃ g k, vb = .slice (some ⟨g, 0, none⟩) (i + 1) k := by
                rcases HJ.out.base.own.two.form with ⟨_, e⟩ | ⟨g, k, e, _⟩
                · omega
                · exact ⟨g, k, e⟩
              have HJ2 := Lib.hid (HJ.out.set1 (.slice (some ⟨gd, 0, none⟩) (i + 1) kd))
              have o1 := HJ.out.base.out.cell (i := 1) (by omega)
              have z1 := HJ.out.base.out.frozen 1
              have l9 := HJ.out.base.out.lt
              clear HJ
              go_wp2_with fail
              go_roundw
              case rel => exact ⟨i + 1, _, _, by omega, by rw [HSV.out], by rw [HSS.out], by go_num, HA2, HJ2⟩
              case measure => simp [intOf]; omega
        · obtain rfl : i = n := by omega
          obtain ⟨⟨x0, x1, x2⟩, _⟩ := row3_cells HI.out.base.out
          obtain ⟨⟨o0, o1, o2⟩, z0, z1, z2⟩ := row3_cells HI.out.base.res
          have l0 := HI.out.base.res.lt
          have HE := Lib.hid HI.out.base
          have hnum := HI.out.base.num
          clear HI
          obtain ⟨hf1, hf2⟩ := two_form HE.out.own
          have HEND : Hid (LoEnd w.heap.size l start i f (.returned (.agg #[v1, v2, .int .i64 0])) (((wr.setCell ⟨w.heap.size + 1, 0, none⟩ v1).setCell ⟨w.heap.size + 1, 1, none⟩ v2).setCell ⟨w.heap.size + 1, 2, none⟩ (.int .i64 0)) ∧ Below w.heap.size w (((wr.setCell ⟨w.heap.size + 1, 0, none⟩ v1).setCell ⟨w.heap.size + 1, 1, none⟩ v2).setCell ⟨w.heap.size + 1, 2, none⟩ (.int .i64 0))) := by
            refine ⟨loEnd_ok (code_ok HN.out HOK.out hA.out) ?_, lbelow_set3 HE.out.bel (by omega) _ _ _⟩
            exact (((HE.out.own.set (a := ⟨w.heap.size + 1, 0, none⟩) (by show w.heap.size + 1 < _; omega) _).set (a := ⟨w.heap.size + 1, 1, none⟩) (by show w.heap.size + 1 < _; omega) _).set (a := ⟨w.heap.size + 1, 2, none⟩) (by show w.heap.size + 1 < _; omega) _).lower (by omega)
          rcases hf1 with rfl | ⟨g1, k1, rfl⟩ <;> rcases hf2 with rfl | ⟨g2, k2, rfl⟩
          all_goals
            go_wp2_with fail
            exact bodyPost_ret (v := _) (by simp [results, Tryd.results6, go_sem, o0, o1, o2]) rfl HEND.out
end Go.Proofs.YtplghjghecfeoaaDoor
