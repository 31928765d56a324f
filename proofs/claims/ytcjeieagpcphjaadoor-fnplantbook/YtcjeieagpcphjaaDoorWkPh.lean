/-
  The plant's run.
-/
import Derived.Test.YtcjeieagpcphjaaDoorWkPe
import Derived.Test.YtcjeieagpcphjaaDoorWkPf
import Derived.Test.YtcjeieagpcphjaaDoorWkPg
namespace Go.Proofs.YtcjeieagpcphjaaDoor
open Go.RowKit Go.Deep

theorem PlL.gw {B : Nat} {v : Value} {n : Nat} {C : Nat → Wk.Bt} {W : World} (h : PlL B v n C W) : Gw (.slice none 0 0) v B := by
  cases hv : v.ownBlock with
  | none => exact Or.inl hv
  | some g => exact Or.inr ⟨g, (h.lt hv).1, hv⟩
section
variable {B pb : Nat} {mv : Value} {fl : Wk.Fl} {cv : Value} {cn : Nat} {C : Nat → Wk.Bt} {wv : Value} {wn : Nat} {D : Nat → Wk.Bt} {k : Int} {W W2 : World}
/-- What goes on to the next step is laid where the batch lay. -/
theorem PlS.next (h : PlS B pb mv fl cv cn C wv wn D k W) {r : Nat} {u v : Value} (hr : W.rowIs r 28 2 (r2 u v)) (hc : cv.ownBlock ≠ some r) (hw : wv.ownBlock ≠ some r) (hF : Fr pb (.slice none 0 0) (.slice none 0 0) W2 W) (hb : W2.heap.size ≤ r) (x y : Value) :
    (PlS B pb mv fl cv cn C wv wn D k (((W.setCell ⟨r, 0, none⟩ x).setCell ⟨r, 1, none⟩ y).alloc (.cells #[x, y] 28)) ∧ (((W.setCell ⟨r, 0, none⟩ x).setCell ⟨r, 1, none⟩ y).alloc (.cells #[x, y] 28)).rowIs r 28 2 (r2 x y)) ∧ Fr pb (.slice none 0 0) (.slice none 0 0) W2 (((W.setCell ⟨r, 0, none⟩ x).setCell ⟨r, 1, none⟩ y).alloc (.cells #[x, y] 28)) ∧ ∀ g n (f : Nat → Int), InBlk g n f W → InBlk g n f (((W.setCell ⟨r, 0, none⟩ x).setCell ⟨r, 1, none⟩ y).alloc (.cells #[x, y] 28)) := by
  have q := h.put2 hr hc hw x y
  refine ⟨⟨q.below (bel_alloc _ _), wrow_below (row2_put hr x y) (bel_alloc _ _)⟩, (((hF.above hb 0 x).above hb 1 y).trans (Fr.of_below (bel_alloc _ _)) (Gw.refl _ _) (Gw.refl _ _)), fun g n f hi => ?_⟩
  have e9 := blk_ne (inBlk_type hi) (rowIs_type hr) (by decide)
  exact (hi.block ((Below.heap_setCell _ ⟨r, 1, none⟩ _ _ e9).trans (Below.heap_setCell _ ⟨r, 0, none⟩ _ _ e9))).below (bel_alloc _ _)
end
theorem step_n (f : Wk.Fl) (b : Wk.Bt) : (Wk.step f b).clean.n ≤ b.n ∧ (Wk.step f b).waste.n ≤ b.n := by
  unfold Wk.step
  split
  · split
    · simp [Wk.badF, Wk.nil]
    · rw [(Wk.filt_n f b).1, (Wk.filt_n f b).2]; exact ⟨Nat.le_refl _, Nat.le_refl _⟩
  · simp [Wk.badF, Wk.nil]
theorem pclean_n (m : Nat) (mi : Nat → Int) (bb : Nat → Wk.Bt) (f : Wk.Fl) (j : Nat) : (Wk.pclean m mi bb f j).n ≤ (bb j).n := Nat.le_trans (step_n _ _).1 (Wk.settle_n _ _ _).1
theorem pwaste_n (m : Nat) (mi : Nat → Int) (bb : Nat → Wk.Bt) (f : Wk.Fl) (j : Nat) : (Wk.pwaste m mi bb f j).n ≤ (bb (j / 2)).n := by
  unfold Wk.pwaste
  split
  · exact (Wk.settle_n _ _ _).2
  · exact Nat.le_trans (step_n _ _).2 (Wk.settle_n _ _ _).1
/-- How a run ends. -/
def RnOut (P : Wk.PO) (lo : Nat) (e : Ending) (W : World) : Prop :=
  (P.c = 0 ∧ ∃ (x y : Be) (g1 g2 : Nat), e = .returned (.tuple #[poV x y P.fl P.washes 0, .nilIface]) ∧ x.b = P.clean ∧ y.b = P.waste ∧ (x.pa = some ⟨g1, 0, none⟩ ∧ y.pa = some ⟨g2, 0, none⟩) ∧ (lo ≤ g1 ∧ lo ≤ g2 ∧ g1 ≠ g2) ∧ InBlk g1 x.n x.f W ∧ InBlk g2 y.n y.f W) ∨
  (∃ er c, P = Wk.badP c ∧ e = .returned (.tuple #[poV beN beN Wk.flNil 0 0, er]) ∧ ErrIs er c)
set_option maxRecDepth 100000 in
set_option maxHeartbeats 32000000 in
theorem runP_any (pb : Nat) (ma : Option Addr) (m mk : Nat) (mi : Nat → Int) (f : Wk.Fl) (a : Option Addr) (n cap : Nat) (bs : Nat → Be) (wo w : World) (hrow : w.rowIs pb 66 8 (rowL (plL (.slice ma m mk) f (.slice none 0 0) (.slice none 0 0) 0))) (hlo : Below wo.heap.size wo w) (hpb : wo.heap.size ≤ pb)
    (hl : BtsAt a n bs wo) (hn : n ≤ 60) (hbn : ∀ i, i < n → (bs i).n ≤ 4194304) (hmi : IntsAt ma m mi wo) (hm : m ≤ 400) (ht : TabOk wo) :
    Calls Tryd.prog 26 #[.pointer (some ⟨pb, 0, none⟩), .slice a n cap] w fun e W => RnOut (Wk.plant m mi (fun i => (bs i).b) f n) w.heap.size e W ∧ Fr pb (.slice none 0 0) (.slice none 0 0) w W := by
  obtain ⟨P, hP⟩ : ∃ P, P = Wk.plant m mi (fun i => (bs i).b) f n := ⟨_, rfl⟩
  rw [← hP]
  have HPE := Lib.hid hP
  obtain ⟨W1, hW1⟩ : ∃ W1, W1 = w.alloc (.cells #[.int .i64 0, .slice none 0 0, .int .i64 0, .slice none 0 0, .int .i64 0, .int .i64 0, .int .i64 0, .int .i64 0, .int .i64 0, .int .i64 0] 31) := ⟨_, rfl⟩
  obtain ⟨W2, hW2⟩ : ∃ W2, W2 = W1.alloc (.cells #[fnV 49 pb, fnV 50 pb, fnV 51 pb] 90) := ⟨_, rfl⟩
  have hs1 : W1.heap.size = w.heap.size + 1 := by rw [hW1]; simp
  have hs2 : W2.heap.size = w.heap.size + 2 := by rw [hW2]; simp [hs1]
  have hb1 : Below w.heap.size w W1 := by rw [hW1]; exact bel_alloc _ _
  have hb2 : Below W1.heap.size W1 W2 := by rw [hW2]; exact bel_alloc _ _
  have hb : Below w.heap.size w W2 := hb1.trans (hb2.mono hb1.size)
  have HRES : Hid (W2.rowIs w.heap.size 31 10 (rowL (poL beN beN Wk.flNil 0 0))) := by show World.rowIs _ _ _ _ _; refine wrow_below ?_ hb2; rw [hW1]; exact rowL_alloc w (poL beN beN Wk.flNil 0 0) _
  have HSTEP : Hid (W2.rowIs W1.heap.size 90 3 (rowL [fnV 49 pb, fnV 50 pb, fnV 51 pb])) := by show World.rowIs _ _ _ _ _; rw [hW2]; exact rowL_alloc W1 _ _
  have HFS : Hid (Fr pb (.slice none 0 0) (.slice none 0 0) w W2) := Fr.of_below hb
  have hpl : pb < w.heap.size := hrow.lt
  have HPL := Lib.hid hpl
  have HNR : Hid (w.heap.size ≠ pb) := by show _ ≠ _; omega
  have HOLD : Hid (∀ V, Fr pb (.slice none 0 0) (.slice none 0 0) W2 V → Below wo.heap.size wo V) := fun V hF => (hlo.trans (hb.mono hlo.size)).trans ⟨hF.os, hF.tape, hF.output, hF.size, fun q hq => hF.block q (by have := hlo.size; omega) (by omega) (by simp [Value.ownBlock]) (by simp [Value.ownBlock])⟩
  have HP0 : Hid (PlS W2.heap.size pb (.slice ma m mk) (Wk.pfl m mi (fun i => (bs i).b) f 0) (.slice none 0 0) 0 (Wk.pclean m mi (fun i => (bs i).b) f) (.slice none 0 0) (0 * 2) (Wk.pwaste m mi (fun i => (bs i).b) f) (Wk.pwash m mi (fun i => (bs i).b) f 0) W2) :=
    ⟨wrow_below hrow hb, PlL.nil _ _ _, PlL.nil _ _ _, by intro g e; simp [Value.ownBlock] at e, by omega, Nat.le_refl _⟩
  have HTAB := Lib.hid ht
  have HL := Lib.hid hl
  have HBN := Lib.hid hbn
  have HMI := Lib.hid hmi
  have HW1 := Lib.hid hW1
  have HW2 := Lib.hid hW2
  have HS1 := Lib.hid hs1
  have HS2 := Lib.hid hs2
  clear hW1 hW2 hb1 hb2 hb ht hl hbn hmi hrow hlo hpb hpl hs1 hs2 hP
  go_enter Tryd.func26, Tryd.ntmps26
  go_wp2_with fail
  rw [← HW1.out]
  refine (steps_any pb W1).mono ?_
  rintro e W2' ⟨rfl, rfl⟩
  go_wp2_with fail
  rw [← HW2.out]
  go_loopw [17] (fun iv wr => ∃ (i : Nat) (cv wv : Value), i ≤ n ∧ iv = .int .i64 i ∧ Hid (Wk.pcode m mi (fun i => (bs i).b) f i = 0) ∧ Hid (PlS W2.heap.size pb (.slice ma m mk) (Wk.pfl m mi (fun i => (bs i).b) f i) cv i (Wk.pclean m mi (fun i => (bs i).b) f) wv (i * 2) (Wk.pwaste m mi (fun i => (bs i).b) f) (Wk.pwash m mi (fun i => (bs i).b) f i) wr) ∧ Hid (Fr pb (.slice none 0 0) (.slice none 0 0) W2 wr)) (fun iv _ => n - (intOf iv).toNat)
  case atStart => exact ⟨0, _, _, Nat.zero_le _, rfl, rfl, HP0, Fr.of_below (Below.refl _ _)⟩
  case round =>
    obtain ⟨i, cv, wv, hi, rfl, hcode, hS, hF⟩ := hrel
    clear HP0
    by_cases hlt : i < n
    · have hltz : (i : Int) < (n : Int) := by omega
      obtain ⟨b, rfl, hbc⟩ := HL.out.all (by omega)
      obtain ⟨q0, q1⟩ := (hbc i hlt).1
      have hBl := HOLD.out wr hF.out
      have c0 := (hBl.cell (p := ⟨b, i * 2, none⟩) (World.block_lt_of_cell? _ _ q0)).trans q0
      have c1 := (hBl.cell (p := ⟨b, i * 2 + 1, none⟩) (World.block_lt_of_cell? _ _ q1)).trans q1
      obtain ⟨z, hz⟩ : ∃ z, z = bs i := ⟨_, rfl⟩
      rw [← hz] at c0 c1
      have HZI : Hid (IntsAt z.pa z.n z.f wo) := by show IntsAt _ _ _ _; rw [hz]; exact (hbc i hlt).2
      have HZN : Hid (z.n ≤ 4194304) := by show z.n ≤ _; rw [hz]; exact HBN.out i hlt
      obtain ⟨W3, hW3⟩ : ∃ W3, W3 = wr.alloc (.cells #[.int .i64 z.wt, .slice z.pa z.n z.k] 28) := ⟨_, rfl⟩
      have hb3 : Below wr.heap.size wr W3 := by rw [hW3]; exact bel_alloc _ _
      obtain ⟨r, hr⟩ : ∃ r, r = wr.heap.size := ⟨_, rfl⟩
      have HR8 : Hid (W3.rowIs r 28 2 (r2 (.int .i64 z.wt) (.slice z.pa z.n z.k))) := by show World.rowIs _ _ _ _ _; rw [hW3, hr]; exact row2 _ _ _ _
      have HS3 := Lib.hid (hS.out.below hb3)
      have HF3 : Hid (Fr pb (.slice none 0 0) (.slice none 0 0) W2 W3) := hF.out.trans (Fr.of_below hb3) (Gw.refl _ _) (Gw.refl _ _)
      have HC8 : Hid (cv.ownBlock ≠ some r) := fun e => by have := (hS.out.cl.lt e).2; omega
      have HV8 : Hid (wv.ownBlock ≠ some r) := fun e => by have := (hS.out.wl.lt e).2; omega
      have HRW : Hid (W2.heap.size ≤ r) := by show _ ≤ r; rw [hr]; exact hF.out.size
      have HZ := Lib.hid hz
      have HW3 := Lib.hid hW3
      have hrr := hr
      clear hb3 hW3 hz hbc q0 q1 hBl hS hF
      go_wp2_with fail
      rw [← HW3.out, ← hrr]
      clear c0 c1 hrr hr HW3
      refine wp_loop_rounds 4 ?_
      rw [rounds_succ]
      have sj : W3.cell? ⟨W1.heap.size, 0, none⟩ = some (fnV 49 pb) := (HSTEP.out.of_block (HF3.out.block _ HSTEP.out.lt (by have := HS1.out; have := HPL.out; omega) (by simp [Value.ownBlock]) (by simp [Value.ownBlock]))).cell (i := 0) (by omega)
      obtain ⟨⟨x0, x1⟩, _⟩ := row2_cells HR8.out
      go_wp2_with fail
      clear sj x0 x1
      refine (settleP_any W2.heap.size pb ma m mk mi _ cv i _ wv (i * 2) _ _ z.wt z.pa z.n z.k z.f _ HS3.out (HZI.out.below (HOLD.out W3 HF3.out)) HZN.out (HMI.out.below (HOLD.out W3 HF3.out)) (by omega) (by omega) (fun hok => ?_)).mono ?_
      · have e : (⟨z.wt, z.n, z.f⟩ : Wk.Bt) = (bs i).b := by rw [HZ.out]; rfl
        rw [Wk.pwaste_even]
        unfold Wk.pse
        show (Wk.settle (bs i).b m mi).y = _
        rw [← e, Wk.settle_ok (by omega) hok]
      rintro e Wm hout
      rcases hout with ⟨hok, x, v1, rfl, hx, hpx, hPm, hFm, hGm⟩ | ⟨hno, er, rfl, her, hFm⟩
      · have HFM : Hid (Fr pb (.slice none 0 0) (.slice none 0 0) W2 Wm) := HF3.out.trans hFm HS3.out.cl.gw HS3.out.wl.gw
        have hrp : r ≠ pb := by have := HRW.out; have := HS2.out; have := HPL.out; omega
        have HRM := Lib.hid (HR8.out.of_block (hFm.block _ HR8.out.lt hrp HC8.out HV8.out))
        have HVM : Hid (v1.ownBlock ≠ some r) := hGm.ne HR8.out.lt HV8.out
        have HEX : Hid ((Wk.pse m mi (fun i => (bs i).b) i).c = 0 ∧ x.b = (Wk.pse m mi (fun i => (bs i).b) i).x) := by
          have e : (⟨z.wt, z.n, z.f⟩ : Wk.Bt) = (bs i).b := by rw [HZ.out]; rfl
          have e2 : Wk.pse m mi (fun i => (bs i).b) i = _ := (congrArg (fun t => Wk.settle t m mi) e).symm.trans (Wk.settle_ok (by omega) hok)
          rw [e2]
          refine ⟨rfl, hx.trans ?_⟩
          show _ = Wk.cut _ _ _
          unfold Wk.cut
          rw [Int.sub_zero]
        obtain ⟨V1, hV1⟩ : ∃ V1, V1 = ((Wm.setCell ⟨r, 0, none⟩ (.int .i64 x.wt)).setCell ⟨r, 1, none⟩ (.slice x.pa x.n x.k)).alloc (.cells #[.int .i64 x.wt, .slice x.pa x.n x.k] 28) := ⟨_, rfl⟩
        obtain ⟨⟨hn1, hn2⟩, hn3, hn4⟩ := PlS.next hPm HRM.out HC8.out HVM.out HFM.out HRW.out (.int .i64 x.wt) (.slice x.pa x.n x.k)
        rw [← hV1] at hn1 hn2 hn3 hn4
        obtain ⟨⟨x0, x1⟩, y0, y1⟩ := row2_cells HRM.out
        have hrl := (HRM.out).lt
        have HV1 := Lib.hid hV1
        clear hV1
        have HXN : Hid (x.n ≤ 4194304) := by show x.n ≤ _; have e : x.n = z.n := congrArg Wk.Bt.n hx; rw [e]; exact HZN.out
        have HPX := Lib.hid hpx
        have HN1 := Lib.hid hn1
        have HN2 := Lib.hid hn2
        have HN3 := Lib.hid hn3
        have HIX : Hid (∃ g, x.pa = some ⟨g, 0, none⟩ ∧ InBlk g x.n x.f V1) := by obtain ⟨g, e, h2⟩ := hpx; exact ⟨g, e, hn4 _ _ _ h2⟩
        clear hx hpx hPm hFm hGm hn1 hn2 hn3 hn4 hok HPX
        go_wp2_with fail
        rw [← HV1.out]
        clear x0 x1 y0 y1 hrl
        have HST : Hid (Wk.step (Wk.pfl m mi (fun i => (bs i).b) f i) x.b = Wk.pst m mi (fun i => (bs i).b) f i) := by show _ = _; unfold Wk.pst; rw [HEX.out.2]
        rw [rounds_succ]
        have sj : V1.cell? ⟨W1.heap.size, 1, none⟩ = some (fnV 50 pb) := (HSTEP.out.of_block (HN3.out.block _ HSTEP.out.lt (by have := HS1.out; have := HPL.out; omega) (by simp [Value.ownBlock]) (by simp [Value.ownBlock]))).cell (i := 1) (by omega)
        obtain ⟨⟨x0, x1⟩, _⟩ := row2_cells HN2.out
        go_wp2_with fail
        clear sj x0 x1
        refine (strainP_any W2.heap.size pb (.slice ma m mk) _ cv i _ v1 (i * 2 + 1) _ _ x.b x.pa x.k _ HN1.out (by obtain ⟨g, e, h2⟩ := HIX.out; rw [e]; exact h2.at_) HXN.out (by omega) (by have := Wk.pwash_bounds (m := m) (mi := mi) (bs := (fun i => (bs i).b)) (f := f) i; omega) (fun _ => ?_)).mono ?_
        · rw [Wk.pwaste_odd, HST.out]
        rintro e Wm hout
        rw [SnOut, HST.out] at hout
        rcases hout with ⟨hok, x2, v2, k2, rfl, hx, hpx, hk2, hPm, hFm, hGm⟩ | ⟨c, er, hst, rfl, her, hFm⟩
        · have HFM : Hid (Fr pb (.slice none 0 0) (.slice none 0 0) W2 Wm) := HN3.out.trans hFm HN1.out.cl.gw HN1.out.wl.gw
          have hrp : r ≠ pb := by have := HRW.out; have := HS2.out; have := HPL.out; omega
          have HRM := Lib.hid (HN2.out.of_block (hFm.block _ HN2.out.lt hrp HC8.out HVM.out))
          have HVM2 : Hid (v2.ownBlock ≠ some r) := hGm.ne HN2.out.lt HVM.out
          have HOK2 := Lib.hid hok
          have HX2 := Lib.hid hx
          have HK2 := Lib.hid hk2
          obtain ⟨V2, hV2⟩ : ∃ V2, V2 = ((Wm.setCell ⟨r, 0, none⟩ (.int .i64 x2.wt)).setCell ⟨r, 1, none⟩ (.slice x2.pa x2.n x2.k)).alloc (.cells #[.int .i64 x2.wt, .slice x2.pa x2.n x2.k] 28) := ⟨_, rfl⟩
          obtain ⟨⟨hn1, hn2⟩, hn3, hn4⟩ := PlS.next hPm HRM.out HC8.out HVM2.out HFM.out HRW.out (.int .i64 x2.wt) (.slice x2.pa x2.n x2.k)
          rw [← hV2] at hn1 hn2 hn3 hn4
          obtain ⟨⟨x0, x1⟩, y0, y1⟩ := row2_cells HRM.out
          have hrl := (HRM.out).lt
          have HV2 := Lib.hid hV2
          clear hV2
          have HM1 := Lib.hid hn1
          have HM2 := Lib.hid hn2
          have HM3 := Lib.hid hn3
          have HIX2 : Hid (∃ g, x2.pa = some ⟨g, 0, none⟩ ∧ InBlk g x2.n x2.f V2) := by obtain ⟨g, e, h2⟩ := hpx; exact ⟨g, e, hn4 _ _ _ h2⟩
          clear hx hpx hPm hFm hGm hn1 hn2 hn3 hn4 hok hk2 HN1 HN2 HN3 HIX
          go_wp2_with fail
          rw [← HV2.out]
          clear x0 x1 y0 y1 hrl
          rw [rounds_succ]
          have sj : V2.cell? ⟨W1.heap.size, 2, none⟩ = some (fnV 51 pb) := (HSTEP.out.of_block (HM3.out.block _ HSTEP.out.lt (by have := HS1.out; have := HPL.out; omega) (by simp [Value.ownBlock]) (by simp [Value.ownBlock]))).cell (i := 2) (by omega)
          obtain ⟨⟨x0, x1⟩, _⟩ := row2_cells HM2.out
          go_wp2_with fail
          clear sj x0 x1
          refine (storeP_any W2.heap.size pb (.slice ma m mk) _ cv i _ v2 (i * 2 + 1 + 1) _ _ x2 _ HM1.out HX2.out HIX2.out (by omega)).mono ?_
          rintro e Wm ⟨c3, rfl, hPm, hFm, hGm⟩
          have HFM : Hid (Fr pb (.slice none 0 0) (.slice none 0 0) W2 Wm) := HM3.out.trans hFm HM1.out.cl.gw HM1.out.wl.gw
          have hrp : r ≠ pb := by have := HRW.out; have := HS2.out; have := HPL.out; omega
          have HRM := Lib.hid (HM2.out.of_block (hFm.block _ HM2.out.lt hrp HC8.out HVM2.out))
          have HCM : Hid (c3.ownBlock ≠ some r) := hGm.ne HM2.out.lt HC8.out
          obtain ⟨V3, hV3⟩ : ∃ V3, V3 = ((Wm.setCell ⟨r, 0, none⟩ (.int .i64 x2.wt)).setCell ⟨r, 1, none⟩ (.slice x2.pa x2.n x2.k)).alloc (.cells #[.int .i64 x2.wt, .slice x2.pa x2.n x2.k] 28) := ⟨_, rfl⟩
          obtain ⟨⟨hn1, hn2⟩, hn3, hn4⟩ := PlS.next hPm HRM.out HCM.out HVM2.out HFM.out HRW.out (.int .i64 x2.wt) (.slice x2.pa x2.n x2.k)
          rw [← hV3] at hn1 hn2 hn3 hn4
          obtain ⟨⟨x0, x1⟩, y0, y1⟩ := row2_cells HRM.out
          have hrl := (HRM.out).lt
          have HV3 := Lib.hid hV3
          clear hV3
          have HO1 := Lib.hid hn1
          have HO3 := Lib.hid hn3
          clear hPm hFm hGm hn1 hn2 hn3 hn4 HM1 HM2 HM3 HIX2
          go_wp2_with fail
          rw [← HV3.out]
          clear x0 x1 y0 y1 hrl
          rw [rounds_succ]
          go_wp2_with fail
          go_roundw
          case rel =>
            refine ⟨i + 1, c3, v2, by omega, by go_num, Wk.pcode_next hcode.out HEX.out.1 HOK2.out, ?_, HO3⟩
            have e1 : (i + 1) * 2 = i * 2 + 1 + 1 := by omega
            have e2 : Wk.pwash m mi (fun i => (bs i).b) f (i + 1) = k2 := by
              simp only [Wk.pwash]
              split
              · rename_i h9; rw [HK2.out.1 h9]
              · rename_i h9; rw [HK2.out.2 (by omega), Int.add_zero]
            rw [e1, e2, Wk.pfl_succ]
            exact HO1
          case measure => simp [intOf]; omega
        · obtain ⟨ey, rfl, hey⟩ := her
          have HEY := Lib.hid hey
          have HFM : Hid (Fr pb (.slice none 0 0) (.slice none 0 0) W2 Wm) := HN3.out.trans hFm HN1.out.cl.gw HN1.out.wl.gw
          have HPB := Lib.hid hst
          have HCN : Hid (c ≠ 0) := step_bad_ne (HST.out.trans hst)
          clear hey hst hFm
          have HEQ : Hid (P = Wk.badP (c)) := by show _ = _; rw [HPE.out]; exact (Wk.plant_filter (by omega) hcode.out HEX.out.1 (by rw [HPB.out]; exact HCN.out) hlt).trans (by rw [HPB.out]; rfl)
          obtain ⟨Wa, hWa⟩ : ∃ Wa, Wa = Wm.alloc (.cells #[.int .i64 0, .slice none 0 0] 28) := ⟨_, rfl⟩
          have hba : Below Wm.heap.size Wm Wa := by rw [hWa]; exact bel_alloc _ _
          have HFA : Hid (Fr pb (.slice none 0 0) (.slice none 0 0) W2 Wa) := HFM.out.trans (Fr.of_below hba) (Gw.refl _ _) (Gw.refl _ _)
          have HWa := Lib.hid hWa
          have HLO : Hid (Below wo.heap.size wo Wa) := HOLD.out Wa HFA.out
          clear hWa hba
          go_wp2_with fail
          rw [← HWa.out]
          refine (itoaS_any i (by omega) _ (tab_below HTAB.out HLO.out)).mono ?_
          rintro e Wb ⟨⟨tx, rfl, htx⟩, hbb⟩
          have HFB : Hid (Fr pb (.slice none 0 0) (.slice none 0 0) W2 Wb) := HFA.out.trans (Fr.of_below hbb) (Gw.refl _ _) (Gw.refl _ _)
          have htz : ¬ 9223372036854775807 < 6 + tx.size := by omega
          have htz2 : ¬ 9223372036854775807 < 6 + tx.size + 11 := by omega
          have HRR : Hid (Wb.rowIs w.heap.size 31 10 (rowL (poL beN beN Wk.flNil 0 0))) := HRES.out.of_block (HFB.out.block _ HRES.out.lt HNR.out (by simp [Value.ownBlock]) (by simp [Value.ownBlock]))
          obtain ⟨⟨f0, f1, f2, f3, f4⟩, f5, f6, f7, f8, f9⟩ := po_res HRR.out
          obtain ⟨⟨o0, o1, o2, o3, o4⟩, o5, o6, o7, o8, o9⟩ := po_cells HRR.out
          have l0 := HRR.out.lt
          obtain ⟨V, hV⟩ : ∃ V, V = ((((((((((Wb).setCell ⟨w.heap.size, 0, none⟩ (.int .i64 0)).setCell ⟨w.heap.size, 1, none⟩ (.slice none 0 0)).setCell ⟨w.heap.size, 2, none⟩ (.int .i64 0)).setCell ⟨w.heap.size, 3, none⟩ (.slice none 0 0)).setCell ⟨w.heap.size, 4, none⟩ (.int .i64 0)).setCell ⟨w.heap.size, 5, none⟩ (.int .i64 0)).setCell ⟨w.heap.size, 6, none⟩ (.int .i64 0)).setCell ⟨w.heap.size, 7, none⟩ (.int .i64 0)).setCell ⟨w.heap.size, 8, none⟩ (.int .i64 0)).setCell ⟨w.heap.size, 9, none⟩ (.int .i64 0) := ⟨_, rfl⟩
          have HRV : Hid (V.rowIs w.heap.size 31 10 (rowL (poL beN beN Wk.flNil 0 0))) := by show World.rowIs _ _ _ _ _; rw [hV]; exact put10_row HRR.out rfl (.int .i64 0) (.slice none 0 0) (.int .i64 0) (.slice none 0 0) (.int .i64 0) (.int .i64 0) (.int .i64 0) (.int .i64 0) (.int .i64 0) (.int .i64 0)
          have HFV : Hid (Fr pb (.slice none 0 0) (.slice none 0 0) w V) := by
            show Fr _ _ _ _ _
            rw [hV]
            have q := HFS.out.trans HFB.out (Gw.refl _ _) (Gw.refl _ _)
            exact (((((((((q.above (Nat.le_refl _) 0 _).above (Nat.le_refl _) 1 _).above (Nat.le_refl _) 2 _).above (Nat.le_refl _) 3 _).above (Nat.le_refl _) 4 _).above (Nat.le_refl _) 5 _).above (Nat.le_refl _) 6 _).above (Nat.le_refl _) 7 _).above (Nat.le_refl _) 8 _).above (Nat.le_refl _) 9 _
          have HV := Lib.hid hV
          clear hV hbb
          go_wp2_with fail
          rw [← HV.out]
          clear f0 f1 f2 f3 f4 f5 f6 f7 f8 f9 o0 o1 o2 o3 o4 o5 o6 o7 o8 o9
          refine bodyPost_ret (v := .tuple #[poV beN beN Wk.flNil 0 0, .iface 64 (.agg #[.string (((⟨#[98, 97, 116, 99, 104, 32]⟩ : ByteArray) ++ tx) ++ (⟨#[32, 111, 102, 32, 97, 32, 112, 108, 97, 110, 116]⟩ : ByteArray)), .iface 64 ey])]) ?_ rfl ⟨Or.inr ⟨_, _, HEQ.out, rfl, ErrIs.wrap ⟨ey, rfl, HEY.out⟩ _⟩, HFV.out⟩
          obtain ⟨⟨a0, a1, a2, a3, a4⟩, a5, a6, a7, a8, a9⟩ := po_cells HRV.out
          simp only [results, Tryd.results26]
          simp [go_sem, a0, a1, a2, a3, a4, a5, a6, a7, a8, a9]
      · obtain ⟨ey, rfl, hey⟩ := her
        have HEY := Lib.hid hey
        have HFM : Hid (Fr pb (.slice none 0 0) (.slice none 0 0) W2 Wm) := HF3.out.trans hFm HS3.out.cl.gw HS3.out.wl.gw
        have HPB : Hid (Wk.pse m mi (fun i => (bs i).b) i = Wk.bad 1) := by
          have e : (⟨z.wt, z.n, z.f⟩ : Wk.Bt) = (bs i).b := by rw [HZ.out]; rfl
          exact (congrArg (fun t => Wk.settle t m mi) e).symm.trans (Wk.settle_bad (by omega) hno)
        clear hey hno hFm
        have HEQ : Hid (P = Wk.badP (1)) := by show _ = _; rw [HPE.out]; exact (Wk.plant_settle (by omega) hcode.out (by rw [HPB.out]; simp [Wk.bad]) hlt).trans (by rw [HPB.out]; rfl)
        obtain ⟨Wa, hWa⟩ : ∃ Wa, Wa = Wm.alloc (.cells #[.int .i64 0, .slice none 0 0] 28) := ⟨_, rfl⟩
        have hba : Below Wm.heap.size Wm Wa := by rw [hWa]; exact bel_alloc _ _
        have HFA : Hid (Fr pb (.slice none 0 0) (.slice none 0 0) W2 Wa) := HFM.out.trans (Fr.of_below hba) (Gw.refl _ _) (Gw.refl _ _)
        have HWa := Lib.hid hWa
        have HLO : Hid (Below wo.heap.size wo Wa) := HOLD.out Wa HFA.out
        clear hWa hba
        go_wp2_with fail
        rw [← HWa.out]
        refine (itoaS_any i (by omega) _ (tab_below HTAB.out HLO.out)).mono ?_
        rintro e Wb ⟨⟨tx, rfl, htx⟩, hbb⟩
        have HFB : Hid (Fr pb (.slice none 0 0) (.slice none 0 0) W2 Wb) := HFA.out.trans (Fr.of_below hbb) (Gw.refl _ _) (Gw.refl _ _)
        have htz : ¬ 9223372036854775807 < 6 + tx.size := by omega
        have htz2 : ¬ 9223372036854775807 < 6 + tx.size + 11 := by omega
        have HRR : Hid (Wb.rowIs w.heap.size 31 10 (rowL (poL beN beN Wk.flNil 0 0))) := HRES.out.of_block (HFB.out.block _ HRES.out.lt HNR.out (by simp [Value.ownBlock]) (by simp [Value.ownBlock]))
        obtain ⟨⟨f0, f1, f2, f3, f4⟩, f5, f6, f7, f8, f9⟩ := po_res HRR.out
        obtain ⟨⟨o0, o1, o2, o3, o4⟩, o5, o6, o7, o8, o9⟩ := po_cells HRR.out
        have l0 := HRR.out.lt
        obtain ⟨V, hV⟩ : ∃ V, V = ((((((((((Wb).setCell ⟨w.heap.size, 0, none⟩ (.int .i64 0)).setCell ⟨w.heap.size, 1, none⟩ (.slice none 0 0)).setCell ⟨w.heap.size, 2, none⟩ (.int .i64 0)).setCell ⟨w.heap.size, 3, none⟩ (.slice none 0 0)).setCell ⟨w.heap.size, 4, none⟩ (.int .i64 0)).setCell ⟨w.heap.size, 5, none⟩ (.int .i64 0)).setCell ⟨w.heap.size, 6, none⟩ (.int .i64 0)).setCell ⟨w.heap.size, 7, none⟩ (.int .i64 0)).setCell ⟨w.heap.size, 8, none⟩ (.int .i64 0)).setCell ⟨w.heap.size, 9, none⟩ (.int .i64 0) := ⟨_, rfl⟩
        have HRV : Hid (V.rowIs w.heap.size 31 10 (rowL (poL beN beN Wk.flNil 0 0))) := by show World.rowIs _ _ _ _ _; rw [hV]; exact put10_row HRR.out rfl (.int .i64 0) (.slice none 0 0) (.int .i64 0) (.slice none 0 0) (.int .i64 0) (.int .i64 0) (.int .i64 0) (.int .i64 0) (.int .i64 0) (.int .i64 0)
        have HFV : Hid (Fr pb (.slice none 0 0) (.slice none 0 0) w V) := by
          show Fr _ _ _ _ _
          rw [hV]
          have q := HFS.out.trans HFB.out (Gw.refl _ _) (Gw.refl _ _)
          exact (((((((((q.above (Nat.le_refl _) 0 _).above (Nat.le_refl _) 1 _).above (Nat.le_refl _) 2 _).above (Nat.le_refl _) 3 _).above (Nat.le_refl _) 4 _).above (Nat.le_refl _) 5 _).above (Nat.le_refl _) 6 _).above (Nat.le_refl _) 7 _).above (Nat.le_refl _) 8 _).above (Nat.le_refl _) 9 _
        have HV := Lib.hid hV
        clear hV hbb
        go_wp2_with fail
        rw [← HV.out]
        clear f0 f1 f2 f3 f4 f5 f6 f7 f8 f9 o0 o1 o2 o3 o4 o5 o6 o7 o8 o9
        refine bodyPost_ret (v := .tuple #[poV beN beN Wk.flNil 0 0, .iface 64 (.agg #[.string (((⟨#[98, 97, 116, 99, 104, 32]⟩ : ByteArray) ++ tx) ++ (⟨#[32, 111, 102, 32, 97, 32, 112, 108, 97, 110, 116]⟩ : ByteArray)), .iface 64 ey])]) ?_ rfl ⟨Or.inr ⟨_, _, HEQ.out, rfl, ErrIs.wrap ⟨ey, rfl, HEY.out⟩ _⟩, HFV.out⟩
        obtain ⟨⟨a0, a1, a2, a3, a4⟩, a5, a6, a7, a8, a9⟩ := po_cells HRV.out
        simp only [results, Tryd.results26]
        simp [go_sem, a0, a1, a2, a3, a4, a5, a6, a7, a8, a9]
    · obtain rfl : i = n := by omega
      obtain ⟨fl, hfl⟩ : ∃ fl, fl = Wk.pfl m mi (fun i => (bs i).b) f i := ⟨_, rfl⟩
      obtain ⟨kw, hkw⟩ : ∃ kw, kw = Wk.pwash m mi (fun i => (bs i).b) f i := ⟨_, rfl⟩
      have HFL := Lib.hid hfl
      have HKW := Lib.hid hkw
      rw [← hfl, ← hkw] at hS
      clear hfl hkw
      go_wp2_with fail
      refine (told_any W2.heap.size pb _ fl cv i _ wv (i * 2) _ kw _ hS.out (by omega) (by omega) (fun j hj => Nat.le_trans (pclean_n _ _ _ _ j) (HBN.out j hj)) (fun j hj => Nat.le_trans (pwaste_n _ _ _ _ j) (HBN.out (j / 2) (by omega))) (tab_below HTAB.out (HOLD.out wr hF.out))).mono ?_
      rintro e Wt ⟨hout, hbt⟩
      have HFT : Hid (Fr pb (.slice none 0 0) (.slice none 0 0) W2 Wt) := hF.out.trans (Fr.of_below hbt) (Gw.refl _ _) (Gw.refl _ _)
      have HRR : Hid (Wt.rowIs w.heap.size 31 10 (rowL (poL beN beN Wk.flNil 0 0))) := HRES.out.of_block (HFT.out.block _ HRES.out.lt HNR.out (by simp [Value.ownBlock]) (by simp [Value.ownBlock]))
      have HSW : Hid (w.heap.size + 2 ≤ wr.heap.size) := by show _ ≤ _; have := hF.out.size; have := HS2.out; omega
      clear hbt hS hF
      rcases hout with ⟨h1, h2, x, y, g1, g2, rfl, hx, hy, hpa, hgg, hi1, hi2⟩ | ⟨h1, er, rfl, her⟩ | ⟨h1, h2, er, rfl, her⟩
      · have hPk : P = ⟨(Wk.mix i (Wk.pclean m mi (fun i => (bs i).b) f)).x, (Wk.mix (i * 2) (Wk.pwaste m mi (fun i => (bs i).b) f)).x, fl, kw, 0⟩ := by rw [HPE.out, Wk.plant_ok (by omega) hcode.out h1 h2, HFL.out, HKW.out]
        have HPK := Lib.hid hPk
        have HXY := Lib.hid (And.intro hx hy)
        have HPA := Lib.hid hpa
        have HGG := Lib.hid hgg
        have HI1 := Lib.hid hi1
        have HI2 := Lib.hid hi2
        have HGO : Hid ((w.heap.size ≤ g1 ∧ w.heap.size ≤ g2 ∧ g1 ≠ g2) ∧ g1 ≠ w.heap.size ∧ g2 ≠ w.heap.size) := by show (_ ∧ _ ∧ _) ∧ _; have := HSW.out; omega
        clear hPk hx hy hpa hgg hi1 hi2 h1 h2
        obtain ⟨⟨f0, f1, f2, f3, f4⟩, f5, f6, f7, f8, f9⟩ := po_res HRR.out
        obtain ⟨⟨o0, o1, o2, o3, o4⟩, o5, o6, o7, o8, o9⟩ := po_cells HRR.out
        have l0 := HRR.out.lt
        obtain ⟨V, hV⟩ : ∃ V, V = ((((((((((Wt).setCell ⟨w.heap.size, 0, none⟩ (.int .i64 x.wt)).setCell ⟨w.heap.size, 1, none⟩ (.slice x.pa x.n x.k)).setCell ⟨w.heap.size, 2, none⟩ (.int .i64 y.wt)).setCell ⟨w.heap.size, 3, none⟩ (.slice y.pa y.n y.k)).setCell ⟨w.heap.size, 4, none⟩ (.int .i64 fl.held)).setCell ⟨w.heap.size, 5, none⟩ (.int .i64 fl.most)).setCell ⟨w.heap.size, 6, none⟩ (.int .i64 fl.catch_)).setCell ⟨w.heap.size, 7, none⟩ (.int .i64 fl.wash)).setCell ⟨w.heap.size, 8, none⟩ (.int .i64 kw)).setCell ⟨w.heap.size, 9, none⟩ (.int .i64 0) := ⟨_, rfl⟩
        have HRV : Hid (V.rowIs w.heap.size 31 10 (rowL (poL x y fl kw 0))) := by show World.rowIs _ _ _ _ _; rw [hV]; exact put10_row HRR.out rfl (.int .i64 x.wt) (.slice x.pa x.n x.k) (.int .i64 y.wt) (.slice y.pa y.n y.k) (.int .i64 fl.held) (.int .i64 fl.most) (.int .i64 fl.catch_) (.int .i64 fl.wash) (.int .i64 kw) (.int .i64 0)
        have HFR : Hid (∀ q, q ≠ w.heap.size → V.heap[q]? = Wt.heap[q]?) := fun q hq => by rw [hV]; exact put10_far Wt hq (.int .i64 x.wt) (.slice x.pa x.n x.k) (.int .i64 y.wt) (.slice y.pa y.n y.k) (.int .i64 fl.held) (.int .i64 fl.most) (.int .i64 fl.catch_) (.int .i64 fl.wash) (.int .i64 kw) (.int .i64 0)
        have HFV : Hid (Fr pb (.slice none 0 0) (.slice none 0 0) w V) := by
          show Fr _ _ _ _ _
          rw [hV]
          have q := HFS.out.trans HFT.out (Gw.refl _ _) (Gw.refl _ _)
          exact (((((((((q.above (Nat.le_refl _) 0 _).above (Nat.le_refl _) 1 _).above (Nat.le_refl _) 2 _).above (Nat.le_refl _) 3 _).above (Nat.le_refl _) 4 _).above (Nat.le_refl _) 5 _).above (Nat.le_refl _) 6 _).above (Nat.le_refl _) 7 _).above (Nat.le_refl _) 8 _).above (Nat.le_refl _) 9 _
        have HV := Lib.hid hV
        clear hV
        go_wp2_with fail
        rw [← HV.out]
        clear f0 f1 f2 f3 f4 f5 f6 f7 f8 f9 o0 o1 o2 o3 o4 o5 o6 o7 o8 o9
        refine bodyPost_ret (v := .tuple #[poV x y fl kw 0, .nilIface]) ?_ rfl ⟨Or.inl ⟨by rw [HPK.out], x, y, g1, g2, by rw [HPK.out], by rw [HPK.out]; exact HXY.out.1, by rw [HPK.out]; exact HXY.out.2, HPA.out, HGO.out.1, HI1.out.block (HFR.out _ HGO.out.2.1), HI2.out.block (HFR.out _ HGO.out.2.2)⟩, HFV.out⟩
        obtain ⟨⟨a0, a1, a2, a3, a4⟩, a5, a6, a7, a8, a9⟩ := po_cells HRV.out
        simp only [results, Tryd.results26]
        simp [go_sem, a0, a1, a2, a3, a4, a5, a6, a7, a8, a9]
      · obtain ⟨ey, rfl, hey⟩ := her
        have HEY := Lib.hid hey
        have HEQ : Hid (P = Wk.badP (Wk.mix i (Wk.pclean m mi (fun i => (bs i).b) f)).c) := by show _ = _; rw [HPE.out]; exact Wk.plant_clean (by omega) hcode.out h1
        clear hey h1
        obtain ⟨⟨f0, f1, f2, f3, f4⟩, f5, f6, f7, f8, f9⟩ := po_res HRR.out
        obtain ⟨⟨o0, o1, o2, o3, o4⟩, o5, o6, o7, o8, o9⟩ := po_cells HRR.out
        have l0 := HRR.out.lt
        obtain ⟨V, hV⟩ : ∃ V, V = ((((((((((Wt).setCell ⟨w.heap.size, 0, none⟩ (.int .i64 0)).setCell ⟨w.heap.size, 1, none⟩ (.slice none 0 0)).setCell ⟨w.heap.size, 2, none⟩ (.int .i64 0)).setCell ⟨w.heap.size, 3, none⟩ (.slice none 0 0)).setCell ⟨w.heap.size, 4, none⟩ (.int .i64 Wk.flNil.held)).setCell ⟨w.heap.size, 5, none⟩ (.int .i64 Wk.flNil.most)).setCell ⟨w.heap.size, 6, none⟩ (.int .i64 Wk.flNil.catch_)).setCell ⟨w.heap.size, 7, none⟩ (.int .i64 Wk.flNil.wash)).setCell ⟨w.heap.size, 8, none⟩ (.int .i64 0)).setCell ⟨w.heap.size, 9, none⟩ (.int .i64 0) := ⟨_, rfl⟩
        have HRV : Hid (V.rowIs w.heap.size 31 10 (rowL (poL beN beN Wk.flNil 0 0))) := by show World.rowIs _ _ _ _ _; rw [hV]; exact put10_row HRR.out rfl (.int .i64 0) (.slice none 0 0) (.int .i64 0) (.slice none 0 0) (.int .i64 Wk.flNil.held) (.int .i64 Wk.flNil.most) (.int .i64 Wk.flNil.catch_) (.int .i64 Wk.flNil.wash) (.int .i64 0) (.int .i64 0)
        have HFR : Hid (∀ q, q ≠ w.heap.size → V.heap[q]? = Wt.heap[q]?) := fun q hq => by rw [hV]; exact put10_far Wt hq (.int .i64 0) (.slice none 0 0) (.int .i64 0) (.slice none 0 0) (.int .i64 Wk.flNil.held) (.int .i64 Wk.flNil.most) (.int .i64 Wk.flNil.catch_) (.int .i64 Wk.flNil.wash) (.int .i64 0) (.int .i64 0)
        have HFV : Hid (Fr pb (.slice none 0 0) (.slice none 0 0) w V) := by
          show Fr _ _ _ _ _
          rw [hV]
          have q := HFS.out.trans HFT.out (Gw.refl _ _) (Gw.refl _ _)
          exact (((((((((q.above (Nat.le_refl _) 0 _).above (Nat.le_refl _) 1 _).above (Nat.le_refl _) 2 _).above (Nat.le_refl _) 3 _).above (Nat.le_refl _) 4 _).above (Nat.le_refl _) 5 _).above (Nat.le_refl _) 6 _).above (Nat.le_refl _) 7 _).above (Nat.le_refl _) 8 _).above (Nat.le_refl _) 9 _
        have HV := Lib.hid hV
        clear hV
        go_wp2_with fail
        rw [← HV.out]
        clear f0 f1 f2 f3 f4 f5 f6 f7 f8 f9 o0 o1 o2 o3 o4 o5 o6 o7 o8 o9
        refine bodyPost_ret (v := .tuple #[poV beN beN Wk.flNil 0 0, .iface 64 ey]) ?_ rfl ⟨Or.inr ⟨_, _, HEQ.out, rfl, ⟨ey, rfl, HEY.out⟩⟩, HFV.out⟩
        obtain ⟨⟨a0, a1, a2, a3, a4⟩, a5, a6, a7, a8, a9⟩ := po_cells HRV.out
        simp only [results, Tryd.results26]
        simp [go_sem, a0, a1, a2, a3, a4, a5, a6, a7, a8, a9]
      · obtain ⟨ey, rfl, hey⟩ := her
        have HEY := Lib.hid hey
        have HEQ : Hid (P = Wk.badP (Wk.mix (i * 2) (Wk.pwaste m mi (fun i => (bs i).b) f)).c) := by show _ = _; rw [HPE.out]; exact Wk.plant_waste (by omega) hcode.out h1 h2
        clear hey h1 h2
        obtain ⟨⟨f0, f1, f2, f3, f4⟩, f5, f6, f7, f8, f9⟩ := po_res HRR.out
        obtain ⟨⟨o0, o1, o2, o3, o4⟩, o5, o6, o7, o8, o9⟩ := po_cells HRR.out
        have l0 := HRR.out.lt
        obtain ⟨V, hV⟩ : ∃ V, V = ((((((((((Wt).setCell ⟨w.heap.size, 0, none⟩ (.int .i64 0)).setCell ⟨w.heap.size, 1, none⟩ (.slice none 0 0)).setCell ⟨w.heap.size, 2, none⟩ (.int .i64 0)).setCell ⟨w.heap.size, 3, none⟩ (.slice none 0 0)).setCell ⟨w.heap.size, 4, none⟩ (.int .i64 Wk.flNil.held)).setCell ⟨w.heap.size, 5, none⟩ (.int .i64 Wk.flNil.most)).setCell ⟨w.heap.size, 6, none⟩ (.int .i64 Wk.flNil.catch_)).setCell ⟨w.heap.size, 7, none⟩ (.int .i64 Wk.flNil.wash)).setCell ⟨w.heap.size, 8, none⟩ (.int .i64 0)).setCell ⟨w.heap.size, 9, none⟩ (.int .i64 0) := ⟨_, rfl⟩
        have HRV : Hid (V.rowIs w.heap.size 31 10 (rowL (poL beN beN Wk.flNil 0 0))) := by show World.rowIs _ _ _ _ _; rw [hV]; exact put10_row HRR.out rfl (.int .i64 0) (.slice none 0 0) (.int .i64 0) (.slice none 0 0) (.int .i64 Wk.flNil.held) (.int .i64 Wk.flNil.most) (.int .i64 Wk.flNil.catch_) (.int .i64 Wk.flNil.wash) (.int .i64 0) (.int .i64 0)
        have HFR : Hid (∀ q, q ≠ w.heap.size → V.heap[q]? = Wt.heap[q]?) := fun q hq => by rw [hV]; exact put10_far Wt hq (.int .i64 0) (.slice none 0 0) (.int .i64 0) (.slice none 0 0) (.int .i64 Wk.flNil.held) (.int .i64 Wk.flNil.most) (.int .i64 Wk.flNil.catch_) (.int .i64 Wk.flNil.wash) (.int .i64 0) (.int .i64 0)
        have HFV : Hid (Fr pb (.slice none 0 0) (.slice none 0 0) w V) := by
          show Fr _ _ _ _ _
          rw [hV]
          have q := HFS.out.trans HFT.out (Gw.refl _ _) (Gw.refl _ _)
          exact (((((((((q.above (Nat.le_refl _) 0 _).above (Nat.le_refl _) 1 _).above (Nat.le_refl _) 2 _).above (Nat.le_refl _) 3 _).above (Nat.le_refl _) 4 _).above (Nat.le_refl _) 5 _).above (Nat.le_refl _) 6 _).above (Nat.le_refl _) 7 _).above (Nat.le_refl _) 8 _).above (Nat.le_refl _) 9 _
        have HV := Lib.hid hV
        clear hV
        go_wp2_with fail
        rw [← HV.out]
        clear f0 f1 f2 f3 f4 f5 f6 f7 f8 f9 o0 o1 o2 o3 o4 o5 o6 o7 o8 o9
        refine bodyPost_ret (v := .tuple #[poV beN beN Wk.flNil 0 0, .iface 64 ey]) ?_ rfl ⟨Or.inr ⟨_, _, HEQ.out, rfl, ⟨ey, rfl, HEY.out⟩⟩, HFV.out⟩
        obtain ⟨⟨a0, a1, a2, a3, a4⟩, a5, a6, a7, a8, a9⟩ := po_cells HRV.out
        simp only [results, Tryd.results26]
        simp [go_sem, a0, a1, a2, a3, a4, a5, a6, a7, a8, a9]
end Go.Proofs.YtcjeieagpcphjaaDoor
