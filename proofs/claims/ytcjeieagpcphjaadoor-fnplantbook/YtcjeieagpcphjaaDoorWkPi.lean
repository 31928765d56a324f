/-
  The contract of the program's PlantRun.
-/
import Derived.Test.YtcjeieagpcphjaaDoorWkPh
namespace Go.Proofs.YtcjeieagpcphjaaDoor
open Go.RowKit Go.Deep

set_option maxRecDepth 100000 in
set_option maxHeartbeats 4000000 in
theorem tellP_ok (x y : Be) (fl : Wk.Fl) (kw cc : Int) (w : World) :
    Calls Tryd.prog 25 #[poV x y fl kw cc, .nilIface] w fun e w' => e = .returned (poV x y fl kw cc) ∧ Below w.heap.size w w' := by
  go_enter Tryd.func25, Tryd.ntmps25
  go_wp2_with fail
  refine bodyPost_ret (v := poV x y fl kw cc) ?_ rfl ⟨rfl, ((Below.refl _ _).alloc (Nat.le_refl _) _).alloc (by simp) _⟩
  simp [results, Tryd.results25, go_sem]
set_option maxRecDepth 100000 in
set_option maxHeartbeats 4000000 in
theorem tellP_bad (x y : Be) (fl : Wk.Fl) (kw cc : Int) (v : Value) (c : Int) (w : World) (hv : ErrIs v c) (hg : Et w) :
    Calls Tryd.prog 25 #[poV x y fl kw cc, v] w fun e w' => e = .returned (poV beN beN Wk.flNil 0 c) ∧ Below w.heap.size w w' := by
  obtain ⟨ey, rfl, hy⟩ := hv
  obtain ⟨W, hW⟩ : ∃ W, W = (w.alloc (.cells #[.int .i64 x.wt, .slice x.pa x.n x.k, .int .i64 y.wt, .slice y.pa y.n y.k, .int .i64 fl.held, .int .i64 fl.most, .int .i64 fl.catch_, .int .i64 fl.wash, .int .i64 kw, .int .i64 cc] 31)).alloc (.cells #[.int .i64 0, .slice none 0 0, .int .i64 0, .slice none 0 0, .int .i64 0, .int .i64 0, .int .i64 0, .int .i64 0, .int .i64 0, .int .i64 0] 31) := ⟨_, rfl⟩
  have hB : Below w.heap.size w W := by rw [hW]; exact ((Below.refl _ _).alloc (Nat.le_refl _) _).alloc (by simp) _
  have RO : W.rowIs (w.heap.size + 1) 31 10 (rowL (poL beN beN Wk.flNil 0 0)) := by
    rw [hW]
    have := rowL_alloc (w.alloc (.cells #[.int .i64 x.wt, .slice x.pa x.n x.k, .int .i64 y.wt, .slice y.pa y.n y.k, .int .i64 fl.held, .int .i64 fl.most, .int .i64 fl.catch_, .int .i64 fl.wash, .int .i64 kw, .int .i64 cc] 31)) (poL beN beN Wk.flNil 0 0) 31
    rwa [World.size_alloc] at this
  have HY := Lib.hid hy
  have HG : Hid (Et W) := hg.below hB
  have HW := Lib.hid hW
  have HB := Lib.hid hB
  have HRO := Lib.hid RO
  clear hy hg hW hB RO
  go_enter Tryd.func25, Tryd.ntmps25
  go_wp2_with fail
  rw [← HW.out]
  refine (codeOf_any ey c HY.out _ HG.out).mono ?_
  rintro e w1 ⟨rfl, hb⟩
  have HB1 : Hid (Below w.heap.size w w1) := HB.out.trans (hb.mono HB.out.size)
  have HRR := Lib.hid (wrow_below HRO.out hb)
  obtain ⟨⟨f0, f1, f2, f3, f4⟩, f5, f6, f7, f8, f9⟩ := po_res HRR.out
  obtain ⟨⟨o0, o1, o2, o3, o4⟩, o5, o6, o7, o8, o9⟩ := po_cells HRR.out
  have l0 := HRR.out.lt
  obtain ⟨V, hV⟩ : ∃ V, V = ((((((((((w1).setCell ⟨w.heap.size + 1, 0, none⟩ (.int .i64 0)).setCell ⟨w.heap.size + 1, 1, none⟩ (.slice none 0 0)).setCell ⟨w.heap.size + 1, 2, none⟩ (.int .i64 0)).setCell ⟨w.heap.size + 1, 3, none⟩ (.slice none 0 0)).setCell ⟨w.heap.size + 1, 4, none⟩ (.int .i64 0)).setCell ⟨w.heap.size + 1, 5, none⟩ (.int .i64 0)).setCell ⟨w.heap.size + 1, 6, none⟩ (.int .i64 0)).setCell ⟨w.heap.size + 1, 7, none⟩ (.int .i64 0)).setCell ⟨w.heap.size + 1, 8, none⟩ (.int .i64 0)).setCell ⟨w.heap.size + 1, 9, none⟩ (.int .i64 c) := ⟨_, rfl⟩
  have HRV : Hid (V.rowIs (w.heap.size + 1) 31 10 (rowL (poL beN beN Wk.flNil 0 c))) := by show World.rowIs _ _ _ _ _; rw [hV]; exact put10_row HRR.out rfl (.int .i64 0) (.slice none 0 0) (.int .i64 0) (.slice none 0 0) (.int .i64 0) (.int .i64 0) (.int .i64 0) (.int .i64 0) (.int .i64 0) (.int .i64 c)
  have HBV : Hid (Below w.heap.size w V) := by show Below _ _ _; rw [hV]; exact put10_below HB1.out (Nat.le_succ _) (.int .i64 0) (.slice none 0 0) (.int .i64 0) (.slice none 0 0) (.int .i64 0) (.int .i64 0) (.int .i64 0) (.int .i64 0) (.int .i64 0) (.int .i64 c)
  have HV := Lib.hid hV
  clear hV hb
  go_wp2_with fail
  rw [← HV.out]
  clear f0 f1 f2 f3 f4 f5 f6 f7 f8 f9 o0 o1 o2 o3 o4 o5 o6 o7 o8 o9
  refine bodyPost_ret (v := poV beN beN Wk.flNil 0 c) ?_ rfl ⟨rfl, HBV.out⟩
  obtain ⟨⟨a0, a1, a2, a3, a4⟩, a5, a6, a7, a8, a9⟩ := po_cells HRV.out
  simp only [results, Tryd.results25]
  simp [go_sem, a0, a1, a2, a3, a4, a5, a6, a7, a8, a9, Wk.flNil]
/-- What PlantRun answers. -/
abbrev ppV (P : Wk.PO) (ax : Option Addr) (kx : Nat) (ay : Option Addr) (ky : Nat) : Value := .agg #[.int .i64 P.clean.wt, .slice ax P.clean.n kx, .int .i64 P.waste.wt, .slice ay P.waste.n ky, .int .i64 P.fl.held, .int .i64 P.fl.most, .int .i64 P.fl.catch_, .int .i64 P.fl.wash, .int .i64 P.washes, .int .i64 P.c]
abbrev ppL (P : Wk.PO) (ax : Option Addr) (kx : Nat) (ay : Option Addr) (ky : Nat) : List Value := [.int .i64 P.clean.wt, .slice ax P.clean.n kx, .int .i64 P.waste.wt, .slice ay P.waste.n ky, .int .i64 P.fl.held, .int .i64 P.fl.most, .int .i64 P.fl.catch_, .int .i64 P.fl.wash, .int .i64 P.washes, .int .i64 P.c]
def PoEnd (lo : Nat) (P : Wk.PO) (e : Ending) (W : World) : Prop := ∃ ax kx ay ky, e = .returned (ppV P ax kx ay ky) ∧ TwM lo W.heap.size ax P.clean.n kx P.clean.f ay P.waste.n ky P.waste.f W
theorem PoEnd.bad (lo : Nat) (c : Int) (W : World) : PoEnd lo (Wk.badP c) (.returned (poV beN beN Wk.flNil 0 c)) W := ⟨none, 0, none, 0, rfl, ⟨Or.inl ⟨rfl, rfl, rfl⟩, Or.inl ⟨rfl, rfl, rfl⟩, fun g h => by simp [atP] at h⟩⟩
set_option maxRecDepth 100000 in
set_option maxHeartbeats 16000000 in
theorem implPlant_any (f : Wk.Fl) (ma : Option Addr) (m mk : Nat) (mi : Nat → Int) (a : Option Addr) (n cap : Nat) (bs : Nat → Be) (w : World) (hl : BtsAt a n bs w) (hn : n ≤ 4194304) (hbn : ∀ i, i < n → (bs i).n ≤ 4194304) (hmi : IntsAt ma m mi w) (hm : m ≤ 4194304) (hg : Et w ∧ TabOk w) :
    Calls Tryd.prog 10 #[flV f, .slice ma m mk, .slice a n cap] w fun e W => PoEnd w.heap.size (Wk.plant m mi (fun i => (bs i).b) f n) e W ∧ Below w.heap.size w W := by
  obtain ⟨W, hW⟩ : ∃ W, W = (w.alloc (.cells #[.int .i64 f.held, .int .i64 f.most, .int .i64 f.catch_, .int .i64 f.wash] 29)).alloc (.cells #[.int .i64 0, .slice none 0 0, .int .i64 0, .slice none 0 0, .int .i64 0, .int .i64 0, .int .i64 0, .int .i64 0, .int .i64 0, .int .i64 0] 31) := ⟨_, rfl⟩
  have hb : Below w.heap.size w W := by rw [hW]; exact (bel_alloc _ _).alloc (by simp) _
  have hs : W.heap.size = w.heap.size + 2 := by rw [hW]; simp
  have HRO : Hid (W.rowIs (w.heap.size + 1) 31 10 (rowL (poL beN beN Wk.flNil 0 0))) := by
    show World.rowIs _ _ _ _ _
    rw [hW]
    have := rowL_alloc (w.alloc (.cells #[.int .i64 f.held, .int .i64 f.most, .int .i64 f.catch_, .int .i64 f.wash] 29)) (poL beN beN Wk.flNil 0 0) 31
    rwa [World.size_alloc] at this
  have HFI : Hid (W.rowIs w.heap.size 29 4 (rowL (flL f))) := by show World.rowIs _ _ _ _ _; rw [hW]; exact wrow_below (rowL_alloc w (flL f) _) (bel_alloc _ _)
  have HE := Lib.hid (hg.1.below hb)
  have HEW := Lib.hid hg.1
  have HT := Lib.hid hg.2
  have HL := Lib.hid hl
  have HBN := Lib.hid hbn
  have HMI := Lib.hid hmi
  have HW := Lib.hid hW
  have HB := Lib.hid hb
  have HS := Lib.hid hs
  by_cases hbig : 400 < m ∨ 60 < n
  · have HPE : Hid (Wk.plant m mi (fun i => (bs i).b) f n = Wk.badP 2) := Wk.plant_big n hbig
    clear hW hb hs hg hl hbn hmi
    go_enter Tryd.func10, Tryd.ntmps10
    by_cases hmm : 400 < m
    · have hmz : (400 : Int) < (m : Int) := by omega
      go_wp2_with fail
      rw [← HW.out]
      refine (tellP_bad beN beN Wk.flNil 0 0 (errV ⟨#[97, 32, 112, 108, 97, 110, 116]⟩ 2) 2 W (errIs_one _ _) HE.out).mono ?_
      rintro e w1 ⟨rfl, hb⟩
      have HB1 : Hid (Below w.heap.size w w1) := HB.out.trans (hb.mono HB.out.size)
      have HRR := Lib.hid (wrow_below HRO.out hb)
      clear hb
      obtain ⟨⟨f0, f1, f2, f3, f4⟩, f5, f6, f7, f8, f9⟩ := po_res HRR.out
      obtain ⟨⟨o0, o1, o2, o3, o4⟩, o5, o6, o7, o8, o9⟩ := po_cells HRR.out
      have l0 := HRR.out.lt
      obtain ⟨V, hV⟩ : ∃ V, V = ((((((((((w1).setCell ⟨w.heap.size + 1, 0, none⟩ (.int .i64 0)).setCell ⟨w.heap.size + 1, 1, none⟩ (.slice none 0 0)).setCell ⟨w.heap.size + 1, 2, none⟩ (.int .i64 0)).setCell ⟨w.heap.size + 1, 3, none⟩ (.slice none 0 0)).setCell ⟨w.heap.size + 1, 4, none⟩ (.int .i64 Wk.flNil.held)).setCell ⟨w.heap.size + 1, 5, none⟩ (.int .i64 Wk.flNil.most)).setCell ⟨w.heap.size + 1, 6, none⟩ (.int .i64 Wk.flNil.catch_)).setCell ⟨w.heap.size + 1, 7, none⟩ (.int .i64 Wk.flNil.wash)).setCell ⟨w.heap.size + 1, 8, none⟩ (.int .i64 0)).setCell ⟨w.heap.size + 1, 9, none⟩ (.int .i64 2) := ⟨_, rfl⟩
      have HRV : Hid (V.rowIs (w.heap.size + 1) 31 10 (rowL (poL beN beN Wk.flNil 0 2))) := by show World.rowIs _ _ _ _ _; rw [hV]; exact put10_row HRR.out rfl (.int .i64 0) (.slice none 0 0) (.int .i64 0) (.slice none 0 0) (.int .i64 Wk.flNil.held) (.int .i64 Wk.flNil.most) (.int .i64 Wk.flNil.catch_) (.int .i64 Wk.flNil.wash) (.int .i64 0) (.int .i64 2)
      have HFR : Hid (∀ q, q ≠ w.heap.size + 1 → V.heap[q]? = w1.heap[q]?) := fun q hq => by rw [hV]; exact put10_far w1 hq (.int .i64 0) (.slice none 0 0) (.int .i64 0) (.slice none 0 0) (.int .i64 Wk.flNil.held) (.int .i64 Wk.flNil.most) (.int .i64 Wk.flNil.catch_) (.int .i64 Wk.flNil.wash) (.int .i64 0) (.int .i64 2)
      have HBV : Hid (Below w.heap.size w V) := by show Below _ _ _; rw [hV]; exact put10_below HB1.out (Nat.le_succ _) (.int .i64 0) (.slice none 0 0) (.int .i64 0) (.slice none 0 0) (.int .i64 Wk.flNil.held) (.int .i64 Wk.flNil.most) (.int .i64 Wk.flNil.catch_) (.int .i64 Wk.flNil.wash) (.int .i64 0) (.int .i64 2)
      have HV := Lib.hid hV
      clear hV
      go_wp2_with fail
      rw [← HV.out]
      clear f0 f1 f2 f3 f4 f5 f6 f7 f8 f9 o0 o1 o2 o3 o4 o5 o6 o7 o8 o9
      refine bodyPost_ret (v := poV beN beN Wk.flNil 0 2) ?_ rfl ⟨by rw [HPE.out]; exact PoEnd.bad _ _ _, HBV.out⟩
      · obtain ⟨⟨a0, a1, a2, a3, a4⟩, a5, a6, a7, a8, a9⟩ := po_cells HRV.out
        simp only [results, Tryd.results10]
        simp [go_sem, a0, a1, a2, a3, a4, a5, a6, a7, a8, a9]
    · have hmz : ¬ (400 : Int) < (m : Int) := by omega
      have hnz : (60 : Int) < (n : Int) := by omega
      go_wp2_with fail
      rw [← HW.out]
      refine (tellP_bad beN beN Wk.flNil 0 0 (errV ⟨#[97, 32, 112, 108, 97, 110, 116]⟩ 2) 2 W (errIs_one _ _) HE.out).mono ?_
      rintro e w1 ⟨rfl, hb⟩
      have HB1 : Hid (Below w.heap.size w w1) := HB.out.trans (hb.mono HB.out.size)
      have HRR := Lib.hid (wrow_below HRO.out hb)
      clear hb
      obtain ⟨⟨f0, f1, f2, f3, f4⟩, f5, f6, f7, f8, f9⟩ := po_res HRR.out
      obtain ⟨⟨o0, o1, o2, o3, o4⟩, o5, o6, o7, o8, o9⟩ := po_cells HRR.out
      have l0 := HRR.out.lt
      obtain ⟨V, hV⟩ : ∃ V, V = ((((((((((w1).setCell ⟨w.heap.size + 1, 0, none⟩ (.int .i64 0)).setCell ⟨w.heap.size + 1, 1, none⟩ (.slice none 0 0)).setCell ⟨w.heap.size + 1, 2, none⟩ (.int .i64 0)).setCell ⟨w.heap.size + 1, 3, none⟩ (.slice none 0 0)).setCell ⟨w.heap.size + 1, 4, none⟩ (.int .i64 Wk.flNil.held)).setCell ⟨w.heap.size + 1, 5, none⟩ (.int .i64 Wk.flNil.most)).setCell ⟨w.heap.size + 1, 6, none⟩ (.int .i64 Wk.flNil.catch_)).setCell ⟨w.heap.size + 1, 7, none⟩ (.int .i64 Wk.flNil.wash)).setCell ⟨w.heap.size + 1, 8, none⟩ (.int .i64 0)).setCell ⟨w.heap.size + 1, 9, none⟩ (.int .i64 2) := ⟨_, rfl⟩
      have HRV : Hid (V.rowIs (w.heap.size + 1) 31 10 (rowL (poL beN beN Wk.flNil 0 2))) := by show World.rowIs _ _ _ _ _; rw [hV]; exact put10_row HRR.out rfl (.int .i64 0) (.slice none 0 0) (.int .i64 0) (.slice none 0 0) (.int .i64 Wk.flNil.held) (.int .i64 Wk.flNil.most) (.int .i64 Wk.flNil.catch_) (.int .i64 Wk.flNil.wash) (.int .i64 0) (.int .i64 2)
      have HFR : Hid (∀ q, q ≠ w.heap.size + 1 → V.heap[q]? = w1.heap[q]?) := fun q hq => by rw [hV]; exact put10_far w1 hq (.int .i64 0) (.slice none 0 0) (.int .i64 0) (.slice none 0 0) (.int .i64 Wk.flNil.held) (.int .i64 Wk.flNil.most) (.int .i64 Wk.flNil.catch_) (.int .i64 Wk.flNil.wash) (.int .i64 0) (.int .i64 2)
      have HBV : Hid (Below w.heap.size w V) := by show Below _ _ _; rw [hV]; exact put10_below HB1.out (Nat.le_succ _) (.int .i64 0) (.slice none 0 0) (.int .i64 0) (.slice none 0 0) (.int .i64 Wk.flNil.held) (.int .i64 Wk.flNil.most) (.int .i64 Wk.flNil.catch_) (.int .i64 Wk.flNil.wash) (.int .i64 0) (.int .i64 2)
      have HV := Lib.hid hV
      clear hV
      go_wp2_with fail
      rw [← HV.out]
      clear f0 f1 f2 f3 f4 f5 f6 f7 f8 f9 o0 o1 o2 o3 o4 o5 o6 o7 o8 o9
      refine bodyPost_ret (v := poV beN beN Wk.flNil 0 2) ?_ rfl ⟨by rw [HPE.out]; exact PoEnd.bad _ _ _, HBV.out⟩
      · obtain ⟨⟨a0, a1, a2, a3, a4⟩, a5, a6, a7, a8, a9⟩ := po_cells HRV.out
        simp only [results, Tryd.results10]
        simp [go_sem, a0, a1, a2, a3, a4, a5, a6, a7, a8, a9]
  · have hmz : ¬ (400 : Int) < (m : Int) := by omega
    have hnz : ¬ (60 : Int) < (n : Int) := by omega
    obtain ⟨W2, hW2⟩ : ∃ W2, W2 = W.alloc (.cells #[.slice ma m mk, .int .i64 f.held, .int .i64 f.most, .int .i64 f.catch_, .int .i64 f.wash, .slice none 0 0, .slice none 0 0, .int .i64 0] 66) := ⟨_, rfl⟩
    have hb2 : Below W.heap.size W W2 := by rw [hW2]; exact bel_alloc _ _
    have HPR : Hid (W2.rowIs W.heap.size 66 8 (rowL (plL (.slice ma m mk) f (.slice none 0 0) (.slice none 0 0) 0))) := by show World.rowIs _ _ _ _ _; rw [hW2]; exact rowL_alloc W _ _
    have HB2 : Hid (Below w.heap.size w W2) := hb.trans (hb2.mono hb.size)
    have HRO2 := Lib.hid (wrow_below HRO.out hb2)
    have HE2 := Lib.hid (HE.out.below hb2)
    have HW2 := Lib.hid hW2
    obtain ⟨i0, i1, i2, i3⟩ : W.cell? ⟨w.heap.size, 0, none⟩ = some (.int .i64 f.held) ∧ W.cell? ⟨w.heap.size, 1, none⟩ = some (.int .i64 f.most) ∧ W.cell? ⟨w.heap.size, 2, none⟩ = some (.int .i64 f.catch_) ∧ W.cell? ⟨w.heap.size, 3, none⟩ = some (.int .i64 f.wash) := ⟨HFI.out.cell (i := 0) (by omega), HFI.out.cell (i := 1) (by omega), HFI.out.cell (i := 2) (by omega), HFI.out.cell (i := 3) (by omega)⟩
    clear hW hb hs hg hl hbn hmi hb2 hW2 i0 i1 i2 i3
    go_enter Tryd.func10, Tryd.ntmps10
    go_wp2_with fail
    rw [← HW.out, ← HW2.out]
    have hpw : W.heap.size = w.heap.size + 1 + 1 := HS.out
    rw [← hpw]
    refine (runP_any W.heap.size ma m mk mi f a n cap bs w W2 HPR.out HB2.out (by omega) HL.out (by omega) HBN.out HMI.out (by omega) HT.out).mono ?_
    rintro e W3 ⟨hout, hFr⟩
    obtain ⟨P, hP⟩ : ∃ P, P = Wk.plant m mi (fun i => (bs i).b) f n := ⟨_, rfl⟩
    rw [← hP] at hout
    have HPP := Lib.hid hP
    have HRO3 := Lib.hid (HRO2.out.of_block (hFr.block _ HRO2.out.lt (by omega) (by simp [Value.ownBlock]) (by simp [Value.ownBlock])))
    have HB3 : Hid (Below w.heap.size w W3) := HB2.out.trans ⟨hFr.os, hFr.tape, hFr.output, hFr.size, fun q hq => hFr.block q (by have := HB2.out.size; omega) (by omega) (by simp [Value.ownBlock]) (by simp [Value.ownBlock])⟩
    have HE3 : Hid (Et W3) := HEW.out.below HB3.out
    have hs2 : w.heap.size + 2 < W2.heap.size := by have := HPR.out.lt; omega
    have HS2 := Lib.hid hs2
    clear hFr hP hs2
    rcases hout with ⟨hc, x, y, g1, g2, rfl, hx, hy, hpa, hgg, hi1, hi2⟩ | ⟨er, c, hPc, rfl, her⟩
    · have HC := Lib.hid hc
      have HX := Lib.hid hx
      have HY := Lib.hid hy
      have HPA := Lib.hid hpa
      have HGG := Lib.hid hgg
      have HI1 := Lib.hid hi1
      have HI2 := Lib.hid hi2
      clear hc hx hy hpa hgg hi1 hi2
      go_wp2_with fail
      refine (tellP_ok x y P.fl P.washes 0 W3).mono ?_
      rintro e W4 ⟨rfl, hb4⟩
      have HRR := Lib.hid (wrow_below HRO3.out hb4)
      have HB4 : Hid (Below w.heap.size w W4) := HB3.out.trans (hb4.mono HB3.out.size)
      replace HI1 := Lib.hid (HI1.out.below hb4)
      replace HI2 := Lib.hid (HI2.out.below hb4)
      clear hb4
      obtain ⟨⟨f0, f1, f2, f3, f4⟩, f5, f6, f7, f8, f9⟩ := po_res HRR.out
      obtain ⟨⟨o0, o1, o2, o3, o4⟩, o5, o6, o7, o8, o9⟩ := po_cells HRR.out
      have l0 := HRR.out.lt
      obtain ⟨V, hV⟩ : ∃ V, V = ((((((((((W4).setCell ⟨w.heap.size + 1, 0, none⟩ (.int .i64 x.wt)).setCell ⟨w.heap.size + 1, 1, none⟩ (.slice x.pa x.n x.k)).setCell ⟨w.heap.size + 1, 2, none⟩ (.int .i64 y.wt)).setCell ⟨w.heap.size + 1, 3, none⟩ (.slice y.pa y.n y.k)).setCell ⟨w.heap.size + 1, 4, none⟩ (.int .i64 P.fl.held)).setCell ⟨w.heap.size + 1, 5, none⟩ (.int .i64 P.fl.most)).setCell ⟨w.heap.size + 1, 6, none⟩ (.int .i64 P.fl.catch_)).setCell ⟨w.heap.size + 1, 7, none⟩ (.int .i64 P.fl.wash)).setCell ⟨w.heap.size + 1, 8, none⟩ (.int .i64 P.washes)).setCell ⟨w.heap.size + 1, 9, none⟩ (.int .i64 0) := ⟨_, rfl⟩
      have HRV : Hid (V.rowIs (w.heap.size + 1) 31 10 (rowL (poL x y P.fl P.washes 0))) := by show World.rowIs _ _ _ _ _; rw [hV]; exact put10_row HRR.out rfl (.int .i64 x.wt) (.slice x.pa x.n x.k) (.int .i64 y.wt) (.slice y.pa y.n y.k) (.int .i64 P.fl.held) (.int .i64 P.fl.most) (.int .i64 P.fl.catch_) (.int .i64 P.fl.wash) (.int .i64 P.washes) (.int .i64 0)
      have HFR : Hid (∀ q, q ≠ w.heap.size + 1 → V.heap[q]? = W4.heap[q]?) := fun q hq => by rw [hV]; exact put10_far W4 hq (.int .i64 x.wt) (.slice x.pa x.n x.k) (.int .i64 y.wt) (.slice y.pa y.n y.k) (.int .i64 P.fl.held) (.int .i64 P.fl.most) (.int .i64 P.fl.catch_) (.int .i64 P.fl.wash) (.int .i64 P.washes) (.int .i64 0)
      have HBV : Hid (Below w.heap.size w V) := by show Below _ _ _; rw [hV]; exact put10_below HB4.out (Nat.le_succ _) (.int .i64 x.wt) (.slice x.pa x.n x.k) (.int .i64 y.wt) (.slice y.pa y.n y.k) (.int .i64 P.fl.held) (.int .i64 P.fl.most) (.int .i64 P.fl.catch_) (.int .i64 P.fl.wash) (.int .i64 P.washes) (.int .i64 0)
      have HV := Lib.hid hV
      clear hV
      go_wp2_with fail
      rw [← HV.out]
      clear f0 f1 f2 f3 f4 f5 f6 f7 f8 f9 o0 o1 o2 o3 o4 o5 o6 o7 o8 o9
      refine bodyPost_ret (v := poV x y P.fl P.washes 0) ?_ rfl ⟨?_, HBV.out⟩
      · obtain ⟨⟨a0, a1, a2, a3, a4⟩, a5, a6, a7, a8, a9⟩ := po_cells HRV.out
        simp only [results, Tryd.results10]
        simp [go_sem, a0, a1, a2, a3, a4, a5, a6, a7, a8, a9]
      · rw [← HPP.out]
        have hgg := HGG.out
        have hs2 := HS2.out
        have J1 : InBlk g1 P.clean.n P.clean.f V := by rw [← HX.out]; exact HI1.out.block (HFR.out _ (by omega))
        have J2 : InBlk g2 P.waste.n P.waste.f V := by rw [← HY.out]; exact HI2.out.block (HFR.out _ (by omega))
        refine ⟨x.pa, x.k, y.pa, y.k, ?_, ?_⟩
        · show Ending.returned (Value.agg _) = Ending.returned (Value.agg _)
          rw [← HX.out, ← HY.out, HC.out]
          rfl
        · rw [HPA.out.1, HPA.out.2]
          exact ⟨Or.inr ⟨g1, rfl, ⟨by omega, J1.lt⟩, J1⟩, Or.inr ⟨g2, rfl, ⟨by omega, J2.lt⟩, J2⟩, fun g e1 e2 => by unfold atP at e1 e2; simp at e1 e2; omega⟩
    · obtain ⟨ey, rfl, hey⟩ := her
      have HEY := Lib.hid hey
      have HPC := Lib.hid hPc
      clear hey hPc
      go_wp2_with fail
      refine (tellP_bad beN beN Wk.flNil 0 0 (.iface 64 ey) c W3 ⟨ey, rfl, HEY.out⟩ HE3.out).mono ?_
      rintro e W4 ⟨rfl, hb4⟩
      have HRR := Lib.hid (wrow_below HRO3.out hb4)
      have HB4 : Hid (Below w.heap.size w W4) := HB3.out.trans (hb4.mono HB3.out.size)
      clear hb4
      obtain ⟨⟨f0, f1, f2, f3, f4⟩, f5, f6, f7, f8, f9⟩ := po_res HRR.out
      obtain ⟨⟨o0, o1, o2, o3, o4⟩, o5, o6, o7, o8, o9⟩ := po_cells HRR.out
      have l0 := HRR.out.lt
      obtain ⟨V, hV⟩ : ∃ V, V = ((((((((((W4).setCell ⟨w.heap.size + 1, 0, none⟩ (.int .i64 0)).setCell ⟨w.heap.size + 1, 1, none⟩ (.slice none 0 0)).setCell ⟨w.heap.size + 1, 2, none⟩ (.int .i64 0)).setCell ⟨w.heap.size + 1, 3, none⟩ (.slice none 0 0)).setCell ⟨w.heap.size + 1, 4, none⟩ (.int .i64 Wk.flNil.held)).setCell ⟨w.heap.size + 1, 5, none⟩ (.int .i64 Wk.flNil.most)).setCell ⟨w.heap.size + 1, 6, none⟩ (.int .i64 Wk.flNil.catch_)).setCell ⟨w.heap.size + 1, 7, none⟩ (.int .i64 Wk.flNil.wash)).setCell ⟨w.heap.size + 1, 8, none⟩ (.int .i64 0)).setCell ⟨w.heap.size + 1, 9, none⟩ (.int .i64 c) := ⟨_, rfl⟩
      have HRV : Hid (V.rowIs (w.heap.size + 1) 31 10 (rowL (poL beN beN Wk.flNil 0 c))) := by show World.rowIs _ _ _ _ _; rw [hV]; exact put10_row HRR.out rfl (.int .i64 0) (.slice none 0 0) (.int .i64 0) (.slice none 0 0) (.int .i64 Wk.flNil.held) (.int .i64 Wk.flNil.most) (.int .i64 Wk.flNil.catch_) (.int .i64 Wk.flNil.wash) (.int .i64 0) (.int .i64 c)
      have HFR : Hid (∀ q, q ≠ w.heap.size + 1 → V.heap[q]? = W4.heap[q]?) := fun q hq => by rw [hV]; exact put10_far W4 hq (.int .i64 0) (.slice none 0 0) (.int .i64 0) (.slice none 0 0) (.int .i64 Wk.flNil.held) (.int .i64 Wk.flNil.most) (.int .i64 Wk.flNil.catch_) (.int .i64 Wk.flNil.wash) (.int .i64 0) (.int .i64 c)
      have HBV : Hid (Below w.heap.size w V) := by show Below _ _ _; rw [hV]; exact put10_below HB4.out (Nat.le_succ _) (.int .i64 0) (.slice none 0 0) (.int .i64 0) (.slice none 0 0) (.int .i64 Wk.flNil.held) (.int .i64 Wk.flNil.most) (.int .i64 Wk.flNil.catch_) (.int .i64 Wk.flNil.wash) (.int .i64 0) (.int .i64 c)
      have HV := Lib.hid hV
      clear hV
      go_wp2_with fail
      rw [← HV.out]
      clear f0 f1 f2 f3 f4 f5 f6 f7 f8 f9 o0 o1 o2 o3 o4 o5 o6 o7 o8 o9
      refine bodyPost_ret (v := poV beN beN Wk.flNil 0 c) ?_ rfl ⟨by rw [← HPP.out, HPC.out]; exact PoEnd.bad _ _ _, HBV.out⟩
      · obtain ⟨⟨a0, a1, a2, a3, a4⟩, a5, a6, a7, a8, a9⟩ := po_cells HRV.out
        simp only [results, Tryd.results10]
        simp [go_sem, a0, a1, a2, a3, a4, a5, a6, a7, a8, a9]
end Go.Proofs.YtcjeieagpcphjaaDoor
