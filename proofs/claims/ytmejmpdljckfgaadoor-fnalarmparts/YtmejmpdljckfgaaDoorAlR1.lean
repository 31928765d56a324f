/-
  The program's AlarmRun.
-/
import Derived.Test.YtmejmpdljckfgaaDoorAlR0
import Derived.Test.YtmejmpdljckfgaaDoorAlI2
import Derived.Test.YtmejmpdljckfgaaDoorWkErr
namespace Go.Proofs.YtmejmpdljckfgaaDoor
open Go.RowKit Go.Deep

theorem aoinfo : (Tryd.prog.info? 52).map (fun i => (i.zero, i.size, i.bytes)) = some (some (.agg #[.int .i64 0, .int .i64 0]), 2, 16) := by kernel_rfl
set_option maxRecDepth 100000 in
set_option maxHeartbeats 8000000 in
theorem tellAl_ok (X : Al.A) (a : Option Addr) (n c : Nat) (x : Int) (w : World) :
    Calls Tryd.prog 42 #[aoV X a n c x, .nilIface] w fun e w' => e = .returned (aoV X a n c x) ∧ Below w.heap.size w w' := by
  obtain ⟨W, hW⟩ : ∃ W, W = (w.alloc (.cells #[.int .i64 X.hi, .int .i64 X.lo, .int .i64 X.dl, .int .i64 X.st, .int .i64 X.ct, .int .i64 X.sh, .slice a n c, .int .i64 x] 46)).alloc (.cells #[.int .i64 0, .int .i64 0, .int .i64 0, .int .i64 0, .int .i64 0, .int .i64 0, .slice none 0 0, .int .i64 0] 46) := ⟨_, rfl⟩
  have HR : Hid (W.rowIs w.heap.size 46 8 (rowN (aoL X a n c x))) := by show W.rowIs _ _ _ _; rw [hW]; exact nrow_below (rowN_alloc w _ _) (nbel_alloc _ _)
  have HO : Hid (W.rowIs (w.heap.size + 1) 46 8 (rowN (aoL Al.none none 0 0 0))) := by show W.rowIs _ _ _ _; rw [hW]; exact rowN_alloc' (by simp) _ _
  obtain ⟨⟨x0, x1, x2, x3, x4, x5, x6, x7⟩, _⟩ := rowN8 HR.out
  obtain ⟨⟨o0, o1, o2, o3, o4, o5, o6, o7⟩, z0, z1, z2, z3, z4, z5, z6, z7⟩ := rowN8 HO.out
  have hol := HO.out.lt
  rw [hW] at x0 x1 x2 x3 x4 x5 x6 x7 o0 o1 o2 o3 o4 o5 o6 o7 z0 z1 z2 z3 z4 z5 z6 z7 hol
  have HW := Lib.hid hW
  clear hW
  go_enter Tryd.func42, Tryd.ntmps42
  go_wp2_with fail
  exact bodyPost_ret (v := aoV X a n c x) (by simp only [results, Tryd.results42]; simp [go_sem]) rfl ⟨rfl, (nbel_alloc _ _).alloc (by simp) _⟩
set_option maxRecDepth 100000 in
set_option maxHeartbeats 8000000 in
theorem tellAl_bad (X : Al.A) (a : Option Addr) (n c : Nat) (x : Int) (yy : Value) (c' : Int) (w : World) (hy : AsF yy c') (hg : Et w) :
    Calls Tryd.prog 42 #[aoV X a n c x, .iface 83 yy] w fun e w' => e = .returned (aoV Al.none none 0 0 c') ∧ Below w.heap.size w w' := by
  obtain ⟨W, hW⟩ : ∃ W, W = (w.alloc (.cells #[.int .i64 X.hi, .int .i64 X.lo, .int .i64 X.dl, .int .i64 X.st, .int .i64 X.ct, .int .i64 X.sh, .slice a n c, .int .i64 x] 46)).alloc (.cells #[.int .i64 0, .int .i64 0, .int .i64 0, .int .i64 0, .int .i64 0, .int .i64 0, .slice none 0 0, .int .i64 0] 46) := ⟨_, rfl⟩
  have HB : Hid (Below w.heap.size w W) := by show Below _ _ _; rw [hW]; exact (nbel_alloc _ _).alloc (by simp) _
  have HO : Hid (W.rowIs (w.heap.size + 1) 46 8 (rowN (aoL Al.none none 0 0 0))) := by show W.rowIs _ _ _ _; rw [hW]; exact rowN_alloc' (by simp) _ _
  have HW := Lib.hid hW
  have HET := Lib.hid (hg.below HB.out)
  have HY := Lib.hid hy
  clear hW hg hy
  go_enter Tryd.func42, Tryd.ntmps42
  go_wp2_with fail
  rw [← HW.out]
  clear HW
  refine (codeOf_any yy c' HY.out _ HET.out).mono ?_
  rintro e w1 ⟨rfl, hb⟩
  have HO1 := Lib.hid (nrow_below HO.out hb)
  have HB1 : Hid (Below w.heap.size w w1) := HB.out.trans (hb.mono HB.out.size)
  clear hb HO HB
  obtain ⟨⟨o0, o1, o2, o3, o4, o5, o6, o7⟩, z0, z1, z2, z3, z4, z5, z6, z7⟩ := rowN8 HO1.out
  have hol := HO1.out.lt
  obtain ⟨Z, hZ⟩ : ∃ Z, Z = ((((((((w1).setCell ⟨w.heap.size + 1, 0, none⟩ (.int .i64 0)).setCell ⟨w.heap.size + 1, 1, none⟩ (.int .i64 0)).setCell ⟨w.heap.size + 1, 2, none⟩ (.int .i64 0)).setCell ⟨w.heap.size + 1, 3, none⟩ (.int .i64 0)).setCell ⟨w.heap.size + 1, 4, none⟩ (.int .i64 0)).setCell ⟨w.heap.size + 1, 5, none⟩ (.int .i64 0)).setCell ⟨w.heap.size + 1, 6, none⟩ (.slice none 0 0)).setCell ⟨w.heap.size + 1, 7, none⟩ (.int .i64 c') := ⟨_, rfl⟩
  have HZR : Hid (Z.rowIs (w.heap.size + 1) 46 8 (rowN (aoL Al.none none 0 0 c'))) := by show World.rowIs _ _ _ _ _; rw [hZ]; exact al8put HO1.out rfl (.int .i64 0) (.int .i64 0) (.int .i64 0) (.int .i64 0) (.int .i64 0) (.int .i64 0) (.slice none 0 0) (.int .i64 c')
  have HZB : Hid (Below w.heap.size w Z) := by show Below _ _ _; rw [hZ]; exact al8bel (g := w.heap.size + 1) HB1.out (by omega) (.int .i64 0) (.int .i64 0) (.int .i64 0) (.int .i64 0) (.int .i64 0) (.int .i64 0) (.slice none 0 0) (.int .i64 c')
  have HZ := Lib.hid hZ
  clear hZ
  go_wp2_with fail
  rw [← HZ.out]
  obtain ⟨⟨p0, p1, p2, p3, p4, p5, p6, p7⟩, _⟩ := rowN8 HZR.out
  exact bodyPost_ret (v := aoV Al.none none 0 0 c') (by simp only [results, Tryd.results42]; simp [go_sem, p0, p1, p2, p3, p4, p5, p6, p7, Al.none]) rfl ⟨rfl, HZB.out⟩
/-- How a run ends. -/
def RlEnd (B : Nat) (a : Al.A) (n : Nat) (P : Nat → Int) (e : Ending) (W : World) : Prop :=
  (¬ (n ≤ 300 ∧ Al.RunOk a P n) ∧ ∃ y, e = .returned (.tuple #[aoV Al.none none 0 0 0, .iface 83 y]) ∧ AsF y (Al.runC n)) ∨ ((n ≤ 300 ∧ Al.RunOk a P n) ∧ ∃ la c, e = .returned (.tuple #[aoV (Al.run a P n) la (Al.rings a P n).length c 0, .nilIface]) ∧ RgOwn B (Al.rings a P n).length la c (Ln.fl (Al.rings a P n)) W)
set_option maxRecDepth 100000 in
set_option maxHeartbeats 16000000 in
theorem runAl_any (a : Al.A) (la : Option Addr) (n cap : Nat) (P : Nat → Int) (w : World) (h : IsAt la (n * 2) P w) (hn : n ≤ 1048576) :
    Calls Tryd.prog 43 #[alV a, .slice la n cap] w fun e w' => RlEnd w.heap.size a n P e w' ∧ Below w.heap.size w w' := by
  obtain ⟨i0, hi0, hz0, hz1, hz2⟩ := info_parts aoinfo
  obtain ⟨W, hW⟩ : ∃ W, W = (w.alloc (.cells #[.int .i64 a.hi, .int .i64 a.lo, .int .i64 a.dl, .int .i64 a.st, .int .i64 a.ct, .int .i64 a.sh] 40)).alloc (.cells #[.int .i64 0, .int .i64 0, .int .i64 0, .int .i64 0, .int .i64 0, .int .i64 0, .slice none 0 0, .int .i64 0] 46) := ⟨_, rfl⟩
  have HM : Hid (W.rowIs w.heap.size 40 6 (rowN (alL a))) := by show World.rowIs _ _ _ _ _; rw [hW]; exact nrow_below (rowN_alloc w _ _) (nbel_alloc _ _)
  have HO : Hid (W.rowIs (w.heap.size + 1) 46 8 (rowN (aoL Al.none none 0 0 0))) := by show World.rowIs _ _ _ _ _; rw [hW]; exact rowN_alloc' (by simp) _ _
  have HB : Hid (Below w.heap.size w W) := by show Below _ _ _; rw [hW]; exact (nbel_alloc _ _).alloc (by simp) _
  have H := Lib.hid h
  by_cases hbig : (300 : Int) < (n : Int)
  · have HNO : Hid (¬ (n ≤ 300 ∧ Al.RunOk a P n)) := fun h => by have := h.1; omega
    have HC : Hid (Al.runC n = 2) := Al.runC_big (by omega)
    obtain ⟨⟨o0, o1, o2, o3, o4, o5, o6, o7⟩, z0, z1, z2, z3, z4, z5, z6, z7⟩ := rowN8 HO.out
    have hol := HO.out.lt
    rw [hW] at o0 o1 o2 o3 o4 o5 o6 o7 z0 z1 z2 z3 z4 z5 z6 z7 hol
    have HW := Lib.hid hW
    clear hW h
    go_enter Tryd.func43, Tryd.ntmps43
    go_wp2_with fail
    exact bodyPost_ret (v := .tuple #[aoV Al.none none 0 0 0, .iface 83 (.agg #[.string ⟨#[116, 104, 101, 32, 97, 99, 116, 115, 32, 111, 102, 32, 97, 32, 114, 117, 110]⟩, .iface 79 (.agg #[.int .i64 2])])]) (by simp only [results, Tryd.results43]; simp [go_sem, Al.none]) rfl ⟨Or.inl ⟨HNO.out, _, rfl, by rw [HC.out]; exact AsF.one _ _⟩, (nbel_alloc _ _).alloc (by simp) _⟩
  have HW := Lib.hid hW
  have HN3 : Hid (n ≤ 300) := by show n ≤ 300; omega
  have HC : Hid (Al.runC n = 1) := Al.runC_no (by omega)
  clear hW h
  go_enter Tryd.func43, Tryd.ntmps43
  go_wp2_with fail
  rw [← HW.out]
  clear HW
  refine (alarmRight_any a _).mono ?_
  rintro e w1 ⟨rfl, hb⟩
  have HM1 := Lib.hid (nrow_below HM.out hb)
  have HO1 := Lib.hid (nrow_below HO.out hb)
  have HB1 : Hid (Below w.heap.size w w1) := HB.out.trans (hb.mono HB.out.size)
  clear hb HM HO HB
  by_cases c : Al.Right a
  case neg =>
    rw [decide_eq_false c]
    have HNO : Hid (¬ (n ≤ 300 ∧ Al.RunOk a P n)) := fun h => c h.2.1
    clear c
    obtain ⟨⟨o0, o1, o2, o3, o4, o5, o6, o7⟩, z0, z1, z2, z3, z4, z5, z6, z7⟩ := rowN8 HO1.out
    have hol := HO1.out.lt
    obtain ⟨Z, hZ⟩ : ∃ Z, Z = ((((((((w1).setCell ⟨w.heap.size + 1, 0, none⟩ (.int .i64 0)).setCell ⟨w.heap.size + 1, 1, none⟩ (.int .i64 0)).setCell ⟨w.heap.size + 1, 2, none⟩ (.int .i64 0)).setCell ⟨w.heap.size + 1, 3, none⟩ (.int .i64 0)).setCell ⟨w.heap.size + 1, 4, none⟩ (.int .i64 0)).setCell ⟨w.heap.size + 1, 5, none⟩ (.int .i64 0)).setCell ⟨w.heap.size + 1, 6, none⟩ (.slice none 0 0)).setCell ⟨w.heap.size + 1, 7, none⟩ (.int .i64 0) := ⟨_, rfl⟩
    have HZR : Hid (Z.rowIs (w.heap.size + 1) 46 8 (rowN (aoL Al.none none 0 0 0))) := by show World.rowIs _ _ _ _ _; rw [hZ]; exact al8put HO1.out rfl (.int .i64 0) (.int .i64 0) (.int .i64 0) (.int .i64 0) (.int .i64 0) (.int .i64 0) (.slice none 0 0) (.int .i64 0)
    have HZB : Hid (Below w.heap.size w Z) := by show Below _ _ _; rw [hZ]; exact al8bel (g := w.heap.size + 1) HB1.out (by omega) (.int .i64 0) (.int .i64 0) (.int .i64 0) (.int .i64 0) (.int .i64 0) (.int .i64 0) (.slice none 0 0) (.int .i64 0)
    have HZ := Lib.hid hZ
    clear hZ
    go_wp2_with fail
    rw [← HZ.out]
    obtain ⟨⟨p0, p1, p2, p3, p4, p5, p6, p7⟩, _⟩ := rowN8 HZR.out
    exact bodyPost_ret (v := .tuple #[aoV Al.none none 0 0 0, .iface 83 (.agg #[.string ⟨#[97, 110, 32, 97, 108, 97, 114, 109, 32, 97, 110, 100, 32, 105, 116, 115, 32, 97, 99, 116, 115]⟩, .iface 79 (.agg #[.int .i64 1])])]) (by simp only [results, Tryd.results43]; simp [go_sem, p0, p1, p2, p3, p4, p5, p6, p7, Al.none]) rfl ⟨Or.inl ⟨HNO.out, _, rfl, by rw [HC.out]; exact AsF.one _ _⟩, HZB.out⟩
  rw [decide_eq_true c]
  have HRT := Lib.hid c
  clear c
  go_wp2_with fail
  refine (acall_any la n cap P _ (H.out.below HB1.out) hn).mono ?_
  rintro e w2 ⟨rfl, hb⟩
  have HM2 := Lib.hid (nrow_below HM1.out hb)
  have HO2 := Lib.hid (nrow_below HO1.out hb)
  have HB2 : Hid (Below w.heap.size w w2) := HB1.out.trans (hb.mono HB1.out.size)
  clear hb HM1 HO1 HB1
  by_cases c : ∀ i, i < n → Al.ActOk (P (i * 2)) (P (i * 2 + 1))
  case neg =>
    rw [Mt.dB_ff c]
    have HNO : Hid (¬ (n ≤ 300 ∧ Al.RunOk a P n)) := fun h => c h.2.2
    clear c
    obtain ⟨⟨o0, o1, o2, o3, o4, o5, o6, o7⟩, z0, z1, z2, z3, z4, z5, z6, z7⟩ := rowN8 HO2.out
    have hol := HO2.out.lt
    obtain ⟨Z, hZ⟩ : ∃ Z, Z = ((((((((w2).setCell ⟨w.heap.size + 1, 0, none⟩ (.int .i64 0)).setCell ⟨w.heap.size + 1, 1, none⟩ (.int .i64 0)).setCell ⟨w.heap.size + 1, 2, none⟩ (.int .i64 0)).setCell ⟨w.heap.size + 1, 3, none⟩ (.int .i64 0)).setCell ⟨w.heap.size + 1, 4, none⟩ (.int .i64 0)).setCell ⟨w.heap.size + 1, 5, none⟩ (.int .i64 0)).setCell ⟨w.heap.size + 1, 6, none⟩ (.slice none 0 0)).setCell ⟨w.heap.size + 1, 7, none⟩ (.int .i64 0) := ⟨_, rfl⟩
    have HZR : Hid (Z.rowIs (w.heap.size + 1) 46 8 (rowN (aoL Al.none none 0 0 0))) := by show World.rowIs _ _ _ _ _; rw [hZ]; exact al8put HO2.out rfl (.int .i64 0) (.int .i64 0) (.int .i64 0) (.int .i64 0) (.int .i64 0) (.int .i64 0) (.slice none 0 0) (.int .i64 0)
    have HZB : Hid (Below w.heap.size w Z) := by show Below _ _ _; rw [hZ]; exact al8bel (g := w.heap.size + 1) HB2.out (by omega) (.int .i64 0) (.int .i64 0) (.int .i64 0) (.int .i64 0) (.int .i64 0) (.int .i64 0) (.slice none 0 0) (.int .i64 0)
    have HZ := Lib.hid hZ
    clear hZ
    go_wp2_with fail
    rw [← HZ.out]
    obtain ⟨⟨p0, p1, p2, p3, p4, p5, p6, p7⟩, _⟩ := rowN8 HZR.out
    exact bodyPost_ret (v := .tuple #[aoV Al.none none 0 0 0, .iface 83 (.agg #[.string ⟨#[97, 110, 32, 97, 108, 97, 114, 109, 32, 97, 110, 100, 32, 105, 116, 115, 32, 97, 99, 116, 115]⟩, .iface 79 (.agg #[.int .i64 1])])]) (by simp only [results, Tryd.results43]; simp [go_sem, p0, p1, p2, p3, p4, p5, p6, p7, Al.none]) rfl ⟨Or.inl ⟨HNO.out, _, rfl, by rw [HC.out]; exact AsF.one _ _⟩, HZB.out⟩
  rw [Mt.dB_tt c]
  have HOK : Hid (n ≤ 300 ∧ Al.RunOk a P n) := ⟨HN3.out, HRT.out, c⟩
  clear c
  obtain ⟨⟨m0, m1, m2, m3, m4, m5⟩, _⟩ := rowN6 HM2.out
  obtain ⟨b6, hb6⟩ : ∃ b, b = w2.heap.size := ⟨_, rfl⟩
  obtain ⟨W1, hW1⟩ : ∃ W1, W1 = w2.alloc (.cells #[.int .i64 a.hi, .int .i64 a.lo, .int .i64 a.dl, .int .i64 a.st, .int .i64 a.ct, .int .i64 a.sh, .slice none 0 0, .int .i64 0] 46) := ⟨_, rfl⟩
  have HS0 : Hid (RaS w (Al.run a P 0) (.slice none 0 0) (Al.rings a P 0) (w.heap.size + 1) b6 W1) := by
    show RaS _ _ _ _ _ _ _
    rw [hW1, hb6]
    exact ⟨nrow_below HO2.out (nbel_alloc _ _), rowN_alloc w2 [.int .i64 a.hi, .int .i64 a.lo, .int .i64 a.dl, .int .i64 a.st, .int .i64 a.ct, .int .i64 a.sh, .slice none 0 0, .int .i64 0] _, World.ownsRow_nil _ _ _ _, ⟨by omega, HO2.out.lt⟩, HB2.out.alloc HB2.out.size _⟩
  have HWE := Lib.hid hW1
  have HBE := Lib.hid hb6
  clear hW1 hb6
  go_wp2_with fail
  rw [← HWE.out, ← HBE.out]
  clear HWE HBE HM2 HO2 HB2 m0 m1 m2 m3 m4 m5
  go_loopw [7, 8, 9, 35] (fun _ _ _ iv wr => ∃ (i : Nat) (v : Value), i ≤ n ∧ iv = .int .i64 i ∧ Hid (RaS w (Al.run a P i) v (Al.rings a P i) (w.heap.size + 1) b6 wr)) (fun _ _ _ iv _ => n - (intOf iv).toNat)
  case atStart => exact ⟨0, _, Nat.zero_le _, rfl, HS0⟩
  case round =>
    obtain ⟨i, v, hi, rfl, hS⟩ := hrel
    clear HS0
    obtain ⟨X, hX⟩ : ∃ X, X = Al.run a P i := ⟨_, rfl⟩
    obtain ⟨l, hl⟩ : ∃ l, l = Al.rings a P i := ⟨_, rfl⟩
    rw [← hX, ← hl] at hS
    obtain ⟨la2, c2, rfl, _⟩ := own_ns hS.out.l
    have HX := Lib.hid hX
    have HL := Lib.hid hl
    clear hX hl
    by_cases hlt : i < n
    · have hltz : (i : Int) < (n : Int) := by omega
      obtain ⟨b, e, k0, k1⟩ := (H.out.below hS.out.old).at2 hlt
      subst e
      obtain ⟨k, hk⟩ : ∃ x, x = P (i * 2) := ⟨_, rfl⟩
      obtain ⟨v, hv⟩ : ∃ x, x = P (i * 2 + 1) := ⟨_, rfl⟩
      rw [← hk] at k0
      rw [← hv] at k1
      have HK := Lib.hid hk
      have HV := Lib.hid hv
      have zb : b < wr.heap.size := World.block_lt_of_cell? _ _ k0
      have HA : Hid (Al.ActOk k v) := by show Al.ActOk k v; rw [hk, hv]; exact HOK.out.2.2 i hlt
      have HR : Hid (Al.Right X) := by show Al.Right X; rw [HX.out]; exact Al.run_right HRT.out P i
      have HM : Hid (Al.run a P (i + 1) = Al.meet X k v) := by show Al.run a P (i + 1) = _; rw [HX.out, HK.out, HV.out]; rfl
      clear hk hv
      obtain ⟨W2, hW2⟩ : ∃ W2, W2 = wr.alloc (.cells #[.int .i64 k, .int .i64 v] 50) := ⟨_, rfl⟩
      have HS2 : Hid (RaS w X (.slice la2 l.length c2) l (w.heap.size + 1) b6 W2) := by show RaS _ _ _ _ _ _ _; rw [hW2]; exact hS.out.below (nbel_alloc _ _)
      obtain ⟨N, hN⟩ : ∃ N, N = l.length := ⟨_, rfl⟩
      have HNL := Lib.hid hN
      rw [← hN] at HS2
      have hr3 := hS.out.r.cell (i := 3) (by omega)
      have hr3' : wr.cell? ⟨b6, 3, none⟩ = some (.int .i64 X.st) := hr3
      have hrl := hS.out.r.lt
      have HWE := Lib.hid hW2
      have HLN : Hid (l.length ≤ 300) := by show l.length ≤ 300; rw [HL.out]; exact Nat.le_trans (Al.rings_len a P i) (by omega)
      clear hW2 hS hr3 hN
      go_wp2_with fail
      rw [← HWE.out]
      clear HWE k0 k1 zb hr3' hrl
      refine (ameet_any 46 b6 8 0 _ X k v _ ⟨HS2.out.r, by omega, rfl, rfl, rfl, rfl, rfl, rfl⟩ HR.out HA.out.1).mono ?_
      rintro e w3 ⟨rfl, hE⟩
      obtain ⟨Y, hY⟩ : ∃ Y, Y = Al.meet X k v := ⟨_, rfl⟩
      rw [← hY] at hE HM
      have HS3 : Hid (RaS w Y (.slice la2 N c2) l (w.heap.size + 1) b6 w3) := by
        obtain ⟨F', q, q2, q3⟩ := hE
        refine HS2.out.meet ?_ q3
        obtain ⟨cs, e1, e2, e3⟩ := q.r
        refine ⟨cs, e1, e2, fun j hj => ?_⟩
        rw [e3 j hj]
        have : j = 0 ∨ j = 1 ∨ j = 2 ∨ j = 3 ∨ j = 4 ∨ j = 5 ∨ j = 6 ∨ j = 7 := by omega
        rcases this with rfl | rfl | rfl | rfl | rfl | rfl | rfl | rfl
        · exact congrArg some q.c0
        · exact congrArg some q.c1
        · exact congrArg some q.c2
        · exact congrArg some q.c3
        · exact congrArg some q.c4
        · exact congrArg some q.c5
        · exact congrArg some (q2 6 (by omega))
        · exact congrArg some (q2 7 (by omega))
      clear hE hY HS2
      obtain ⟨⟨r0, r1, r2, r3, r4, r5, r6, r7⟩, f0, f1, f2, f3, f4, f5, f6, f7⟩ := rowN8 HS3.out.r
      have hrl := HS3.out.r.lt
      by_cases cs : Y.st = X.st
      · have hst : (Y.st != X.st) = false := by simp [cs]
        have HRG : Hid (Al.rings a P (i + 1) = l) := by
          show Al.rings a P (i + 1) = l
          rw [HL.out]
          refine Al.rings_same ?_
          show (Al.run a P (i + 1)).st = _
          rw [HM.out, ← HX.out]
          exact cs
        clear cs
        go_wp2_with fail
        go_roundw
        case rel => exact ⟨i + 1, _, by omega, by go_num, by rw [HM.out, HRG.out]; exact HS3⟩
        case measure => simp [intOf]; omega
      · have hst : (Y.st != X.st) = true := by simp [cs]
        have HRG : Hid (Al.rings a P (i + 1) = l ++ [((i : Int), Y.st)]) := by
          show Al.rings a P (i + 1) = _
          have e : Y.st = (Al.run a P (i + 1)).st := by rw [HM.out]
          rw [HL.out, e]
          refine Al.rings_more ?_
          show ¬ (Al.run a P (i + 1)).st = _
          rw [HM.out, ← HX.out]
          exact cs
        clear cs
        have HRW := Lib.hid (HS3.out.below (nbel_alloc w3 (.cells #[.int .i64 (i : Int), .int .i64 Y.st] 52)))
        have HM1 := Lib.hid (one_in w3 52 (i : Int) Y.st)
        go_wp2_with (at_builtin; refine wpList_append_ns (l := l) (m := [((i : Int), Y.st)]) rfl _ _ 44 rfl 52 i0 (.agg #[.int .i64 0, .int .i64 0]) 16 Tryd.underlying44 hi0 hz0 hz1 hz2 rfl w.heap.size _ rfl HRW.out.l (some ⟨w3.heap.size, 0, none⟩) 1 rfl HM1.out (by have := HLN.out; unfold maxLen; simp; omega) (by have := HLN.out; simp; omega) HRW.out.old.size ?_)
        intro v' y3 hown hgrow
        have hown2 : y3.ownsRow w.heap.size 52 2 v' (l ++ [((i : Int), Y.st)]).length (nvs (l ++ [((i : Int), Y.st)])) := by simpa using hown
        obtain ⟨hp, hq⟩ := HRW.out.push hown2 hgrow
        obtain ⟨a', c', e', _⟩ := own_ns hp.l
        obtain ⟨M, hM⟩ : ∃ M, M = (l ++ [((i : Int), Y.st)]).length := ⟨_, rfl⟩
        rw [← hM] at e'
        subst e'
        have HP2 := Lib.hid hp
        have HMM := Lib.hid hM
        clear hM
        clear r0 r1 r2 r3 r4 r5 r6 r7 f0 f1 f2 f3 f4 f5 f6 f7 hrl
        obtain ⟨⟨s0, s1, s2, s3, s4, s5, s6, s7⟩, g0, g1, g2, g3, g4, g5, g6, g7⟩ := rowN8 hq
        have hql := hq.lt
        clear hp hq hown hown2 hgrow HS3 HRW HM1
        go_wp2_with fail
        go_roundw
        case rel => exact ⟨i + 1, _, by omega, by go_num, by rw [HM.out, HRG.out]; exact HP2⟩
        case measure => simp [intOf]; omega
    · obtain rfl : i = n := by omega
      have hown := own_rg hS.out.l
      obtain ⟨N, hN⟩ : ∃ N, N = l.length := ⟨_, rfl⟩
      rw [← hN] at hS hown
      have HNL := Lib.hid hN
      obtain ⟨⟨o0, o1, o2, o3, o4, o5, o6, o7⟩, z0, z1, z2, z3, z4, z5, z6, z7⟩ := rowN8 hS.out.o
      obtain ⟨⟨r0, r1, r2, r3, r4, r5, r6, r7⟩, _⟩ := rowN8 hS.out.r
      obtain ⟨Z, hZ⟩ : ∃ Z, Z = ((((((((wr).setCell ⟨w.heap.size + 1, 0, none⟩ (.int .i64 X.hi)).setCell ⟨w.heap.size + 1, 1, none⟩ (.int .i64 X.lo)).setCell ⟨w.heap.size + 1, 2, none⟩ (.int .i64 X.dl)).setCell ⟨w.heap.size + 1, 3, none⟩ (.int .i64 X.st)).setCell ⟨w.heap.size + 1, 4, none⟩ (.int .i64 X.ct)).setCell ⟨w.heap.size + 1, 5, none⟩ (.int .i64 X.sh)).setCell ⟨w.heap.size + 1, 6, none⟩ (.slice la2 N c2)).setCell ⟨w.heap.size + 1, 7, none⟩ (.int .i64 0) := ⟨_, rfl⟩
      have HZR : Hid (Z.rowIs (w.heap.size + 1) 46 8 (rowN (aoL X la2 N c2 0))) := by show World.rowIs _ _ _ _ _; rw [hZ]; exact al8put hS.out.o rfl (.int .i64 X.hi) (.int .i64 X.lo) (.int .i64 X.dl) (.int .i64 X.st) (.int .i64 X.ct) (.int .i64 X.sh) (.slice la2 N c2) (.int .i64 0)
      have HZB : Hid (Below w.heap.size w Z) := by show Below _ _ _; rw [hZ]; exact al8bel (g := w.heap.size + 1) hS.out.old (by omega) (.int .i64 X.hi) (.int .i64 X.lo) (.int .i64 X.dl) (.int .i64 X.st) (.int .i64 X.ct) (.int .i64 X.sh) (.slice la2 N c2) (.int .i64 0)
      have HZG : Hid (RgOwn w.heap.size N la2 c2 (Ln.fl l) Z) := by
        show RgOwn _ _ _ _ _ _
        rw [hZ]
        exact hown.1.same (fun k e _ => al8blk (hown.1.ne hS.out.o e) (.int .i64 X.hi) (.int .i64 X.lo) (.int .i64 X.dl) (.int .i64 X.st) (.int .i64 X.ct) (.int .i64 X.sh) (.slice la2 N c2) (.int .i64 0))
      have HZ := Lib.hid hZ
      clear hZ hS hown hN
      go_wp2_with fail
      rw [← HZ.out]
      obtain ⟨⟨p0, p1, p2, p3, p4, p5, p6, p7⟩, _⟩ := rowN8 HZR.out
      exact bodyPost_ret (v := .tuple #[aoV X la2 N c2 0, .nilIface]) (by simp only [results, Tryd.results43]; simp [go_sem, p0, p1, p2, p3, p4, p5, p6, p7]) rfl ⟨Or.inr ⟨HOK.out, la2, c2, by rw [← HX.out, ← HL.out, ← HNL.out], by rw [← HL.out, ← HNL.out]; exact HZG.out⟩, HZB.out⟩
set_option maxRecDepth 100000 in
set_option maxHeartbeats 8000000 in
theorem implARun_any (a : Al.A) (la : Option Addr) (n cap : Nat) (P : Nat → Int) (w : World) (h : IsAt la (n * 2) P w) (hn : n ≤ 1048576) (hg : Et w) :
    Calls Tryd.prog 13 #[alV a, .slice la n cap] w fun e w' => AoEnd w.heap.size (n ≤ 300 ∧ Al.RunOk a P n) (Al.runC n) (Al.run a P n) (Al.rings a P n).length (Ln.fl (Al.rings a P n)) e w' ∧ Below w.heap.size w w' := by
  obtain ⟨W, hW⟩ : ∃ W, W = (w.alloc (.cells #[.int .i64 a.hi, .int .i64 a.lo, .int .i64 a.dl, .int .i64 a.st, .int .i64 a.ct, .int .i64 a.sh] 40)).alloc (.cells #[.int .i64 0, .int .i64 0, .int .i64 0, .int .i64 0, .int .i64 0, .int .i64 0, .slice none 0 0, .int .i64 0] 46) := ⟨_, rfl⟩
  have HO : Hid (W.rowIs (w.heap.size + 1) 46 8 (rowN (aoL Al.none none 0 0 0))) := by show World.rowIs _ _ _ _ _; rw [hW]; exact rowN_alloc' (by simp) _ _
  have HB : Hid (Below w.heap.size w W) := by show Below _ _ _; rw [hW]; exact (nbel_alloc _ _).alloc (by simp) _
  have HW := Lib.hid hW
  have H := Lib.hid (h.below HB.out)
  have HE := Lib.hid (hg.below HB.out)
  have HS1 : Hid (w.heap.size ≤ W.heap.size) := HB.out.size
  clear hW h hg
  go_enter Tryd.func13, Tryd.ntmps13
  go_wp2_with fail
  rw [← HW.out]
  clear HW
  refine (runAl_any a la n cap P _ H.out hn).mono ?_
  rintro e w1 ⟨he, hb⟩
  have HO1 := Lib.hid (nrow_below HO.out hb)
  have HB1 : Hid (Below w.heap.size w w1) := HB.out.trans (hb.mono HB.out.size)
  have HE1 := Lib.hid (HE.out.below hb)
  clear hb HO HB HE
  rcases he with ⟨hk, y, rfl, hy⟩ | ⟨hk, a2, c, rfl, hown⟩
  · have HK := Lib.hid hk
    have HY := Lib.hid hy
    obtain ⟨x, hx⟩ : ∃ x, x = Al.runC n := ⟨_, rfl⟩
    rw [← hx] at HY
    have HX := Lib.hid hx
    clear hk hy hx
    go_wp2_with fail
    refine (tellAl_bad Al.none none 0 0 0 y x _ HY.out HE1.out).mono ?_
    rintro e w2 ⟨rfl, hb⟩
    have HO2 := Lib.hid (nrow_below HO1.out hb)
    have HB2 : Hid (Below w.heap.size w w2) := HB1.out.trans (hb.mono HB1.out.size)
    clear hb HO1 HB1
    obtain ⟨⟨o0, o1, o2, o3, o4, o5, o6, o7⟩, z0, z1, z2, z3, z4, z5, z6, z7⟩ := rowN8 HO2.out
    obtain ⟨Z, hZ⟩ : ∃ Z, Z = ((((((((w2).setCell ⟨w.heap.size + 1, 0, none⟩ (.int .i64 Al.none.hi)).setCell ⟨w.heap.size + 1, 1, none⟩ (.int .i64 Al.none.lo)).setCell ⟨w.heap.size + 1, 2, none⟩ (.int .i64 Al.none.dl)).setCell ⟨w.heap.size + 1, 3, none⟩ (.int .i64 Al.none.st)).setCell ⟨w.heap.size + 1, 4, none⟩ (.int .i64 Al.none.ct)).setCell ⟨w.heap.size + 1, 5, none⟩ (.int .i64 Al.none.sh)).setCell ⟨w.heap.size + 1, 6, none⟩ (.slice none 0 0)).setCell ⟨w.heap.size + 1, 7, none⟩ (.int .i64 x) := ⟨_, rfl⟩
    have HZR : Hid (Z.rowIs (w.heap.size + 1) 46 8 (rowN (aoL Al.none none 0 0 x))) := by show World.rowIs _ _ _ _ _; rw [hZ]; exact al8put HO2.out rfl (.int .i64 Al.none.hi) (.int .i64 Al.none.lo) (.int .i64 Al.none.dl) (.int .i64 Al.none.st) (.int .i64 Al.none.ct) (.int .i64 Al.none.sh) (.slice none 0 0) (.int .i64 x)
    have HZB : Hid (Below w.heap.size w Z) := by show Below _ _ _; rw [hZ]; exact al8bel (g := w.heap.size + 1) HB2.out (by omega) (.int .i64 Al.none.hi) (.int .i64 Al.none.lo) (.int .i64 Al.none.dl) (.int .i64 Al.none.st) (.int .i64 Al.none.ct) (.int .i64 Al.none.sh) (.slice none 0 0) (.int .i64 x)
    have HZ := Lib.hid hZ
    clear hZ
    go_wp2_with fail
    rw [← HZ.out]
    obtain ⟨⟨p0, p1, p2, p3, p4, p5, p6, p7⟩, _⟩ := rowN8 HZR.out
    exact bodyPost_ret (v := aoV Al.none none 0 0 x) (by simp only [results, Tryd.results13]; simp [go_sem, p0, p1, p2, p3, p4, p5, p6, p7]) rfl ⟨Or.inl ⟨HK.out, by rw [HX.out]⟩, HZB.out⟩
  · have HK := Lib.hid hk
    have HOW := Lib.hid (hown.low HS1.out)
    obtain ⟨X, hX⟩ : ∃ X, X = Al.run a P n := ⟨_, rfl⟩
    obtain ⟨N, hN⟩ : ∃ N, N = (Al.rings a P n).length := ⟨_, rfl⟩
    rw [← hX, ← hN]
    rw [← hN] at HOW
    have HX := Lib.hid hX
    have HNN := Lib.hid hN
    clear hk hown hX hN
    go_wp2_with fail
    refine (tellAl_ok X a2 N c 0 _).mono ?_
    rintro e w2 ⟨rfl, hb⟩
    have HO2 := Lib.hid (nrow_below HO1.out hb)
    have HB2 : Hid (Below w.heap.size w w2) := HB1.out.trans (hb.mono HB1.out.size)
    have HG2 := Lib.hid (HOW.out.below hb)
    clear hb HO1 HB1 HOW
    obtain ⟨⟨o0, o1, o2, o3, o4, o5, o6, o7⟩, z0, z1, z2, z3, z4, z5, z6, z7⟩ := rowN8 HO2.out
    obtain ⟨Z, hZ⟩ : ∃ Z, Z = ((((((((w2).setCell ⟨w.heap.size + 1, 0, none⟩ (.int .i64 X.hi)).setCell ⟨w.heap.size + 1, 1, none⟩ (.int .i64 X.lo)).setCell ⟨w.heap.size + 1, 2, none⟩ (.int .i64 X.dl)).setCell ⟨w.heap.size + 1, 3, none⟩ (.int .i64 X.st)).setCell ⟨w.heap.size + 1, 4, none⟩ (.int .i64 X.ct)).setCell ⟨w.heap.size + 1, 5, none⟩ (.int .i64 X.sh)).setCell ⟨w.heap.size + 1, 6, none⟩ (.slice a2 N c)).setCell ⟨w.heap.size + 1, 7, none⟩ (.int .i64 0) := ⟨_, rfl⟩
    have HZR : Hid (Z.rowIs (w.heap.size + 1) 46 8 (rowN (aoL X a2 N c 0))) := by show World.rowIs _ _ _ _ _; rw [hZ]; exact al8put HO2.out rfl (.int .i64 X.hi) (.int .i64 X.lo) (.int .i64 X.dl) (.int .i64 X.st) (.int .i64 X.ct) (.int .i64 X.sh) (.slice a2 N c) (.int .i64 0)
    have HZB : Hid (Below w.heap.size w Z) := by show Below _ _ _; rw [hZ]; exact al8bel (g := w.heap.size + 1) HB2.out (by omega) (.int .i64 X.hi) (.int .i64 X.lo) (.int .i64 X.dl) (.int .i64 X.st) (.int .i64 X.ct) (.int .i64 X.sh) (.slice a2 N c) (.int .i64 0)
    have HZG : Hid (RgOwn w.heap.size N a2 c (Ln.fl (Al.rings a P n)) Z) := by
      show RgOwn _ _ _ _ _ _
      rw [hZ]
      exact HG2.out.same (fun k e _ => al8blk (HG2.out.ne HO2.out e) (.int .i64 X.hi) (.int .i64 X.lo) (.int .i64 X.dl) (.int .i64 X.st) (.int .i64 X.ct) (.int .i64 X.sh) (.slice a2 N c) (.int .i64 0))
    have HZ := Lib.hid hZ
    clear hZ
    go_wp2_with fail
    rw [← HZ.out]
    obtain ⟨⟨p0, p1, p2, p3, p4, p5, p6, p7⟩, _⟩ := rowN8 HZR.out
    exact bodyPost_ret (v := aoV X a2 N c 0) (by simp only [results, Tryd.results13]; simp [go_sem, p0, p1, p2, p3, p4, p5, p6, p7]) rfl ⟨Or.inr ⟨HK.out, a2, c, by rw [HX.out, HNN.out], by rw [← HNN.out]; exact HZG.out⟩, HZB.out⟩
end Go.Proofs.YtmejmpdljckfgaaDoor
