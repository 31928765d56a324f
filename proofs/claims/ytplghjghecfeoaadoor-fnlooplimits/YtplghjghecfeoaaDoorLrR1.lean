/-
  The program's run of a loop.
-/
import Derived.Test.YtplghjghecfeoaaDoorLrI2
import Derived.Test.YtplghjghecfeoaaDoorLrMem
import Derived.Test.YtplghjghecfeoaaDoorLrTab
import Derived.Test.YtplghjghecfeoaaDoorWkErr
namespace Go.Proofs.YtplghjghecfeoaaDoor
open Go.RowKit Go.Deep

attribute [local go_sem] lrun_store_float lrun_store_complex
theorem lbelow_set3 {w W : World} {g : Nat} (h : Below w.heap.size w W) (hg : w.heap.size ≤ g) (x y z : Value) : Below w.heap.size w (((W.setCell ⟨g, 0, none⟩ x).setCell ⟨g, 1, none⟩ y).setCell ⟨g, 2, none⟩ z) := ((h.setCell (p := ⟨g, 0, none⟩) hg x).setCell (p := ⟨g, 1, none⟩) hg y).setCell (p := ⟨g, 2, none⟩) hg z
/-- What a run tells, cycle by cycle. -/
def Fl.vals (l : Fl.Lo) (start : Nat) (f : Nat → Nat) (i : Nat) : Nat := (Fl.st l start f (i + 1)).v
def Fl.drvs (l : Fl.Lo) (start : Nat) (f : Nat → Nat) (i : Nat) : Nat := (Fl.st l start f (i + 1)).d
/-- How a run ends. -/
def RunEnd (lo : Nat) (l : Fl.Lo) (start n : Nat) (f : Nat → Nat) (e : Ending) (W : World) : Prop :=
  (Fl.loopOk l start n f = false → ∃ er, e = .returned (.tuple #[.agg #[nilS, nilS, .int .i64 0], er]) ∧ ErrIs er 1) ∧
  (Fl.loopOk l start n f = true → Fl.okTo l start f n = false → ∃ er, e = .returned (.tuple #[.agg #[nilS, nilS, .int .i64 0], er]) ∧ ErrIs er 5) ∧
  (Fl.loopOk l start n f = true → Fl.okTo l start f n = true → ∃ v1 v2, e = .returned (.tuple #[.agg #[v1, v2, .int .i64 0], .nilIface]) ∧ Two lo v1 n (Fl.vals l start f) v2 n (Fl.drvs l start f) W)
theorem runEnd_form {lo : Nat} {l : Fl.Lo} {start n : Nat} {f : Nat → Nat} {e : Ending} {W : World} (h : Fl.loopOk l start n f = false) (he : ∃ er, e = .returned (.tuple #[.agg #[nilS, nilS, .int .i64 0], er]) ∧ ErrIs er 1) : RunEnd lo l start n f e W :=
  ⟨fun _ => he, (fun h2 => by rw [h] at h2; cases h2), (fun h2 => by rw [h] at h2; cases h2)⟩
theorem runEnd_over {lo : Nat} {l : Fl.Lo} {start n : Nat} {f : Nat → Nat} {e : Ending} {W : World} (h : Fl.loopOk l start n f = true) (h2 : Fl.okTo l start f n = false) (he : ∃ er, e = .returned (.tuple #[.agg #[nilS, nilS, .int .i64 0], er]) ∧ ErrIs er 5) : RunEnd lo l start n f e W :=
  ⟨(fun h3 => by rw [h] at h3; cases h3), fun _ _ => he, (fun _ h3 => by rw [h2] at h3; cases h3)⟩
theorem runEnd_ok {lo : Nat} {l : Fl.Lo} {start n : Nat} {f : Nat → Nat} {e : Ending} {W : World} (h : Fl.loopOk l start n f = true) (h2 : Fl.okTo l start f n = true) (he : ∃ v1 v2, e = .returned (.tuple #[.agg #[v1, v2, .int .i64 0], .nilIface]) ∧ Two lo v1 n (Fl.vals l start f) v2 n (Fl.drvs l start f) W) : RunEnd lo l start n f e W :=
  ⟨(fun h3 => by rw [h] at h3; cases h3), (fun _ h3 => by rw [h2] at h3; cases h3), fun _ _ => he⟩
theorem Two.lower {B B' : Nat} {v1 : Value} {n1 : Nat} {f1 : Nat → Nat} {v2 : Value} {n2 : Nat} {f2 : Nat → Nat} {W : World} (h : Two B v1 n1 f1 v2 n2 f2 W) (hb : B' ≤ B) : Two B' v1 n1 f1 v2 n2 f2 W := by
  have low : ∀ {v : Value} {n : Nat} {f : Nat → Nat}, OwnF B v n f W → OwnF B' v n f W := fun h => by
    refine ⟨h.1, ?_⟩
    rcases h.2 with h2 | ⟨g, cap, cur, e1, e2, e3⟩
    · exact Or.inl h2
    · exact Or.inr ⟨g, cap, cur, e1, by omega, e3⟩
  exact ⟨low h.one, low h.two, h.ne⟩
/-- .. and the loop's box and its state. -/
structure RunI (w : World) (l : Fl.Lo) (b8 b9 : Nat) (x : Fl.Ls) (c1 c2 v1 : Value) (n1 : Nat) (f1 : Nat → Nat) (v2 : Value) (n2 : Nat) (f2 : Nat → Nat) (W : World) : Prop where
  base : RnB w b9 c1 c2 v1 n1 f1 v2 n2 f2 W
  box : W.rowIs w.heap.size 25 6 (rowL (loL l))
  sta : W.rowIs b8 67 3 (rowL (lsL x))
  lt : w.heap.size + 1 < b8 ∧ b8 < b9
section
variable {w : World} {l : Fl.Lo} {b8 b9 : Nat} {x : Fl.Ls} {c1 c2 v1 : Value} {n1 : Nat} {f1 : Nat → Nat} {v2 : Value} {n2 : Nat} {f2 : Nat → Nat} {W : World}
theorem RunI.below {W' : World} (h : RunI w l b8 b9 x c1 c2 v1 n1 f1 v2 n2 f2 W) (hb : Below W.heap.size W W') : RunI w l b8 b9 x c1 c2 v1 n1 f1 v2 n2 f2 W' := ⟨h.base.below hb, wrow_below h.box hb, wrow_below h.sta hb, h.lt⟩
theorem RunI.setS (h : RunI w l b8 b9 x c1 c2 v1 n1 f1 v2 n2 f2 W) (y : Fl.Ls) : RunI w l b8 b9 y c1 c2 v1 n1 f1 v2 n2 f2 (((W.setCell ⟨b8, 0, none⟩ (.float .f64 y.v)).setCell ⟨b8, 1, none⟩ (.float .f64 y.s)).setCell ⟨b8, 2, none⟩ (.float .f64 y.d)) := by
  obtain ⟨h1, h2⟩ := h.lt
  refine ⟨((h.base.put h1 h2 _).put h1 h2 _).put h1 h2 _, ?_, rowL_set (rowL_set (rowL_set h.sta 0 (.float .f64 y.v) (by simp)) 1 (.float .f64 y.s) (by simp)) 2 (.float .f64 y.d) (by simp), h.lt⟩
  have hne : w.heap.size ≠ b8 := by omega
  exact ((h.box.setOther (a := ⟨b8, 0, none⟩) hne _).setOther (a := ⟨b8, 1, none⟩) hne _).setOther (a := ⟨b8, 2, none⟩) hne _
theorem RunI.push1 {W' : World} {v' : Value} {o : Obj} (h : RunI w l b8 b9 x c1 c2 v1 n1 f1 v2 n2 f2 W) (hown : W'.ownsRow (b9 + 1) 23 1 v' (n1 + 1) (lst f1 n1 ++ [.float .f64 (f1 n1)])) (hg : (W.alloc o).grownBy W' v1.ownBlock) (hat : v'.ownBlock = v1.ownBlock ∨ v'.ownBlock = some (W.alloc o).heap.size) : RunI w l b8 b9 x c1 c2 v' (n1 + 1) f1 v2 n2 f2 W' :=
  ⟨h.base.push1 hown hg hat, h.base.far (Or.inl rfl) hg h.box (by have := h.lt; omega), h.base.far (Or.inl rfl) hg h.sta h.lt.2, h.lt⟩
theorem RunI.push2 {W' : World} {v' : Value} {o : Obj} (h : RunI w l b8 b9 x c1 c2 v1 n1 f1 v2 n2 f2 W) (hown : W'.ownsRow (b9 + 1) 23 1 v' (n2 + 1) (lst f2 n2 ++ [.float .f64 (f2 n2)])) (hg : (W.alloc o).grownBy W' v2.ownBlock) (hat : v'.ownBlock = v2.ownBlock ∨ v'.ownBlock = some (W.alloc o).heap.size) : RunI w l b8 b9 x c1 c2 v1 n1 f1 v' (n2 + 1) f2 W' :=
  ⟨h.base.push2 hown hg hat, h.base.far (Or.inr rfl) hg h.box (by have := h.lt; omega), h.base.far (Or.inr rfl) hg h.sta h.lt.2, h.lt⟩
theorem RunI.set0 (h : RunI w l b8 b9 x c1 c2 v1 n1 f1 v2 n2 f2 W) (u : Value) : RunI w l b8 b9 x u c2 v1 n1 f1 v2 n2 f2 (W.setCell ⟨b9, 0, none⟩ u) :=
  have hn := h.lt
  ⟨h.base.set0 u, h.box.setOther (a := ⟨b9, 0, none⟩) (by show w.heap.size ≠ b9; omega) _, h.sta.setOther (a := ⟨b9, 0, none⟩) (by show b8 ≠ b9; omega) _, h.lt⟩
theorem RunI.set1 (h : RunI w l b8 b9 x c1 c2 v1 n1 f1 v2 n2 f2 W) (u : Value) : RunI w l b8 b9 x c1 u v1 n1 f1 v2 n2 f2 (W.setCell ⟨b9, 1, none⟩ u) :=
  have hn := h.lt
  ⟨h.base.set1 u, h.box.setOther (a := ⟨b9, 1, none⟩) (by show w.heap.size ≠ b9; omega) _, h.sta.setOther (a := ⟨b9, 1, none⟩) (by show b8 ≠ b9; omega) _, h.lt⟩
end
set_option maxRecDepth 100000 in
set_option maxHeartbeats 8000000 in
theorem runLoop_any (l : Fl.Lo) (start : Nat) (a : Option Addr) (n cap : Nat) (f : Nat → Nat) (w : World) (h : FlAt a n f w) (hn : n ≤ 200) (ht : TabOk w) :
    Calls Tryd.prog 25 #[loV l, .float .f64 start, .slice a n cap] w fun e w' => RunEnd w.heap.size l start n f e w' ∧ Below w.heap.size w w' := by
  obtain ⟨W, hW⟩ : ∃ W, W = (w.alloc (.cells #[.float .f64 l.up, .float .f64 l.sum, .float .f64 l.gain, .float .f64 l.lag, .float .f64 l.low, .float .f64 l.high] 25)).alloc (.cells #[nilS, nilS, .int .i64 0] 30) := ⟨_, rfl⟩
  have HB : Hid (Below w.heap.size w W) := by show Below _ _ _; rw [hW]; exact (bel_alloc _ _).alloc (by simp) _
  have HX : Hid (W.rowIs w.heap.size 25 6 (rowL (loL l))) := by show World.rowIs _ _ _ _ _; rw [hW]; exact wrow_below (rowL_alloc w (loL l) _) (bel_alloc _ _)
  have HR : Hid (W.rowIs (w.heap.size + 1) 30 3 (rowL (outL nilS nilS 0))) := by show World.rowIs _ _ _ _ _; rw [hW]; exact rowL_alloc' (by simp) (outL nilS nilS 0) _
  have HW := Lib.hid hW
  have H := Lib.hid h
  have HN := Lib.hid hn
  have HT := Lib.hid ht
  clear hW h hn ht
  cases h1 : Fl.rightL l
  · have hno : Fl.loopOk l start n f = false := by unfold Fl.loopOk; rw [h1]; simp
    have HNO := Lib.hid hno
    clear hno
    go_enter Tryd.func25, Tryd.ntmps25
    go_wp2_with fail
    rw [← HW.out]
    clear HW
    refine (loopRight_any l _).mono ?_
    rintro e w1 ⟨rfl, hb⟩
    replace HX := Lib.hid (wrow_below HX.out hb)
    replace HR := Lib.hid (wrow_below HR.out hb)
    replace HB : Hid (Below w.heap.size w w1) := HB.out.trans (hb.mono HB.out.size)
    clear hb
    rw [h1]
    obtain ⟨⟨o0, o1, o2⟩, z0, z1, z2⟩ := row3_cells HR.out
    have l0 := World.rowIs.lt HR.out
    go_wp2_with fail
    exact bodyPost_ret (v := .tuple #[.agg #[nilS, nilS, .int .i64 0], (.iface 58 (.agg #[.string ⟨#[97, 32, 108, 111, 111, 112]⟩, .iface 54 (.agg #[.int .i64 1])]))]) (by simp [results, Tryd.results25, go_sem, o0, o1, o2]) rfl ⟨runEnd_form HNO.out ⟨_, rfl, errIs_one _ _⟩, lbelow_set3 HB.out (by omega) _ _ _⟩
  cases h2 : Fl.measB start
  · have hno : Fl.loopOk l start n f = false := by unfold Fl.loopOk; rw [h2]; simp
    have HNO := Lib.hid hno
    clear hno
    go_enter Tryd.func25, Tryd.ntmps25
    go_wp2_with fail
    rw [← HW.out]
    clear HW
    refine (loopRight_any l _).mono ?_
    rintro e w1 ⟨rfl, hb⟩
    replace HX := Lib.hid (wrow_below HX.out hb)
    replace HR := Lib.hid (wrow_below HR.out hb)
    replace HB : Hid (Below w.heap.size w w1) := HB.out.trans (hb.mono HB.out.size)
    clear hb
    rw [h1]
    go_wp2_with fail
    refine (implMeas_any _ _).mono ?_
    rintro e w2 ⟨rfl, rfl⟩
    rw [h2]
    obtain ⟨⟨o0, o1, o2⟩, z0, z1, z2⟩ := row3_cells HR.out
    have l0 := World.rowIs.lt HR.out
    go_wp2_with fail
    exact bodyPost_ret (v := .tuple #[.agg #[nilS, nilS, .int .i64 0], (.iface 58 (.agg #[.string ⟨#[116, 104, 101, 32, 115, 116, 97, 114, 116, 32, 111, 114, 32, 97, 32, 119, 97, 110, 116, 32, 111, 102, 32, 97, 32, 108, 111, 111, 112]⟩, .iface 54 (.agg #[.int .i64 1])]))]) (by simp [results, Tryd.results25, go_sem, o0, o1, o2]) rfl ⟨runEnd_form HNO.out ⟨_, rfl, errIs_one _ _⟩, lbelow_set3 HB.out (by omega) _ _ _⟩
  cases h3 : Fl.allB f n
  · have hno : Fl.loopOk l start n f = false := by unfold Fl.loopOk; rw [h3]; simp
    have HNO := Lib.hid hno
    clear hno
    go_enter Tryd.func25, Tryd.ntmps25
    go_wp2_with fail
    rw [← HW.out]
    clear HW
    refine (loopRight_any l _).mono ?_
    rintro e w1 ⟨rfl, hb⟩
    replace HX := Lib.hid (wrow_below HX.out hb)
    replace HR := Lib.hid (wrow_below HR.out hb)
    replace HB : Hid (Below w.heap.size w w1) := HB.out.trans (hb.mono HB.out.size)
    clear hb
    rw [h1]
    go_wp2_with fail
    refine (implMeas_any _ _).mono ?_
    rintro e w2 ⟨rfl, rfl⟩
    rw [h2]
    go_wp2_with fail
    refine (measures_any a n cap f _ (H.out.below HB.out) (by have := HN.out; omega)).mono ?_
    rintro e w3 ⟨rfl, rfl⟩
    rw [h3]
    obtain ⟨⟨o0, o1, o2⟩, z0, z1, z2⟩ := row3_cells HR.out
    have l0 := World.rowIs.lt HR.out
    go_wp2_with fail
    exact bodyPost_ret (v := .tuple #[.agg #[nilS, nilS, .int .i64 0], (.iface 58 (.agg #[.string ⟨#[116, 104, 101, 32, 115, 116, 97, 114, 116, 32, 111, 114, 32, 97, 32, 119, 97, 110, 116, 32, 111, 102, 32, 97, 32, 108, 111, 111, 112]⟩, .iface 54 (.agg #[.int .i64 1])]))]) (by simp [results, Tryd.results25, go_sem, o0, o1, o2]) rfl ⟨runEnd_form HNO.out ⟨_, rfl, errIs_one _ _⟩, lbelow_set3 HB.out (by omega) _ _ _⟩
  have hok : Fl.loopOk l start n f = true := by unfold Fl.loopOk; rw [h1, h2, h3]; rfl
  have HOK := Lib.hid hok
  have HLO := Lib.hid (Fl.loOk_of (Bool.and_eq_true_iff.1 h1).1)
  have HST := Lib.hid h2
  have HAL := Lib.hid h3
  clear hok
  obtain ⟨i0, hi, hz0, hz1, hz2⟩ := info_parts linfo_f64
  go_enter Tryd.func25, Tryd.ntmps25
  go_wp2_with fail
  rw [← HW.out]
  clear HW
  refine (loopRight_any l _).mono ?_
  rintro e w1 ⟨rfl, hb⟩
  replace HX := Lib.hid (wrow_below HX.out hb)
  replace HR := Lib.hid (wrow_below HR.out hb)
  replace HB : Hid (Below w.heap.size w w1) := HB.out.trans (hb.mono HB.out.size)
  clear hb
  rw [h1]
  go_wp2_with fail
  refine (implMeas_any _ _).mono ?_
  rintro e w2 ⟨rfl, rfl⟩
  rw [h2]
  go_wp2_with fail
  refine (measures_any a n cap f _ (H.out.below HB.out) (by have := HN.out; omega)).mono ?_
  rintro e w3 ⟨rfl, rfl⟩
  rw [h3]
  clear h1 h2 h3
  obtain ⟨b8, hb8⟩ : ∃ b8, b8 = w3.heap.size := ⟨_, rfl⟩
  obtain ⟨W4, hW4⟩ : ∃ W4, W4 = (w3.alloc (.cells #[.float .f64 start, .float .f64 0, .float .f64 0] 67)).alloc (.cells #[nilS, nilS, .int .i64 0] 30) := ⟨_, rfl⟩
  have HI : Hid (RunI w l b8 (b8 + 1) (Fl.st l start f 0) nilS nilS nilS 0 (Fl.vals l start f) nilS 0 (Fl.drvs l start f) W4) := by
    have hb : Below w3.heap.size w3 W4 := by rw [hW4]; exact (bel_alloc _ _).alloc (by simp) _
    have hl := HR.out.lt
    refine ⟨⟨wrow_below HR.out hb, ?_, Two.nil _ _ _ _, HB.out.trans (hb.mono HB.out.size), by omega⟩, wrow_below HX.out hb, ?_, by omega⟩
    · rw [hW4]; exact rowL_alloc' (by simp [hb8]) (outL nilS nilS 0) _
    · rw [hW4]; exact wrow_below (rowL_alloc' hb8.symm (lsL ⟨start, 0, 0⟩) _) (bel_alloc _ _)
  have HW4 := Lib.hid hW4
  have HB8 := Lib.hid hb8
  clear hW4 hb8 HX HR HB
  go_wp2_with fail
  rw [← HW4.out, ← HB8.out]
  clear HW4 HB8
  go_loopw [37] (fun iv wr => ∃ (i : Nat) (v1 v2 : Value), i ≤ n ∧ iv = .int .i64 i ∧ Hid (Fl.okTo l start f i = true) ∧ Hid (RunI w l b8 (b8 + 1) (Fl.st l start f i) v1 v2 v1 i (Fl.vals l start f) v2 i (Fl.drvs l start f) wr)) (fun iv _ => n - (intOf iv).toNat)
  case atStart => exact ⟨0, nilS, nilS, Nat.zero_le _, rfl, rfl, HI⟩
  case round =>
    clear HI
    obtain ⟨i, v1, v2, hi1, rfl, hA, HI⟩ := hrel
    have hn200 := HN.out
    by_cases hlt : i < n
    · have hltz : (i : Int) < (n : Int) := by omega
      have hi00 : (0 : Int) ≤ (i : Int) := by omega
      obtain ⟨ga, rfl, ka⟩ := (H.out.below HI.out.base.bel).at_ hlt
      have hat := Fl.okTo_at HST.out hA.out
      have HNX := Lib.hid (fun wx => next_any l (f i) (Fl.st l start f i) wx HLO.out (Fl.allB_at HAL.out i hlt) hat.1 hat.2)
      have hnx : Fl.nx l (f i) (Fl.st l start f i) = Fl.st l start f (i + 1) := rfl
      rw [hnx] at HNX
      clear hnx hat
      obtain ⟨⟨x0, x1, x2⟩, _⟩ := row3_cells HI.out.sta
      obtain ⟨⟨y0, y1, y2⟩, y3, y4, y5⟩ := row6_cells HI.out.box
      go_wp2_with fail
      clear x0 x1 x2 y0 y1 y2 y3 y4 y5 ka
      refine (HNX.out _).mono ?_
      rintro e w5 ⟨rfl, hb⟩
      replace HI := Lib.hid (HI.out.below hb)
      obtain ⟨W6, hW6⟩ : ∃ W6, W6 = ((w5.setCell ⟨b8, 0, none⟩ (.float .f64 (Fl.st l start f (i + 1)).v)).setCell ⟨b8, 1, none⟩ (.float .f64 (Fl.st l start f (i + 1)).s)).setCell ⟨b8, 2, none⟩ (.float .f64 (Fl.st l start f (i + 1)).d) := ⟨_, rfl⟩
      have HI6 : Hid (RunI w l b8 (b8 + 1) (Fl.st l start f (i + 1)) v1 v2 v1 i (Fl.vals l start f) v2 i (Fl.drvs l start f) W6) := by show RunI _ _ _ _ _ _ _ _ _ _ _ _ _ _; rw [hW6]; exact HI.out.setS _
      have HW6 := Lib.hid hW6
      obtain ⟨⟨x0, x1, x2⟩, z0, z1, z2⟩ := row3_cells HI.out.sta
      have l8 := HI.out.sta.lt
      clear hb hW6 HNX
      go_wp2_with fail
      rw [← HW6.out]
      clear x0 x1 x2 z0 z1 z2 l8 HW6 HI
      refine (implMeas_any _ _).mono ?_
      rintro e w7 ⟨rfl, rfl⟩
      obtain ⟨⟨x0, x1, x2⟩, _⟩ := row3_cells HI6.out.sta
      cases hm1 : Fl.measB (Fl.st l start f (i + 1)).v
      · go_wp2_with fail
        have HNO := Lib.hid (Fl.okTo_no (l := l) (start := start) (f := f) hlt (by unfold Fl.okS; rw [hm1]; simp))
        refine (itoaS_any i (by omega) _ (tab_below HT.out HI6.out.base.bel)).mono ?_
        rintro e w9 ⟨⟨sx, rfl, hsx⟩, hb⟩
        have HJ := Lib.hid (HI6.out.base.below hb)
        clear hb
        obtain ⟨⟨o0, o1, o2⟩, z0, z1, z2⟩ := row3_cells HJ.out.res
        have l0 := World.rowIs.lt HJ.out.res
        go_wp2_with fail
        exact bodyPost_ret (v := .tuple #[.agg #[nilS, nilS, .int .i64 0], (.iface 58 (.agg #[.string (⟨#[99, 121, 99, 108, 101, 32]⟩ ++ sx ++ ⟨#[32, 111, 102, 32, 97, 32, 108, 111, 111, 112]⟩), .iface 54 (.agg #[.int .i64 5])]))]) (by simp [results, Tryd.results25, go_sem, o0, o1, o2]) rfl ⟨runEnd_over HOK.out HNO.out ⟨_, rfl, errIs_one _ _⟩, lbelow_set3 HJ.out.bel (by omega) _ _ _⟩
      · go_wp2_with fail
        refine (implMeas_any _ _).mono ?_
        rintro e w8 ⟨rfl, rfl⟩
        cases hm2 : Fl.measB (Fl.st l start f (i + 1)).s
        · go_wp2_with fail
          have HNO := Lib.hid (Fl.okTo_no (l := l) (start := start) (f := f) hlt (by unfold Fl.okS; rw [hm1, hm2]; simp))
          refine (itoaS_any i (by omega) _ (tab_below HT.out HI6.out.base.bel)).mono ?_
          rintro e w9 ⟨⟨sx, rfl, hsx⟩, hb⟩
          have HJ := Lib.hid (HI6.out.base.below hb)
          clear hb
          obtain ⟨⟨o0, o1, o2⟩, z0, z1, z2⟩ := row3_cells HJ.out.res
          have l0 := World.rowIs.lt HJ.out.res
          go_wp2_with fail
          exact bodyPost_ret (v := .tuple #[.agg #[nilS, nilS, .int .i64 0], (.iface 58 (.agg #[.string (⟨#[99, 121, 99, 108, 101, 32]⟩ ++ sx ++ ⟨#[32, 111, 102, 32, 97, 32, 108, 111, 111, 112]⟩), .iface 54 (.agg #[.int .i64 5])]))]) (by simp [results, Tryd.results25, go_sem, o0, o1, o2]) rfl ⟨runEnd_over HOK.out HNO.out ⟨_, rfl, errIs_one _ _⟩, lbelow_set3 HJ.out.bel (by omega) _ _ _⟩
        · have HA2 : Hid (Fl.okTo l start f (i + 1) = true) := by show (Fl.okTo l start f i && Fl.okS (Fl.st l start f (i + 1))) = true; unfold Fl.okS; rw [hA.out, hm1, hm2]; rfl
          clear hm1 hm2
          obtain ⟨⟨o0, o1, o2⟩, _⟩ := row3_cells HI6.out.base.out
          have l9 := HI6.out.base.out.lt
          go_wp2_with (at_builtin; refine wpList_append_own_at _ rfl _ _ 26 rfl (b8 + 1 + 1) 23 i0 (.float .f64 0) 1 8 Tryd.underlying26 hi hz0 hz1 hz2 rfl (by decide) _ _ _ rfl (World.ownsRow.alloc HI6.out.base.own.one _) ⟨w8.heap.size, 0, none⟩ 1 1 [.float .f64 (Fl.st l start f (i + 1)).v] rfl rfl (cell_one_new _ _ _) ?c2 ?c3 ?c4 ?c5 ?_)
          case c2 => intro u hu; simp at hu; subst hu; rfl
          case c3 => unfold maxLen; omega
          case c4 => omega
          case c5 => have := HI6.out.base.out.lt; simp; omega
          intro va wa hown hgrow _ hatb
          have HJ := Lib.hid (HI6.out.push1 hown hgrow (by simpa using hatb))
          clear hown hgrow hatb HI6 o0 o1 o2 x0 x1 x2 l9
          obtain ⟨gv, kv, rfl⟩ : ∃ g k, va = .slice (some ⟨g, 0, none⟩) (i + 1) k := by
            rcases HJ.out.base.own.one.form with ⟨_, e⟩ | ⟨g, k, e, _⟩
            · omega
            · exact ⟨g, k, e⟩
          obtain ⟨Wb, hWb⟩ : ∃ Wb, Wb = wa.setCell ⟨b8 + 1, 0, none⟩ (.slice (some ⟨gv, 0, none⟩) (i + 1) kv) := ⟨_, rfl⟩
          have HJ2 : Hid (RunI w l b8 (b8 + 1) (Fl.st l start f (i + 1)) (.slice (some ⟨gv, 0, none⟩) (i + 1) kv) v2 (.slice (some ⟨gv, 0, none⟩) (i + 1) kv) (i + 1) (Fl.vals l start f) v2 i (Fl.drvs l start f) Wb) := by show RunI _ _ _ _ _ _ _ _ _ _ _ _ _ _; rw [hWb]; exact HJ.out.set0 _
          have HWb := Lib.hid hWb
          have o0 := HJ.out.base.out.cell (i := 0) (by omega)
          have o1 : wa.cell? ⟨b8 + 1, 1, none⟩ = some v2 := HJ.out.base.out.cell (i := 1) (by omega)
          have z0 := HJ.out.base.out.frozen 0
          have l9 := HJ.out.base.out.lt
          have x2 : wa.cell? ⟨b8, 2, none⟩ = some (.float .f64 (Fl.st l start f (i + 1)).d) := HJ.out.sta.cell (i := 2) (by omega)
          have hne8 : ¬ b8 = b8 + 1 := by omega
          clear hWb HJ
          have HZ : Hid (Wb.heap.size = wa.heap.size) := by show _ = _; rw [HWb.out]; simp
          have HO : Hid (∀ o, (wa.setCell ⟨b8 + 1, 0, none⟩ (.slice (some ⟨gv, 0, none⟩) (i + 1) kv)).alloc o = Wb.alloc o) := fun o => by rw [HWb.out]
          go_wp2_with (at_builtin; refine wpList_append_own_at _ rfl _ _ 26 rfl (b8 + 1 + 1) 23 i0 (.float .f64 0) 1 8 Tryd.underlying26 hi hz0 hz1 hz2 rfl (by decide) _ _ _ rfl (by rw [HO.out]; exact World.ownsRow.alloc HJ2.out.base.own.two _) ⟨wa.heap.size, 0, none⟩ 1 1 [.float .f64 (Fl.st l start f (i + 1)).d] rfl rfl ?c1 ?c2 ?c3 ?c4 ?c5 ?_)
          case c1 => rw [HO.out, ← HZ.out]; exact cell_one_new _ _ _
          case c2 => intro u hu; simp at hu; subst hu; rfl
          case c3 => unfold maxLen; omega
          case c4 => omega
          case c5 => have := HJ2.out.base.out.lt; have h2 := HZ.out; simp; omega
          intro vb wd hown hgrow _ hatb
          rw [HO.out] at hgrow
          have HJ := Lib.hid (HJ2.out.push2 hown hgrow (by have := HZ.out; simpa [this] using hatb))
          clear hown hgrow hatb HJ2 o0 o1 z0 l9 x2 hne8 HWb HZ HO
          obtain ⟨gd, kd, rfl⟩ : ∃ g k, vb = .slice (some ⟨g, 0, none⟩) (i + 1) k := by
            rcases HJ.out.base.own.two.form with ⟨_, e⟩ | ⟨g, k, e, _⟩
            · omega
            · exact ⟨g, k, e⟩
          have HJ2 := Lib.hid (HJ.out.set1 (.slice (some ⟨gd, 0, none⟩) (i + 1) kd))
          have o1 := HJ.out.base.out.cell (i := 1) (by omega)
          have z1 := HJ.out.base.out.frozen 1
          have l9 := HJ.out.base.out.lt
          clear HJ
          go_wp2_with fail
          go_roundw
          case rel => exact ⟨i + 1, _, _, by omega, by go_num, HA2, HJ2⟩
          case measure => simp [intOf]; omega
    · obtain rfl : i = n := by omega
      obtain ⟨⟨x0, x1, x2⟩, _⟩ := row3_cells HI.out.base.out
      obtain ⟨⟨o0, o1, o2⟩, z0, z1, z2⟩ := row3_cells HI.out.base.res
      have l0 := HI.out.base.res.lt
      have HE := Lib.hid HI.out.base
      have hnum := HI.out.base.num
      clear HI
      have hf1 : v1 = nilS ∨ ∃ g k, v1 = .slice (some ⟨g, 0, none⟩) i k := by
        rcases HE.out.own.one.form with ⟨e, _⟩ | ⟨g, k, e, _⟩
        · exact Or.inl e
        · exact Or.inr ⟨g, k, e⟩
      have hf2 : v2 = nilS ∨ ∃ g k, v2 = .slice (some ⟨g, 0, none⟩) i k := by
        rcases HE.out.own.two.form with ⟨e, _⟩ | ⟨g, k, e, _⟩
        · exact Or.inl e
        · exact Or.inr ⟨g, k, e⟩
      have HEND : Hid (RunEnd w.heap.size l start i f (.returned (.tuple #[.agg #[v1, v2, .int .i64 0], .nilIface])) (((wr.setCell ⟨w.heap.size + 1, 0, none⟩ v1).setCell ⟨w.heap.size + 1, 1, none⟩ v2).setCell ⟨w.heap.size + 1, 2, none⟩ (.int .i64 0)) ∧ Below w.heap.size w (((wr.setCell ⟨w.heap.size + 1, 0, none⟩ v1).setCell ⟨w.heap.size + 1, 1, none⟩ v2).setCell ⟨w.heap.size + 1, 2, none⟩ (.int .i64 0))) := by
        refine ⟨runEnd_ok HOK.out hA.out ⟨v1, v2, rfl, ?_⟩, lbelow_set3 HE.out.bel (by omega) _ _ _⟩
        exact (((HE.out.own.set (a := ⟨w.heap.size + 1, 0, none⟩) (by show w.heap.size + 1 < _; omega) _).set (a := ⟨w.heap.size + 1, 1, none⟩) (by show w.heap.size + 1 < _; omega) _).set (a := ⟨w.heap.size + 1, 2, none⟩) (by show w.heap.size + 1 < _; omega) _).lower (by omega)
      rcases hf1 with rfl | ⟨g1, k1, rfl⟩ <;> rcases hf2 with rfl | ⟨g2, k2, rfl⟩
      all_goals
        go_wp2_with fail
        exact bodyPost_ret (v := _) (by simp [results, Tryd.results25, go_sem, o0, o1, o2]) rfl HEND.out
end Go.Proofs.YtplghjghecfeoaaDoor
