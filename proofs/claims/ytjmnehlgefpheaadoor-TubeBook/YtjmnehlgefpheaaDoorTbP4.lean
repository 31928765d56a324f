/-
  The program's TubePush and TubeRun.
-/
import Derived.Test.YtjmnehlgefpheaaDoorTbP3
namespace Go.Proofs.YtjmnehlgefpheaaDoor
open Go.RowKit Go.Deep

/-- An answer: a code, a tube, what went out. -/
abbrev Ans := Int × List Tb.Pc × List Tb.Pc
def roomOf (r : Int) (X : Ans) : Int := if X.1 = 0 then r else 0
/-- What is told of a run. -/
def TuEnd (B : Nat) (r : Int) (X : Ans) (e : Ending) (W : World) : Prop := ∃ a k p d, e = .returned (toV (roomOf r X) a X.2.1.length k p X.2.2.length d X.1) ∧ TwO B a k X.2.1 p d X.2.2 W
theorem TuEnd.bad {B : Nat} {r : Int} {c : Int} (hc : c ≠ 0) (W : World) : TuEnd B r (c, [], []) (.returned (toV 0 none 0 0 none 0 0 c)) W := by
  refine ⟨none, 0, none, 0, ?_, TwO.nil _ _⟩
  unfold roomOf
  rw [if_neg hc]
  rfl
theorem runOf_bad {m r : Int} {l pl : List Tb.Pc} (h : (Tb.runOf m r l pl).1 ≠ 0) : Tb.runOf m r l pl = ((Tb.runOf m r l pl).1, [], []) := by
  by_cases hc : (0 ≤ m ∧ m ≤ 1000) ∧ Tb.Right r l
  · rw [Tb.runOf_yes hc] at h ⊢
    rcases Tb.runA_code m pl l.reverse [] with e | e | e
    · exact absurd e h
    · rw [e]; rfl
    · rw [e]; rfl
  · rw [Tb.runOf_no hc]
theorem put4 {V : World} {g : Nat} {x0 x1 x2 x3 : Value} {t : TypeId} (h : V.rowIs g t 4 (rowN [x0, x1, x2, x3])) (y0 y1 y2 y3 : Value) : ((((V.setCell ⟨g, 0, none⟩ y0).setCell ⟨g, 1, none⟩ y1).setCell ⟨g, 2, none⟩ y2).setCell ⟨g, 3, none⟩ y3).rowIs g t 4 (rowN [y0, y1, y2, y3]) :=
  rowN_put (rowN_put (rowN_put (rowN_put h 0 _ (by simp)) 1 _ (by simp)) 2 _ (by simp)) 3 _ (by simp)
theorem bel4 {V w : World} {B g : Nat} (h : Below B w V) (hg : B ≤ g) (y0 y1 y2 y3 : Value) : Below B w ((((V.setCell ⟨g, 0, none⟩ y0).setCell ⟨g, 1, none⟩ y1).setCell ⟨g, 2, none⟩ y2).setCell ⟨g, 3, none⟩ y3) :=
  (((h.setCell (p := ⟨g, 0, none⟩) hg _).setCell (p := ⟨g, 1, none⟩) hg _).setCell (p := ⟨g, 2, none⟩) hg _).setCell (p := ⟨g, 3, none⟩) hg _
theorem blk4 (V : World) {g k : Nat} (hk : k ≠ g) (y0 y1 y2 y3 : Value) : ((((V.setCell ⟨g, 0, none⟩ y0).setCell ⟨g, 1, none⟩ y1).setCell ⟨g, 2, none⟩ y2).setCell ⟨g, 3, none⟩ y3).heap[k]? = V.heap[k]? := by
  rw [Below.heap_setCell _ _ _ _ (by show k ≠ g; exact hk), Below.heap_setCell _ _ _ _ (by show k ≠ g; exact hk), Below.heap_setCell _ _ _ _ (by show k ≠ g; exact hk), Below.heap_setCell _ _ _ _ (by show k ≠ g; exact hk)]
set_option maxRecDepth 100000 in
set_option maxHeartbeats 4000000 in
theorem tellTube_ok (r : Int) (a : Option Addr) (n k : Nat) (p : Option Addr) (m d : Nat) (c : Int) (w : World) :
    Calls Tryd.prog 34 #[toV r a n k p m d c, .nilIface] w fun e w' => e = .returned (toV r a n k p m d c) ∧ Below w.heap.size w w' := by
  obtain ⟨W, hW⟩ : ∃ W, W = (w.alloc (.cells #[.int .i64 r, .slice a n k, .slice p m d, .int .i64 c] 29)).alloc (.cells #[.int .i64 0, .slice none 0 0, .slice none 0 0, .int .i64 0] 29) := ⟨_, rfl⟩
  have HB : Hid (Below w.heap.size w W) := by show Below _ _ _; rw [hW]; exact (nbel_alloc _ _).alloc (by simp) _
  have HR : Hid (W.rowIs w.heap.size 29 4 (rowN (toL r a n k p m d c))) := by show W.rowIs _ _ _ _; rw [hW]; exact nrow_below (rowN_alloc w _ _) (nbel_alloc _ _)
  have HO : Hid (W.rowIs (w.heap.size + 1) 29 4 (rowN (toL 0 none 0 0 none 0 0 0))) := by show W.rowIs _ _ _ _; rw [hW]; exact rowN_alloc' (by simp) _ _
  obtain ⟨⟨x0, x1, x2, x3⟩, _⟩ := rowN4 HR.out
  obtain ⟨⟨o0, o1, o2, o3⟩, z0, z1, z2, z3⟩ := rowN4 HO.out
  have hol := HO.out.lt
  rw [hW] at x0 x1 x2 x3 o0 o1 o2 o3 z0 z1 z2 z3 hol
  have HW := Lib.hid hW
  clear hW
  go_enter Tryd.func34, Tryd.ntmps34
  go_wp2_with fail
  exact bodyPost_ret (v := toV r a n k p m d c) (by simp only [results, Tryd.results34]; simp [go_sem]) rfl ⟨rfl, (nbel_alloc _ _).alloc (by simp) _⟩
set_option maxRecDepth 100000 in
set_option maxHeartbeats 4000000 in
theorem tellTube_bad (r : Int) (a : Option Addr) (n k : Nat) (p : Option Addr) (m d : Nat) (c : Int) (ev : Value) (c' : Int) (w : World) (he : ErrIs ev c') (hg : Et w) :
    Calls Tryd.prog 34 #[toV r a n k p m d c, ev] w fun e w' => e = .returned (toV 0 none 0 0 none 0 0 c') ∧ Below w.heap.size w w' := by
  obtain ⟨y, rfl, hy⟩ := he
  obtain ⟨W, hW⟩ : ∃ W, W = (w.alloc (.cells #[.int .i64 r, .slice a n k, .slice p m d, .int .i64 c] 29)).alloc (.cells #[.int .i64 0, .slice none 0 0, .slice none 0 0, .int .i64 0] 29) := ⟨_, rfl⟩
  have HB : Hid (Below w.heap.size w W) := by show Below _ _ _; rw [hW]; exact (nbel_alloc _ _).alloc (by simp) _
  have HO : Hid (W.rowIs (w.heap.size + 1) 29 4 (rowN (toL 0 none 0 0 none 0 0 0))) := by show W.rowIs _ _ _ _; rw [hW]; exact rowN_alloc' (by simp) _ _
  have HW := Lib.hid hW
  have HET := Lib.hid (hg.below HB.out)
  have HY := Lib.hid hy
  clear hW hg hy
  go_enter Tryd.func34, Tryd.ntmps34
  go_wp2_with fail
  rw [← HW.out]
  clear HW
  refine (codeOf_any y c' HY.out _ HET.out).mono ?_
  rintro e w1 ⟨rfl, hb⟩
  have HO1 := Lib.hid (nrow_below HO.out hb)
  have HB1 : Hid (Below w.heap.size w w1) := HB.out.trans (hb.mono HB.out.size)
  clear hb HO HB
  obtain ⟨⟨o0, o1, o2, o3⟩, z0, z1, z2, z3⟩ := rowN4 HO1.out
  have hol := HO1.out.lt
  go_wp2_with fail
  have zr := put4 HO1.out (.int .i64 0) (.slice none 0 0) (.slice none 0 0) (.int .i64 c')
  have zb := bel4 (g := w.heap.size + 1) HB1.out (by omega) (.int .i64 0) (.slice none 0 0) (.slice none 0 0) (.int .i64 c')
  generalize (((w1.setCell ⟨w.heap.size + 1, 0, none⟩ (.int .i64 0)).setCell ⟨w.heap.size + 1, 1, none⟩ (.slice none 0 0)).setCell ⟨w.heap.size + 1, 2, none⟩ (.slice none 0 0)).setCell ⟨w.heap.size + 1, 3, none⟩ (.int .i64 c') = Z at zr zb ⊢
  obtain ⟨⟨c0, c1, c2, c3⟩, _⟩ := rowN4 zr
  exact bodyPost_ret (v := toV 0 none 0 0 none 0 0 c') (by simp only [results, Tryd.results34]; simp [go_sem, c0, c1, c2, c3]) rfl ⟨rfl, zb⟩
set_option maxRecDepth 100000 in
set_option maxHeartbeats 4000000 in
theorem implPush_any (r : Int) (a : Option Addr) (l : List Tb.Pc) (k : Nat) (p : Tb.Pc) (w : World) (h : IsAt a (l.length * 3) (Tb.fl l) w) (hg : Et w ∧ TabOk w) :
    Calls Tryd.prog 14 #[tbV r a l.length k, pcV p] w fun e w' => TuEnd w.heap.size r (Tb.runOf 0 r l [p]) e w' ∧ Below w.heap.size w w' := by
  obtain ⟨W, hW⟩ : ∃ W, W = (((w.alloc (.cells #[.int .i64 r, .slice a l.length k] 25)).alloc (.cells #[.int .i64 p.w, .int .i64 p.g, .int .i64 p.b] 38)).alloc (.cells #[.int .i64 0, .slice none 0 0, .slice none 0 0, .int .i64 0] 29)).alloc (.cells #[.int .i64 p.w, .int .i64 p.g, .int .i64 p.b] 38) := ⟨_, rfl⟩
  have HB : Hid (Below w.heap.size w W) := by show Below _ _ _; rw [hW]; exact (((nbel_alloc _ _).alloc (by simp) _).alloc (by simp; omega) _).alloc (by simp; omega) _
  have HO : Hid (W.rowIs (w.heap.size + 1 + 1) 29 4 (rowN (toL 0 none 0 0 none 0 0 0))) := by show W.rowIs _ _ _ _; rw [hW]; exact nrow_below (rowN_alloc' (by simp) _ _) (nbel_alloc _ _)
  have HP : Hid (IsAt (some ⟨w.heap.size + 1 + 1 + 1, 0, none⟩) ([p].length * 3) (Tb.fl [p]) W) := by
    have hr : W.rowIs (w.heap.size + 1 + 1 + 1) 38 3 (rowN (pcL p)) := by rw [hW]; exact rowN_alloc' (by simp) _ _
    obtain ⟨⟨c0, c1, c2⟩, _⟩ := rowN3 hr
    refine Or.inr ⟨_, rfl, fun j hj => ?_⟩
    have h3 : j = 0 ∨ j = 1 ∨ j = 2 := by simp at hj; omega
    rcases h3 with rfl | rfl | rfl
    · exact c0
    · exact c1
    · exact c2
  have HSZ : Hid (W.heap.size = w.heap.size + 4) := by show _ = _; rw [hW]; simp
  have HW := Lib.hid hW
  have H := Lib.hid (h.below HB.out)
  have HET := Lib.hid (hg.1.below HB.out)
  have HTB := Lib.hid (tab_below hg.2 HB.out)
  clear hW h hg
  go_enter Tryd.func14, Tryd.ntmps14
  go_wp2_with fail
  rw [← HW.out]
  clear HW
  refine (runTube_any r a l k _ [p] 1 0 _ H.out HP.out (by simp) HTB.out).mono ?_
  rintro e w2 ⟨hru, hb⟩
  have HO2 := Lib.hid (nrow_below HO.out hb)
  have HB2 : Hid (Below w.heap.size w w2) := HB.out.trans (hb.mono HB.out.size)
  have HET2 := Lib.hid (HET.out.below hb)
  clear hb
  rcases hru with ⟨hc, ev, rfl, hev⟩ | ⟨hc, a5, k5, p5, d5, rfl, htw⟩
  · have HC := Lib.hid hc
    have HEV := Lib.hid hev
    have HEQ := Lib.hid (runOf_bad hc)
    clear hc hev
    go_wp2_with fail
    refine (tellTube_bad 0 none 0 0 none 0 0 0 ev _ _ HEV.out HET2.out).mono ?_
    rintro e w3 ⟨rfl, hb⟩
    have HO3 := Lib.hid (nrow_below HO2.out hb)
    have HB3 : Hid (Below w.heap.size w w3) := HB2.out.trans (hb.mono HB2.out.size)
    clear hb
    obtain ⟨⟨o0, o1, o2, o3⟩, z0, z1, z2, z3⟩ := rowN4 HO3.out
    have hol := HO3.out.lt
    obtain ⟨c, hcc⟩ : ∃ c, c = (Tb.runOf 0 r l [p]).1 := ⟨_, rfl⟩
    have HCC := Lib.hid hcc
    rw [← hcc]
    clear hcc
    go_wp2_with fail
    have zr := put4 HO3.out (.int .i64 0) (.slice none 0 0) (.slice none 0 0) (.int .i64 c)
    have zb := bel4 (g := w.heap.size + 1 + 1) HB3.out (by omega) (.int .i64 0) (.slice none 0 0) (.slice none 0 0) (.int .i64 c)
    generalize (((w3.setCell ⟨w.heap.size + 1 + 1, 0, none⟩ (.int .i64 0)).setCell ⟨w.heap.size + 1 + 1, 1, none⟩ (.slice none 0 0)).setCell ⟨w.heap.size + 1 + 1, 2, none⟩ (.slice none 0 0)).setCell ⟨w.heap.size + 1 + 1, 3, none⟩ (.int .i64 c) = Z at zr zb ⊢
    obtain ⟨⟨c0, c1, c2, c3⟩, _⟩ := rowN4 zr
    exact bodyPost_ret (v := toV 0 none 0 0 none 0 0 c) (by simp only [results, Tryd.results14]; simp [go_sem, c0, c1, c2, c3]) rfl ⟨by rw [HEQ.out, ← HCC.out]; exact TuEnd.bad (by rw [HCC.out]; exact HC.out) _, zb⟩
  · obtain ⟨X, hX⟩ : ∃ X, X = Tb.runOf 0 r l [p] := ⟨_, rfl⟩
    rw [← hX] at hc htw ⊢
    have HX := Lib.hid hX
    have HC := Lib.hid hc
    have HTW := Lib.hid htw
    clear hX hc htw
    go_wp2_with fail
    refine (tellTube_ok r a5 _ k5 p5 _ d5 0 _).mono ?_
    rintro e w3 ⟨rfl, hb⟩
    have HO3 := Lib.hid (nrow_below HO2.out hb)
    have HB3 : Hid (Below w.heap.size w w3) := HB2.out.trans (hb.mono HB2.out.size)
    have HT3 := Lib.hid (HTW.out.keep (fun k _ hk => hb.block k hk))
    clear hb
    obtain ⟨⟨o0, o1, o2, o3⟩, z0, z1, z2, z3⟩ := rowN4 HO3.out
    have hol := HO3.out.lt
    go_wp2_with fail
    have zr := put4 HO3.out (.int .i64 r) (.slice a5 X.2.1.length k5) (.slice p5 X.2.2.length d5) (.int .i64 0)
    have zb := bel4 (g := w.heap.size + 1 + 1) HB3.out (by omega) (.int .i64 r) (.slice a5 X.2.1.length k5) (.slice p5 X.2.2.length d5) (.int .i64 0)
    have zt := (HT3.out.keep (fun k hk _ => blk4 w3 (g := w.heap.size + 1 + 1) (by have := HO.out.lt; omega) (.int .i64 r) (.slice a5 X.2.1.length k5) (.slice p5 X.2.2.length d5) (.int .i64 0)))
    generalize (((w3.setCell ⟨w.heap.size + 1 + 1, 0, none⟩ (.int .i64 r)).setCell ⟨w.heap.size + 1 + 1, 1, none⟩ (.slice a5 X.2.1.length k5)).setCell ⟨w.heap.size + 1 + 1, 2, none⟩ (.slice p5 X.2.2.length d5)).setCell ⟨w.heap.size + 1 + 1, 3, none⟩ (.int .i64 0) = Z at zr zb zt ⊢
    obtain ⟨⟨c0, c1, c2, c3⟩, _⟩ := rowN4 zr
    refine bodyPost_ret (v := toV r a5 X.2.1.length k5 p5 X.2.2.length d5 0) (by simp only [results, Tryd.results14]; simp [go_sem, c0, c1, c2, c3]) rfl ⟨?_, zb⟩
    rw [← HX.out]
    refine ⟨a5, k5, p5, d5, ?_, zt.low (by have := HO.out.lt; omega)⟩
    unfold roomOf
    rw [if_pos HC.out, HC.out]
open Classical in
/-- What TubeRun answers. -/
noncomputable def runX (m r : Int) (l pl : List Tb.Pc) : Ans := if 60 < pl.length then (2, [], []) else Tb.runOf m r l pl
set_option maxRecDepth 100000 in
set_option maxHeartbeats 4000000 in
theorem implRun_any (r : Int) (a : Option Addr) (l : List Tb.Pc) (k : Nat) (pa : Option Addr) (pl : List Tb.Pc) (kp : Nat) (m : Int) (w : World) (h : IsAt a (l.length * 3) (Tb.fl l) w) (hp : IsAt pa (pl.length * 3) (Tb.fl pl) w) (hg : Et w ∧ TabOk w) :
    Calls Tryd.prog 9 #[tbV r a l.length k, .slice pa pl.length kp, .int .i64 m] w fun e w' => TuEnd w.heap.size r (runX m r l pl) e w' ∧ Below w.heap.size w w' := by
  obtain ⟨W, hW⟩ : ∃ W, W = (w.alloc (.cells #[.int .i64 r, .slice a l.length k] 25)).alloc (.cells #[.int .i64 0, .slice none 0 0, .slice none 0 0, .int .i64 0] 29) := ⟨_, rfl⟩
  have HB : Hid (Below w.heap.size w W) := by show Below _ _ _; rw [hW]; exact (nbel_alloc _ _).alloc (by simp) _
  have HO : Hid (W.rowIs (w.heap.size + 1) 29 4 (rowN (toL 0 none 0 0 none 0 0 0))) := by show W.rowIs _ _ _ _; rw [hW]; exact rowN_alloc' (by simp) _ _
  have HR : Hid (W.rowIs w.heap.size 25 2 (rowN [.int .i64 r, .slice a l.length k])) := by show W.rowIs _ _ _ _; rw [hW]; exact nrow_below (rowN_alloc w _ _) (nbel_alloc _ _)
  have HSZ : Hid (W.heap.size = w.heap.size + 2) := by show _ = _; rw [hW]; simp
  obtain ⟨⟨x0, x1⟩, _⟩ := rowN2 HR.out
  rw [hW] at x0 x1
  have HW := Lib.hid hW
  have H := Lib.hid (h.below HB.out)
  have HP := Lib.hid (hp.below HB.out)
  have HET := Lib.hid (hg.1.below HB.out)
  have HTB := Lib.hid (tab_below hg.2 HB.out)
  clear hW h hp hg
  by_cases hl : 60 < pl.length
  · have hz : (60 : Int) < (pl.length : Int) := by omega
    have HE : Hid (runX m r l pl = (2, [], [])) := by show _ = _; unfold runX; rw [if_pos hl]
    go_enter Tryd.func9, Tryd.ntmps9
    go_wp2_with fail
    rw [← HW.out]
    clear HW x0 x1
    refine (tellTube_bad 0 none 0 0 none 0 0 0 _ 2 _ (errIs_one _ 2) HET.out).mono ?_
    rintro e w3 ⟨rfl, hb⟩
    have HO3 := Lib.hid (nrow_below HO.out hb)
    have HB3 : Hid (Below w.heap.size w w3) := HB.out.trans (hb.mono HB.out.size)
    clear hb
    obtain ⟨⟨o0, o1, o2, o3⟩, z0, z1, z2, z3⟩ := rowN4 HO3.out
    have hol := HO3.out.lt
    go_wp2_with fail
    have zr := put4 HO3.out (.int .i64 0) (.slice none 0 0) (.slice none 0 0) (.int .i64 2)
    have zb := bel4 (g := w.heap.size + 1) HB3.out (by omega) (.int .i64 0) (.slice none 0 0) (.slice none 0 0) (.int .i64 2)
    generalize (((w3.setCell ⟨w.heap.size + 1, 0, none⟩ (.int .i64 0)).setCell ⟨w.heap.size + 1, 1, none⟩ (.slice none 0 0)).setCell ⟨w.heap.size + 1, 2, none⟩ (.slice none 0 0)).setCell ⟨w.heap.size + 1, 3, none⟩ (.int .i64 2) = Z at zr zb ⊢
    obtain ⟨⟨c0, c1, c2, c3⟩, _⟩ := rowN4 zr
    exact bodyPost_ret (v := toV 0 none 0 0 none 0 0 2) (by simp only [results, Tryd.results9]; simp [go_sem, c0, c1, c2, c3]) rfl ⟨by rw [HE.out]; exact TuEnd.bad (by omega) _, zb⟩
  have hz : ¬ (60 : Int) < (pl.length : Int) := by omega
  have HE : Hid (runX m r l pl = Tb.runOf m r l pl) := by show _ = _; unfold runX; rw [if_neg hl]
  go_enter Tryd.func9, Tryd.ntmps9
  go_wp2_with fail
  rw [← HW.out]
  clear HW x0 x1
  refine (runTube_any r a l k pa pl kp m _ H.out HP.out (by omega) HTB.out).mono ?_
  rintro e w2 ⟨hru, hb⟩
  have HO2 := Lib.hid (nrow_below HO.out hb)
  have HB2 : Hid (Below w.heap.size w w2) := HB.out.trans (hb.mono HB.out.size)
  have HET2 := Lib.hid (HET.out.below hb)
  clear hb
  rcases hru with ⟨hc, ev, rfl, hev⟩ | ⟨hc, a5, k5, p5, d5, rfl, htw⟩
  · have HC := Lib.hid hc
    have HEV := Lib.hid hev
    have HEQ := Lib.hid (runOf_bad hc)
    clear hc hev
    go_wp2_with fail
    refine (tellTube_bad 0 none 0 0 none 0 0 0 ev _ _ HEV.out HET2.out).mono ?_
    rintro e w3 ⟨rfl, hb⟩
    have HO3 := Lib.hid (nrow_below HO2.out hb)
    have HB3 : Hid (Below w.heap.size w w3) := HB2.out.trans (hb.mono HB2.out.size)
    clear hb
    obtain ⟨⟨o0, o1, o2, o3⟩, z0, z1, z2, z3⟩ := rowN4 HO3.out
    have hol := HO3.out.lt
    obtain ⟨c, hcc⟩ : ∃ c, c = (Tb.runOf m r l pl).1 := ⟨_, rfl⟩
    have HCC := Lib.hid hcc
    rw [← hcc]
    clear hcc
    go_wp2_with fail
    have zr := put4 HO3.out (.int .i64 0) (.slice none 0 0) (.slice none 0 0) (.int .i64 c)
    have zb := bel4 (g := w.heap.size + 1) HB3.out (by omega) (.int .i64 0) (.slice none 0 0) (.slice none 0 0) (.int .i64 c)
    generalize (((w3.setCell ⟨w.heap.size + 1, 0, none⟩ (.int .i64 0)).setCell ⟨w.heap.size + 1, 1, none⟩ (.slice none 0 0)).setCell ⟨w.heap.size + 1, 2, none⟩ (.slice none 0 0)).setCell ⟨w.heap.size + 1, 3, none⟩ (.int .i64 c) = Z at zr zb ⊢
    obtain ⟨⟨c0, c1, c2, c3⟩, _⟩ := rowN4 zr
    exact bodyPost_ret (v := toV 0 none 0 0 none 0 0 c) (by simp only [results, Tryd.results9]; simp [go_sem, c0, c1, c2, c3]) rfl ⟨by rw [HE.out, HEQ.out, ← HCC.out]; exact TuEnd.bad (by rw [HCC.out]; exact HC.out) _, zb⟩
  · obtain ⟨X, hX⟩ : ∃ X, X = Tb.runOf m r l pl := ⟨_, rfl⟩
    rw [← hX] at hc htw ⊢
    have HX := Lib.hid hX
    have HC := Lib.hid hc
    have HTW := Lib.hid htw
    clear hX hc htw
    go_wp2_with fail
    refine (tellTube_ok r a5 _ k5 p5 _ d5 0 _).mono ?_
    rintro e w3 ⟨rfl, hb⟩
    have HO3 := Lib.hid (nrow_below HO2.out hb)
    have HB3 : Hid (Below w.heap.size w w3) := HB2.out.trans (hb.mono HB2.out.size)
    have HT3 := Lib.hid (HTW.out.keep (fun k _ hk => hb.block k hk))
    clear hb
    obtain ⟨⟨o0, o1, o2, o3⟩, z0, z1, z2, z3⟩ := rowN4 HO3.out
    have hol := HO3.out.lt
    go_wp2_with fail
    have zr := put4 HO3.out (.int .i64 r) (.slice a5 X.2.1.length k5) (.slice p5 X.2.2.length d5) (.int .i64 0)
    have zb := bel4 (g := w.heap.size + 1) HB3.out (by omega) (.int .i64 r) (.slice a5 X.2.1.length k5) (.slice p5 X.2.2.length d5) (.int .i64 0)
    have zt := (HT3.out.keep (fun k hk _ => blk4 w3 (g := w.heap.size + 1) (by have := HO.out.lt; omega) (.int .i64 r) (.slice a5 X.2.1.length k5) (.slice p5 X.2.2.length d5) (.int .i64 0)))
    generalize (((w3.setCell ⟨w.heap.size + 1, 0, none⟩ (.int .i64 r)).setCell ⟨w.heap.size + 1, 1, none⟩ (.slice a5 X.2.1.length k5)).setCell ⟨w.heap.size + 1, 2, none⟩ (.slice p5 X.2.2.length d5)).setCell ⟨w.heap.size + 1, 3, none⟩ (.int .i64 0) = Z at zr zb zt ⊢
    obtain ⟨⟨c0, c1, c2, c3⟩, _⟩ := rowN4 zr
    refine bodyPost_ret (v := toV r a5 X.2.1.length k5 p5 X.2.2.length d5 0) (by simp only [results, Tryd.results9]; simp [go_sem, c0, c1, c2, c3]) rfl ⟨?_, zb⟩
    rw [HE.out, ← HX.out]
    refine ⟨a5, k5, p5, d5, ?_, zt.low (by have := HO.out.lt; omega)⟩
    unfold roomOf
    rw [if_pos HC.out, HC.out]
end Go.Proofs.YtjmnehlgefpheaaDoor
