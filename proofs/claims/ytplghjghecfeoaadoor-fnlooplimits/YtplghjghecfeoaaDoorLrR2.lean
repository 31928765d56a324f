/-
  The program's LoopRun.
-/
import Derived.Test.YtplghjghecfeoaaDoorLrR1
namespace Go.Proofs.YtplghjghecfeoaaDoor
open Go.RowKit Go.Deep

attribute [local go_sem] lrun_store_float lrun_store_complex
/-- What a loop's run is to tell: a code, and two lists where it is OK. -/
def LoEnd (lo : Nat) (l : Fl.Lo) (start n : Nat) (f : Nat → Nat) (e : Ending) (W : World) : Prop :=
  ∃ v1 v2, e = .returned (.agg #[v1, v2, .int .i64 (Fl.loopCode l start n f)]) ∧ Two lo v1 (Fl.loopLen l start n f) (Fl.vals l start f) v2 (Fl.loopLen l start n f) (Fl.drvs l start f) W
theorem loEnd_bad {lo : Nat} {l : Fl.Lo} {start n : Nat} {f : Nat → Nat} {W : World} {c : Int} (h : Fl.loopCode l start n f = c) (h0 : c ≠ 0) : LoEnd lo l start n f (.returned (.agg #[nilS, nilS, .int .i64 c])) W := by
  refine ⟨nilS, nilS, by rw [h], ?_⟩
  have : Fl.loopLen l start n f = 0 := by unfold Fl.loopLen; rw [h, if_neg h0]
  rw [this]
  exact Two.nil _ _ _ _
theorem loEnd_ok {lo : Nat} {l : Fl.Lo} {start n : Nat} {f : Nat → Nat} {W : World} {v1 v2 : Value} (h : Fl.loopCode l start n f = 0) (hT : Two lo v1 n (Fl.vals l start f) v2 n (Fl.drvs l start f) W) : LoEnd lo l start n f (.returned (.agg #[v1, v2, .int .i64 0])) W := by
  refine ⟨v1, v2, by rw [h], ?_⟩
  have : Fl.loopLen l start n f = n := by unfold Fl.loopLen; rw [h, if_pos rfl]
  rw [this]
  exact hT
theorem code_size {l : Fl.Lo} {start n : Nat} {f : Nat → Nat} (h : 200 < n) : Fl.loopCode l start n f = 2 := by unfold Fl.loopCode; rw [if_pos h]
theorem code_form {l : Fl.Lo} {start n : Nat} {f : Nat → Nat} (h : ¬ 200 < n) (h2 : Fl.loopOk l start n f = false) : Fl.loopCode l start n f = 1 := by unfold Fl.loopCode; rw [if_neg h, h2]; rfl
theorem code_over {l : Fl.Lo} {start n : Nat} {f : Nat → Nat} (h : ¬ 200 < n) (h2 : Fl.loopOk l start n f = true) (h3 : Fl.okTo l start f n = false) : Fl.loopCode l start n f = 5 := by unfold Fl.loopCode; rw [if_neg h, h2, h3]; rfl
theorem code_ok {l : Fl.Lo} {start n : Nat} {f : Nat → Nat} (h : ¬ 200 < n) (h2 : Fl.loopOk l start n f = true) (h3 : Fl.okTo l start f n = true) : Fl.loopCode l start n f = 0 := by unfold Fl.loopCode; rw [if_neg h, h2, h3]; rfl
theorem two_form {lo : Nat} {v1 : Value} {n1 : Nat} {f1 : Nat → Nat} {v2 : Value} {n2 : Nat} {f2 : Nat → Nat} {W : World} (h : Two lo v1 n1 f1 v2 n2 f2 W) : (v1 = nilS ∨ ∃ g k, v1 = .slice (some ⟨g, 0, none⟩) n1 k) ∧ (v2 = nilS ∨ ∃ g k, v2 = .slice (some ⟨g, 0, none⟩) n2 k) := by
  constructor
  · rcases h.one.form with ⟨e, _⟩ | ⟨g, k, e, _⟩
    · exact Or.inl e
    · exact Or.inr ⟨g, k, e⟩
  · rcases h.two.form with ⟨e, _⟩ | ⟨g, k, e, _⟩
    · exact Or.inl e
    · exact Or.inr ⟨g, k, e⟩
set_option maxRecDepth 100000 in
set_option maxHeartbeats 2000000 in
theorem tellLoop_err (er : Value) (c : Int) (w : World) (he : ErrIs er c) (hg : Et w) :
    Calls Tryd.prog 24 #[.agg #[nilS, nilS, .int .i64 0], er] w fun e w' => e = .returned (.agg #[nilS, nilS, .int .i64 c]) ∧ Below w.heap.size w w' := by
  obtain ⟨y, rfl, hy⟩ := he
  obtain ⟨W, hW⟩ : ∃ W, W = (w.alloc (.cells #[nilS, nilS, .int .i64 0] 30)).alloc (.cells #[nilS, nilS, .int .i64 0] 30) := ⟨_, rfl⟩
  have HB : Hid (Below w.heap.size w W) := by show Below _ _ _; rw [hW]; exact (bel_alloc _ _).alloc (by simp) _
  have HR : Hid (W.rowIs (w.heap.size + 1) 30 3 (rowL (outL nilS nilS 0))) := by show World.rowIs _ _ _ _ _; rw [hW]; exact rowL_alloc' (by simp) (outL nilS nilS 0) _
  have HW := Lib.hid hW
  have HG := Lib.hid hg
  have HY := Lib.hid hy
  clear hW hg hy
  go_enter Tryd.func24, Tryd.ntmps24
  go_wp2_with fail
  rw [← HW.out]
  clear HW
  refine (codeOf_any y c HY.out _ (HG.out.below HB.out)).mono ?_
  rintro e w1 ⟨rfl, hb⟩
  replace HR := Lib.hid (wrow_below HR.out hb)
  replace HB : Hid (Below w.heap.size w w1) := HB.out.trans (hb.mono HB.out.size)
  clear hb
  obtain ⟨⟨o0, o1, o2⟩, z0, z1, z2⟩ := row3_cells HR.out
  have l0 := HR.out.lt
  go_wp2_with fail
  exact bodyPost_ret (v := .agg #[nilS, nilS, .int .i64 c]) (by simp [results, Tryd.results24, go_sem, o0, o1, o2]) rfl ⟨rfl, lbelow_set3 HB.out (by omega) _ _ _⟩
set_option maxRecDepth 100000 in
set_option maxHeartbeats 2000000 in
theorem tellLoop_ok (v1 v2 : Value) (n1 n2 : Nat) (w : World) (h1 : v1 = nilS ∨ ∃ g k, v1 = .slice (some ⟨g, 0, none⟩) n1 k) (h2 : v2 = nilS ∨ ∃ g k, v2 = .slice (some ⟨g, 0, none⟩) n2 k) :
    Calls Tryd.prog 24 #[.agg #[v1, v2, .int .i64 0], .nilIface] w fun e w' => e = .returned (.agg #[v1, v2, .int .i64 0]) ∧ Below w.heap.size w w' := by
  rcases h1 with rfl | ⟨g1, k1, rfl⟩ <;> rcases h2 with rfl | ⟨g2, k2, rfl⟩
  all_goals
    go_enter Tryd.func24, Tryd.ntmps24
    go_wp2_with fail
    exact bodyPost_ret (v := _) (by simp [results, Tryd.results24, go_sem]) rfl ⟨rfl, (bel_alloc _ _).alloc (by simp) _⟩
set_option maxRecDepth 100000 in
set_option maxHeartbeats 4000000 in
theorem implLoop_any (l : Fl.Lo) (start : Nat) (a : Option Addr) (n cap : Nat) (f : Nat → Nat) (w : World) (h : FlAt a n f w) (ht : TabOk w) (hg : Et w) :
    Calls Tryd.prog 7 #[loV l, .float .f64 start, .slice a n cap] w fun e w' => LoEnd w.heap.size l start n f e w' ∧ Below w.heap.size w w' := by
  obtain ⟨W, hW⟩ : ∃ W, W = (w.alloc (.cells #[.float .f64 l.up, .float .f64 l.sum, .float .f64 l.gain, .float .f64 l.lag, .float .f64 l.low, .float .f64 l.high] 25)).alloc (.cells #[nilS, nilS, .int .i64 0] 30) := ⟨_, rfl⟩
  have HB : Hid (Below w.heap.size w W) := by show Below _ _ _; rw [hW]; exact (bel_alloc _ _).alloc (by simp) _
  have HX : Hid (W.rowIs w.heap.size 25 6 (rowL (loL l))) := by show World.rowIs _ _ _ _ _; rw [hW]; exact wrow_below (rowL_alloc w (loL l) _) (bel_alloc _ _)
  have HR : Hid (W.rowIs (w.heap.size + 1) 30 3 (rowL (outL nilS nilS 0))) := by show World.rowIs _ _ _ _ _; rw [hW]; exact rowL_alloc' (by simp) (outL nilS nilS 0) _
  have HZ : Hid (w.heap.size + 1 < W.heap.size) := HR.out.lt
  have HW := Lib.hid hW
  have H := Lib.hid h
  have HT := Lib.hid ht
  have HG := Lib.hid hg
  clear hW h ht hg
  by_cases hbig : 200 < n
  · have hz : (200 : Int) < (n : Int) := by omega
    have HC := Lib.hid (code_size (l := l) (start := start) (f := f) hbig)
    go_enter Tryd.func7, Tryd.ntmps7
    go_wp2_with fail
    rw [← HW.out]
    clear HW
    refine (tellLoop_err _ 2 _ (errIs_one _ _) (HG.out.below HB.out)).mono ?_
    rintro e w1 ⟨rfl, hb⟩
    replace HR := Lib.hid (wrow_below HR.out hb)
    replace HB : Hid (Below w.heap.size w w1) := HB.out.trans (hb.mono HB.out.size)
    clear hb
    obtain ⟨⟨o0, o1, o2⟩, z0, z1, z2⟩ := row3_cells HR.out
    have l0 := HR.out.lt
    go_wp2_with fail
    exact bodyPost_ret (v := .agg #[nilS, nilS, .int .i64 2]) (by simp [results, Tryd.results7, go_sem, o0, o1, o2]) rfl ⟨loEnd_bad HC.out (by decide), lbelow_set3 HB.out (by omega) _ _ _⟩
  have hz : ¬ (200 : Int) < (n : Int) := by omega
  have HN := Lib.hid hbig
  clear hbig
  go_enter Tryd.func7, Tryd.ntmps7
  obtain ⟨⟨x0, x1, x2⟩, x3, x4, x5⟩ := row6_cells HX.out
  go_wp2_with fail
  rw [← HW.out]
  clear HW x0 x1 x2 x3 x4 x5
  refine (runLoop_any l start a n cap f _ (H.out.below HB.out) (by have := HN.out; omega) (tab_below HT.out HB.out)).mono ?_
  rintro e w1 ⟨hE, hb⟩
  have HS := Lib.hid hb.size
  replace HR := Lib.hid (wrow_below HR.out hb)
  replace HB : Hid (Below w.heap.size w w1) := HB.out.trans (hb.mono HB.out.size)
  clear hb
  by_cases hok : Fl.loopOk l start n f = true
  · by_cases hto : Fl.okTo l start f n = true
    · have HC := Lib.hid (code_ok HN.out hok hto)
      obtain ⟨v1, v2, rfl, hT⟩ := hE.2.2 hok hto
      have HTW := Lib.hid hT
      obtain ⟨hf1, hf2⟩ := two_form hT
      have HF1 := Lib.hid hf1
      have HF2 := Lib.hid hf2
      clear hE hT hf1 hf2 hok hto
      go_wp2_with fail
      refine (tellLoop_ok v1 v2 n n _ HF1.out HF2.out).mono ?_
      rintro e w2 ⟨rfl, hb⟩
      replace HTW := Lib.hid (HTW.out.below hb)
      replace HR := Lib.hid (wrow_below HR.out hb)
      replace HB : Hid (Below w.heap.size w w2) := HB.out.trans (hb.mono HB.out.size)
      clear hb
      obtain ⟨⟨o0, o1, o2⟩, z0, z1, z2⟩ := row3_cells HR.out
      have l0 := HR.out.lt
      have HEND : Hid (LoEnd w.heap.size l start n f (.returned (.agg #[v1, v2, .int .i64 0])) (((w2.setCell ⟨w.heap.size + 1, 0, none⟩ v1).setCell ⟨w.heap.size + 1, 1, none⟩ v2).setCell ⟨w.heap.size + 1, 2, none⟩ (.int .i64 0)) ∧ Below w.heap.size w (((w2.setCell ⟨w.heap.size + 1, 0, none⟩ v1).setCell ⟨w.heap.size + 1, 1, none⟩ v2).setCell ⟨w.heap.size + 1, 2, none⟩ (.int .i64 0))) := by
        have hz2 := HZ.out
        refine ⟨loEnd_ok HC.out ?_, lbelow_set3 HB.out (by omega) _ _ _⟩
        exact (((HTW.out.set (a := ⟨w.heap.size + 1, 0, none⟩) (by show w.heap.size + 1 < _; omega) _).set (a := ⟨w.heap.size + 1, 1, none⟩) (by show w.heap.size + 1 < _; omega) _).set (a := ⟨w.heap.size + 1, 2, none⟩) (by show w.heap.size + 1 < _; omega) _).lower (by omega)
      have hf1 := HF1.out
      have hf2 := HF2.out
      clear HF1 HF2 HTW
      rcases hf1 with rfl | ⟨g1, k1, rfl⟩ <;> rcases hf2 with rfl | ⟨g2, k2, rfl⟩
      all_goals
        go_wp2_with fail
        exact bodyPost_ret (v := _) (by simp [results, Tryd.results7, go_sem, o0, o1, o2]) rfl HEND.out
    · have hto' : Fl.okTo l start f n = false := by simpa using hto
      have HC := Lib.hid (code_over HN.out hok hto')
      obtain ⟨er, rfl, he⟩ := hE.2.1 hok hto'
      have HE := Lib.hid he
      clear hE he hok hto hto'
      go_wp2_with fail
      refine (tellLoop_err er 5 _ HE.out (HG.out.below HB.out)).mono ?_
      rintro e w2 ⟨rfl, hb⟩
      replace HR := Lib.hid (wrow_below HR.out hb)
      replace HB : Hid (Below w.heap.size w w2) := HB.out.trans (hb.mono HB.out.size)
      clear hb
      obtain ⟨⟨o0, o1, o2⟩, z0, z1, z2⟩ := row3_cells HR.out
      have l0 := HR.out.lt
      go_wp2_with fail
      exact bodyPost_ret (v := .agg #[nilS, nilS, .int .i64 5]) (by simp [results, Tryd.results7, go_sem, o0, o1, o2]) rfl ⟨loEnd_bad HC.out (by decide), lbelow_set3 HB.out (by omega) _ _ _⟩
  · have hok' : Fl.loopOk l start n f = false := by simpa using hok
    have HC := Lib.hid (code_form HN.out hok')
    obtain ⟨er, rfl, he⟩ := hE.1 hok'
    have HE := Lib.hid he
    clear hE he hok hok'
    go_wp2_with fail
    refine (tellLoop_err er 1 _ HE.out (HG.out.below HB.out)).mono ?_
    rintro e w2 ⟨rfl, hb⟩
    replace HR := Lib.hid (wrow_below HR.out hb)
    replace HB : Hid (Below w.heap.size w w2) := HB.out.trans (hb.mono HB.out.size)
    clear hb
    obtain ⟨⟨o0, o1, o2⟩, z0, z1, z2⟩ := row3_cells HR.out
    have l0 := HR.out.lt
    go_wp2_with fail
    exact bodyPost_ret (v := .agg #[nilS, nilS, .int .i64 1]) (by simp [results, Tryd.results7, go_sem, o0, o1, o2]) rfl ⟨loEnd_bad HC.out (by decide), lbelow_set3 HB.out (by omega) _ _ _⟩
end Go.Proofs.YtplghjghecfeoaaDoor
