/-
  The contracts of MixBatches, the program's and the model's.
-/
import Derived.Test.YtoeibcmmpbkbpaaDoorWkMy
import Derived.Test.YtoeibcmmpbkbpaaDoorWkS1
namespace Go.Proofs.YtoeibcmmpbkbpaaDoor
open Go.RowKit Go.Deep

theorem PaEnd.one {lo : Nat} {x : Wk.Bt} {W : World} {g : Nat} (h : InBlk g x.n x.f W) (hl : lo ≤ g) (kx : Nat) : PaEnd lo ⟨x, Wk.nil, 0⟩ (.returned (paV ⟨x, Wk.nil, 0⟩ (some ⟨g, 0, none⟩) kx none 0)) W :=
  ⟨_, _, _, _, rfl, Or.inr ⟨g, rfl, ⟨hl, h.lt⟩, h⟩, Or.inl ⟨rfl, rfl, rfl⟩, fun _ _ h => by cases h⟩
set_option maxRecDepth 100000 in
set_option maxHeartbeats 4000000 in
theorem implMix_any (a : Option Addr) (m cap : Nat) (bs : Nat → Be) (w : World) (h : BtsAt a m bs w) (_hm : m ≤ 4194304) (hn : ∀ i, i < m → (bs i).n ≤ 4194304) (hg : Et w ∧ TabOk w) :
    Calls Tryd.prog 26 #[.slice a m cap] w fun e w' => PaEnd w.heap.size (Wk.mix m (fun i => (bs i).b)) e w' ∧ Below w.heap.size w w' := by
  obtain ⟨W, hW⟩ : ∃ W, W = w.alloc (.cells #[.int .i64 0, .slice none 0 0, .int .i64 0, .slice none 0 0, .int .i64 0] 53) := ⟨_, rfl⟩
  have hB : Below w.heap.size w W := by rw [hW]; exact bel_alloc _ _
  have RO : W.rowIs w.heap.size 53 5 (rowL [.int .i64 0, .slice none 0 0, .int .i64 0, .slice none 0 0, .int .i64 0]) := by rw [hW]; exact rowL_alloc w [.int .i64 0, .slice none 0 0, .int .i64 0, .slice none 0 0, .int .i64 0] 53
  have HG := Lib.hid hg
  have HW := Lib.hid hW
  have HB := Lib.hid hB
  have HRO := Lib.hid RO
  have H := Lib.hid (h.below hB)
  have HN := Lib.hid hn
  clear hg hW hB RO h hn
  by_cases h4 : 400 < m
  · have hz4 : (400 : Int) < (m : Int) := by omega
    have hP : Wk.mix m (fun i => (bs i).b) = Wk.bad 2 := by unfold Wk.mix; rw [if_pos h4]
    rw [hP]
    clear hP
    go_enter Tryd.func26, Tryd.ntmps26
    go_wp2_with fail
    rw [← HW.out]
    refine (tellPair_bad 0 none 0 0 0 none 0 0 _ 2 _ (errIs_one _ _) (HG.out.1.below HB.out)).mono ?_
    rintro e W2 ⟨rfl, hb2⟩
    have HB2 : Hid (Below w.heap.size w W2) := HB.out.trans (hb2.mono HB.out.size)
    have HR2 := Lib.hid (wrow_below HRO.out hb2)
    clear hb2
    have o0 := HR2.out.cell (i := 0) (by omega)
    have z0 := HR2.out.frozen 0
    have o1 := HR2.out.cell (i := 1) (by omega)
    have z1 := HR2.out.frozen 1
    have o2 := HR2.out.cell (i := 2) (by omega)
    have z2 := HR2.out.frozen 2
    have o3 := HR2.out.cell (i := 3) (by omega)
    have z3 := HR2.out.frozen 3
    have o4 := HR2.out.cell (i := 4) (by omega)
    have z4 := HR2.out.frozen 4
    go_wp2_with fail
    refine bodyPost_ret (v := .agg #[.int .i64 0, .slice none 0 0, .int .i64 0, .slice none 0 0, .int .i64 2]) ?_ rfl ⟨PaEnd.bad _ _ _, below_put5 HB2.out (by omega) _ _ _ _ _⟩
    simp only [results, Tryd.results26]
    obtain ⟨x0, x1, x2, x3, x4⟩ := put5_cells HR2.out (.int .i64 0) (.slice none 0 0) (.int .i64 0) (.slice none 0 0) (.int .i64 2)
    simp [go_sem, x0, x1, x2, x3, x4]
  have hz4 : ¬ (400 : Int) < (m : Int) := by omega
  have H4 := Lib.hid h4
  have hm4 : m ≤ 400 := by omega
  clear h4
  go_enter Tryd.func26, Tryd.ntmps26
  go_wp2_with fail
  rw [← HW.out]
  refine (mixB_any a m cap bs _ H.out hm4 HN.out (tab_below HG.out.2 HB.out)).mono ?_
  rintro e W1 ⟨hE, hb1⟩
  have HB1 : Hid (Below w.heap.size w W1) := HB.out.trans (hb1.mono HB.out.size)
  have HR1 := Lib.hid (wrow_below HRO.out hb1)
  have hlt1 : w.heap.size < W1.heap.size := HR1.out.lt
  have hsW := HRO.out.lt
  clear hb1
  rcases hE with ⟨hok, hyes, g, rfl, hgl, hgb⟩ | hE
  · obtain ⟨S, hS⟩ : ∃ S, S = Wk.sumW (fun i => (bs i).b) m := ⟨_, rfl⟩
    obtain ⟨N, hN⟩ : ∃ N, N = (bs 0).n := ⟨_, rfl⟩
    have hP : Wk.mix m (fun i => (bs i).b) = ⟨⟨S, N, fun j => Wk.sumP (fun i => (bs i).b) j m⟩, Wk.nil, 0⟩ := by unfold Wk.mix; rw [if_neg H4.out, if_pos hok, if_pos hyes, hS, hN]; rfl
    have hgb' : InBlk g N (fun j => Wk.sumP (fun i => (bs i).b) j m) W1 := by rw [hN]; exact hgb
    have e0 : ((fun i => (bs i).b) 0).n = N := hN.symm
    rw [← hS, e0]
    have HP := Lib.hid hP
    have HGB := Lib.hid hgb'
    have HGL : Hid (w.heap.size < g) := by show w.heap.size < g; omega
    obtain ⟨W2, hW2⟩ : ∃ W2, W2 = W1.alloc (.cells #[.int .i64 S, .slice (some ⟨g, 0, none⟩) N N] 49) := ⟨_, rfl⟩
    have hb2 : Below W1.heap.size W1 W2 := by rw [hW2]; exact bel_alloc _ _
    have HB2 : Hid (Below w.heap.size w W2) := HB1.out.trans (hb2.mono HB1.out.size)
    have HR2 := Lib.hid (wrow_below HR1.out hb2)
    have HG2 := Lib.hid (HGB.out.below hb2)
    have HW2 := Lib.hid hW2
    clear hok hyes hgb hgb' hgl hS hN hP e0 hb2 hW2 hsW
    go_wp2_with fail
    rw [← HW2.out]
    refine (tellPair_ok S (some ⟨g, 0, none⟩) N N 0 none 0 0 _).mono ?_
    rintro e W3 ⟨rfl, hb3⟩
    have HB3 : Hid (Below w.heap.size w W3) := HB2.out.trans (hb3.mono HB2.out.size)
    have HR3 := Lib.hid (wrow_below HR2.out hb3)
    have HG3 := Lib.hid (HG2.out.below hb3)
    clear hb3
    have o0 := HR3.out.cell (i := 0) (by omega)
    have z0 := HR3.out.frozen 0
    have o1 := HR3.out.cell (i := 1) (by omega)
    have z1 := HR3.out.frozen 1
    have o2 := HR3.out.cell (i := 2) (by omega)
    have z2 := HR3.out.frozen 2
    have o3 := HR3.out.cell (i := 3) (by omega)
    have z3 := HR3.out.frozen 3
    have o4 := HR3.out.cell (i := 4) (by omega)
    have z4 := HR3.out.frozen 4
    go_wp2_with fail
    have hgl := HGL.out
    refine bodyPost_ret (v := .agg #[.int .i64 S, .slice (some ⟨g, 0, none⟩) N N, .int .i64 0, .slice none 0 0, .int .i64 0]) ?_ rfl ⟨by rw [HP.out]; exact PaEnd.one (x := ⟨S, N, fun j => Wk.sumP (fun i => (bs i).b) j m⟩) (HG3.out.block (put5_far _ (show g ≠ w.heap.size by omega) _ _ _ _ _)) (by omega) N, below_put5 HB3.out (by omega) _ _ _ _ _⟩
    simp only [results, Tryd.results26]
    obtain ⟨x0, x1, x2, x3, x4⟩ := put5_cells HR3.out (.int .i64 S) (.slice (some ⟨g, 0, none⟩) N N) (.int .i64 0) (.slice none 0 0) (.int .i64 0)
    simp [go_sem, x0, x1, x2, x3, x4]
  · obtain ⟨c, hP, er, rfl, her⟩ : ∃ c, Wk.mix m (fun i => (bs i).b) = Wk.bad c ∧ ∃ er, e = .returned (.tuple #[nilB, er]) ∧ ErrIs er c := by
      rcases hE with ⟨hok, hno, er, e1, h1⟩ | ⟨hno, er, e1, h1⟩
      · exact ⟨5, by unfold Wk.mix; rw [if_neg H4.out, if_pos hok, if_neg hno], er, e1, h1⟩
      · exact ⟨1, by unfold Wk.mix; rw [if_neg H4.out, if_neg hno], er, e1, h1⟩
    have HP := Lib.hid hP
    have HER := Lib.hid her
    clear hE hP her
    obtain ⟨W2, hW2⟩ : ∃ W2, W2 = W1.alloc (.cells #[.int .i64 0, .slice none 0 0] 49) := ⟨_, rfl⟩
    have hb2 : Below W1.heap.size W1 W2 := by rw [hW2]; exact bel_alloc _ _
    have HB2 : Hid (Below w.heap.size w W2) := HB1.out.trans (hb2.mono HB1.out.size)
    have HR2 := Lib.hid (wrow_below HR1.out hb2)
    have HW2 := Lib.hid hW2
    clear hb2 hW2 hsW
    go_wp2_with fail
    rw [← HW2.out]
    refine (tellPair_bad 0 none 0 0 0 none 0 0 er c _ HER.out (HG.out.1.below HB2.out)).mono ?_
    rintro e W3 ⟨rfl, hb3⟩
    have HB3 : Hid (Below w.heap.size w W3) := HB2.out.trans (hb3.mono HB2.out.size)
    have HR3 := Lib.hid (wrow_below HR2.out hb3)
    clear hb3
    have o0 := HR3.out.cell (i := 0) (by omega)
    have z0 := HR3.out.frozen 0
    have o1 := HR3.out.cell (i := 1) (by omega)
    have z1 := HR3.out.frozen 1
    have o2 := HR3.out.cell (i := 2) (by omega)
    have z2 := HR3.out.frozen 2
    have o3 := HR3.out.cell (i := 3) (by omega)
    have z3 := HR3.out.frozen 3
    have o4 := HR3.out.cell (i := 4) (by omega)
    have z4 := HR3.out.frozen 4
    go_wp2_with fail
    refine bodyPost_ret (v := .agg #[.int .i64 0, .slice none 0 0, .int .i64 0, .slice none 0 0, .int .i64 c]) ?_ rfl ⟨by rw [HP.out]; exact PaEnd.bad _ _ _, below_put5 HB3.out (by omega) _ _ _ _ _⟩
    simp only [results, Tryd.results26]
    obtain ⟨x0, x1, x2, x3, x4⟩ := put5_cells HR3.out (.int .i64 0) (.slice none 0 0) (.int .i64 0) (.slice none 0 0) (.int .i64 c)
    simp [go_sem, x0, x1, x2, x3, x4]
end Go.Proofs.YtoeibcmmpbkbpaaDoor
