/-
  The law FnCnums.
-/
import Derived.Test.YthcgffnkpeiddaaLpS1
import Derived.Test.YthcgffnkpeiddaaLpDr
namespace Go.Proofs.Ythcgffnkpeiddaa
open Go.RowKit Go.Deep

attribute [local go_sem] lrun_store_float lrun_store_complex
namespace Fl
open Ieee
theorem mulW_comm (x y : Nat) : mulW x y = mulW y x := by unfold mulW; rw [mul_comm]
theorem addW_comm (x y : Nat) : addW x y = addW y x := by unfold addW; rw [add_comm]
theorem mulRe_comm (a b c d : Nat) : mulRe c d a b = mulRe a b c d := by
  unfold mulRe cRe
  rw [Bool.and_comm, mulW_comm c a, mulW_comm d b]
theorem mulIm_comm (a b c d : Nat) : mulIm c d a b = mulIm a b c d := by
  unfold mulIm cIm
  rw [Bool.and_comm, mulW_comm c b, mulW_comm d a, addW_comm]
theorem signed_not (s : Bool) (m u : Nat) : signed (!s) m u = -signed s m u := by
  unfold signed
  cases s
  · rw [if_pos (by decide), if_neg (by decide)]
  · rw [if_neg (by decide), if_pos (by decide)]; simp
theorem cmp_neg (a b : Int) : compare (-a) (-b) = (compare a b).swap := by
  rw [Int.compare_swap]
  rcases Int.lt_trichotomy a b with h | h | h
  · rw [Int.compare_eq_gt.2 (show -b < -a by omega), Int.compare_eq_gt.2 h]
  · subst h; rw [Int.compare_eq_eq.2 rfl, Int.compare_eq_eq.2 rfl]
  · rw [Int.compare_eq_lt.2 (show -a < -b by omega), Int.compare_eq_lt.2 h]
theorem order_opp (d e : Datum) : d.opposite.order e.opposite = (d.order e).map Ordering.swap := by
  cases d with
  | nan s f => cases e <;> rfl
  | infinity s =>
    cases e with
    | nan t f => rfl
    | infinity t => cases s <;> cases t <;> rfl
    | number t n j => cases s <;> rfl
  | number s m i =>
    cases e with
    | nan t f => rfl
    | infinity t => cases t <;> rfl
    | number t n j =>
      show some (compare (signed (!s) m _) (signed (!t) n _)) = some (Ordering.swap _)
      rw [signed_not, signed_not, cmp_neg]
theorem lo_hi : double.read 13965043853221167104 = (double.read 4741671816366391296).opposite := by rw [lo_read, hi_read]; rfl
theorem hi_lo : double.read 4741671816366391296 = (double.read 13965043853221167104).opposite := by rw [lo_read, hi_read]; rfl
theorem meas_ng (x : Nat) : measB (ng x) = measB x := by
  have h1 : FloatKind.f64.format.order (ng x) 13965043853221167104 = (FloatKind.f64.format.order x 4741671816366391296).map Ordering.swap := by
    show (double.read (ng x)).order (double.read 13965043853221167104) = ((double.read x).order (double.read 4741671816366391296)).map _
    rw [read_ng, lo_hi, order_opp]
  have h2 : FloatKind.f64.format.order (ng x) 4741671816366391296 = (FloatKind.f64.format.order x 13965043853221167104).map Ordering.swap := by
    show (double.read (ng x)).order (double.read 4741671816366391296) = ((double.read x).order (double.read 13965043853221167104)).map _
    rw [read_ng, hi_lo, order_opp]
  unfold measB
  rw [h1, h2]
  generalize FloatKind.f64.format.order x 4741671816366391296 = p
  generalize FloatKind.f64.format.order x 13965043853221167104 = q
  rcases p with _ | p <;> rcases q with _ | q <;> (try cases p) <;> (try cases q) <;> rfl
theorem size_ng1 (a b : Nat) : sizeA (ng a) b = sizeA a b := by
  unfold sizeA rightB szW mulW
  rw [meas_ng, mul_ng_ng]
theorem size_ng2 (a b : Nat) : sizeA a (ng b) = sizeA a b := by
  unfold sizeA rightB szW mulW
  rw [meas_ng, mul_ng_ng]
end Fl
set_option maxHeartbeats 400000 in
theorem lwSame_any (x : Nat) (w : World) :
    Calls Try.prog 25 #[.float .f64 x, .float .f64 x] w fun e w' => e = .returned (.bool true) ∧ w' = w := by
  by_cases h1 : FloatKind.f64.format.order x x = some .eq
  · by_cases h2 : FloatKind.f64.format.order x 0 = some .eq
    · obtain ⟨r, hr⟩ := Fl.div_zero x h2
      have hq := fun (wx : World) => run_float_arith (P := Try.prog) (w := wx) .quo 22 .f64 4607182418800017408 x r hr
      clear hr
      go_enter Try.func25, Try.ntmps25
      go_wp2
      go_ret
      exact ⟨rfl, rfl⟩
    · go_enter Try.func25, Try.ntmps25
      go_wp2
      go_ret
      exact ⟨rfl, rfl⟩
  · have h1' : (FloatKind.f64.format.order x x != some .eq) = true := by simpa using h1
    go_enter Try.func25, Try.ntmps25
    go_wp2
    go_ret
    exact ⟨rfl, rfl⟩
set_option maxRecDepth 100000 in
set_option maxHeartbeats 2000000 in
theorem drawCn_any (a : Option Addr) (len cap : Nat) (w : World) (h : Bytes a len w) (hl : len ≤ 4194304) :
    Calls Try.prog 23 #[.slice a len cap] w fun e w' => (∃ x y u v, e = .returned (.tuple #[cnV x y, cnV u v])) ∧ Below w.heap.size w w' := by
  obtain ⟨W, hW⟩ : ∃ W, W = (w.alloc (.cells #[.float .f64 0, .float .f64 0] 33)).alloc (.cells #[.float .f64 0, .float .f64 0] 33) := ⟨_, rfl⟩
  have HB : Hid (Below w.heap.size w W) := by show Below _ _ _; rw [hW]; exact (bel_alloc _ _).alloc (by simp) _
  have HR0 : Hid (W.rowIs w.heap.size 33 2 (rowL (cnL 0 0))) := by show World.rowIs _ _ _ _ _; rw [hW]; exact wrow_below (rowL_alloc w (cnL 0 0) _) (bel_alloc _ _)
  have HR1 : Hid (W.rowIs (w.heap.size + 1) 33 2 (rowL (cnL 0 0))) := by show World.rowIs _ _ _ _ _; rw [hW]; exact rowL_alloc' (by simp) (cnL 0 0) _
  have HBY := Lib.hid h
  have HL := Lib.hid hl
  have HW := Lib.hid hW
  clear h hl hW
  go_enter Try.func23, Try.ntmps23
  go_wp2_with fail
  rw [← HW.out]
  clear HW
  refine (two_any a len cap _ (HBY.out.below HB.out) HL.out).mono ?_
  rintro e w1 ⟨⟨x, y, u, v, rfl⟩, hb⟩
  replace HR0 := Lib.hid (wrow_below HR0.out hb)
  replace HR1 := Lib.hid (wrow_below HR1.out hb)
  replace HB : Hid (Below w.heap.size w w1) := HB.out.trans (hb.mono HB.out.size)
  clear hb
  have HF := Lib.hid (four_set (x := x) (y := y) (u := u) (v := v) (w := w) (by omega : w.heap.size ≠ w.heap.size + 1) (Nat.le_refl _) (by omega) HR0.out HR1.out HB.out)
  obtain ⟨c0, c1, f0, f1, l0⟩ := told2 HR0.out
  obtain ⟨d0, d1, e0, e1, l1⟩ := told2 HR1.out
  clear HR0 HR1 HB
  go_wp2_with fail
  clear c0 c1 f0 f1 l0 d0 d1 e0 e1 l1
  obtain ⟨c0, c1, f0, f1, l0⟩ := told2 HF.out.2.2.2.1
  obtain ⟨d0, d1, e0, e1, l1⟩ := told2 HF.out.2.2.2.2.1
  exact bodyPost_ret (v := .tuple #[cnV x y, cnV u v]) (by simp [results, Try.results23, go_sem, c0, c1, d0, d1]) rfl ⟨⟨x, y, u, v, rfl⟩, HF.out.2.2.2.2.2⟩
set_option maxRecDepth 100000 in
set_option maxHeartbeats 4000000 in
theorem cnums_law (w : World) (a : Option Addr) (len cap : Nat) (h : Bytes a len w) (_hl : len ≤ 9223372036854775807) :
    Calls Try.prog 7 #[.slice a len cap] w fun e w' => e = .returned (.bool true) ∧ Below w.heap.size w w' := by
  clear _hl
  have hm := fun x => neg_run x
  by_cases hbig : 1048576 < len
  · have hz : (1048576 : Int) < (len : Int) := by omega
    clear h
    go_enter Try.func7, Try.ntmps7
    go_wp2_with fail
    go_ret
    exact ⟨rfl, Below.refl _ _⟩
  have hz : ¬ (1048576 : Int) < (len : Int) := by omega
  have HBY := Lib.hid h
  have HL : Hid (len ≤ 4194304) := by show _ ≤ _; omega
  clear h hbig
  go_enter Try.func7, Try.ntmps7
  go_wp2_with fail
  refine (drawCn_any a len cap _ HBY.out HL.out).mono ?_
  rintro e w1 ⟨⟨x, y, u, v, rfl⟩, hb⟩
  obtain ⟨W, hW⟩ : ∃ W, W = (w1.alloc (.cells #[.float .f64 x, .float .f64 y] 33)).alloc (.cells #[.float .f64 u, .float .f64 v] 33) := ⟨_, rfl⟩
  have hb0 : Below w1.heap.size w1 W := by rw [hW]; exact (bel_alloc _ _).alloc (by simp) _
  have HB : Hid (Below w.heap.size w W) := hb.trans (hb0.mono hb.size)
  obtain ⟨g3, hg3⟩ : ∃ g3, g3 = w1.heap.size := ⟨_, rfl⟩
  have HR3 : Hid (W.rowIs g3 33 2 (rowL (cnL x y))) := by show World.rowIs _ _ _ _ _; rw [hW]; exact wrow_below (rowL_alloc' hg3.symm (cnL x y) _) (bel_alloc _ _)
  have HR4 : Hid (W.rowIs (g3 + 1) 33 2 (rowL (cnL u v))) := by show World.rowIs _ _ _ _ _; rw [hW]; exact rowL_alloc' (by simp [hg3]) (cnL u v) _
  have HW := Lib.hid hW
  have HG := Lib.hid hg3
  clear hb hb0 hW hg3
  have HX := fun wx => implMul_any x y u v wx
  have HY := fun wx => implMul_any u v x y wx
  have HS := fun wx => implSize_any x y wx
  have HT := fun wx => specSize_any x y wx
  have HU := fun wx => implSize_any (Fl.ng x) y wx
  have HV := fun wx => implSize_any x (Fl.ng y) wx
  rw [Fl.size_ng1] at HU
  rw [Fl.size_ng2] at HV
  rw [Fl.mulRe_comm, Fl.mulIm_comm] at HY
  generalize Fl.mulRe x y u v = X at HX HY
  generalize Fl.mulIm x y u v = Y at HX HY
  generalize Fl.sizeA x y = Q at HS HT HU HV
  have HX' := Lib.hid HX
  have HY' := Lib.hid HY
  have HS' := Lib.hid HS
  have HT' := Lib.hid HT
  have HU' := Lib.hid HU
  have HV' := Lib.hid HV
  clear HX HY HS HT HU HV
  go_wp2_with fail
  rw [← HG.out, ← HW.out]
  clear HW HG
  refine (HX'.out _).mono ?_
  rintro e w2 ⟨rfl, hb⟩
  replace HB : Hid (Below w.heap.size w w2) := HB.out.trans (hb.mono HB.out.size)
  replace HR3 := Lib.hid (wrow_below HR3.out hb)
  replace HR4 := Lib.hid (wrow_below HR4.out hb)
  clear hb
  obtain ⟨⟨p0, p1⟩, _⟩ := row2_cells HR3.out
  obtain ⟨⟨q0, q1⟩, _⟩ := row2_cells HR4.out
  have l3 : g3 + 1 < w2.heap.size := HR4.out.lt
  have l3' : g3 < w2.heap.size := HR3.out.lt
  obtain ⟨W2, hW2⟩ : ∃ W2, W2 = w2.alloc (.cells #[.float .f64 X, .float .f64 Y] 33) := ⟨_, rfl⟩
  have hb : Below w2.heap.size w2 W2 := by rw [hW2]; exact bel_alloc _ _
  obtain ⟨g5, hg5⟩ : ∃ g5, g5 = w2.heap.size := ⟨_, rfl⟩
  have HR5 : Hid (W2.rowIs g5 33 2 (rowL (cnL X Y))) := by show World.rowIs _ _ _ _ _; rw [hW2]; exact rowL_alloc' hg5.symm (cnL X Y) _
  replace HB : Hid (Below w.heap.size w W2) := HB.out.trans (hb.mono HB.out.size)
  replace HR3 := Lib.hid (wrow_below HR3.out hb)
  replace HR4 := Lib.hid (wrow_below HR4.out hb)
  have HW := Lib.hid hW2
  have HG := Lib.hid hg5
  clear hb hW2 hg5
  go_wp2_with fail
  rw [← HG.out, ← HW.out]
  clear HW HG p0 p1 q0 q1 l3 l3'
  refine (HY'.out _).mono ?_
  rintro e w3 ⟨rfl, hb⟩
  replace HB : Hid (Below w.heap.size w w3) := HB.out.trans (hb.mono HB.out.size)
  replace HR3 := Lib.hid (wrow_below HR3.out hb)
  replace HR4 := Lib.hid (wrow_below HR4.out hb)
  replace HR5 := Lib.hid (wrow_below HR5.out hb)
  clear hb
  obtain ⟨⟨p0, p1⟩, _⟩ := row2_cells HR5.out
  have l5 : g5 < w3.heap.size := HR5.out.lt
  obtain ⟨W3, hW3⟩ : ∃ W3, W3 = w3.alloc (.cells #[.float .f64 X, .float .f64 Y] 33) := ⟨_, rfl⟩
  have hb : Below w3.heap.size w3 W3 := by rw [hW3]; exact bel_alloc _ _
  obtain ⟨g6, hg6⟩ : ∃ g6, g6 = w3.heap.size := ⟨_, rfl⟩
  have HR6 : Hid (W3.rowIs g6 33 2 (rowL (cnL X Y))) := by show World.rowIs _ _ _ _ _; rw [hW3]; exact rowL_alloc' hg6.symm (cnL X Y) _
  replace HB : Hid (Below w.heap.size w W3) := HB.out.trans (hb.mono HB.out.size)
  replace HR3 := Lib.hid (wrow_below HR3.out hb)
  replace HR4 := Lib.hid (wrow_below HR4.out hb)
  replace HR5 := Lib.hid (wrow_below HR5.out hb)
  have HW := Lib.hid hW3
  have HG := Lib.hid hg6
  clear hb hW3 hg6
  go_wp2_with fail
  rw [← HG.out, ← HW.out]
  clear HW HG p0 p1 l5
  refine (lwSame_any _ _).mono ?_
  rintro e wa ⟨rfl, rfl⟩
  obtain ⟨⟨p0, p1⟩, _⟩ := row2_cells HR5.out
  obtain ⟨⟨q0, q1⟩, _⟩ := row2_cells HR6.out
  go_wp2_with fail
  clear p0 p1 q0 q1
  refine (lwSame_any _ _).mono ?_
  rintro e wb ⟨rfl, rfl⟩
  obtain ⟨⟨p0, p1⟩, _⟩ := row2_cells HR3.out
  go_wp2_with fail
  clear p0 p1
  clear HR5 HR6
  refine (HS'.out _).mono ?_
  rintro e w4 ⟨rfl, hb⟩
  replace HB : Hid (Below w.heap.size w w4) := HB.out.trans (hb.mono HB.out.size)
  replace HR3 := Lib.hid (wrow_below HR3.out hb)
  clear hb
  obtain ⟨⟨p0, p1⟩, _⟩ := row2_cells HR3.out
  go_wp2_with fail
  clear p0 p1
  refine (HT'.out _).mono ?_
  rintro e w5 ⟨rfl, hb⟩
  replace HB : Hid (Below w.heap.size w w5) := HB.out.trans (hb.mono HB.out.size)
  replace HR3 := Lib.hid (wrow_below HR3.out hb)
  clear hb
  go_wp2_with fail
  refine (lwSame_any _ _).mono ?_
  rintro e wc ⟨rfl, rfl⟩
  obtain ⟨⟨p0, p1⟩, _⟩ := row2_cells HR3.out
  go_wp2_with fail
  clear p0 p1
  refine (HU'.out _).mono ?_
  rintro e w6 ⟨rfl, hb⟩
  replace HB : Hid (Below w.heap.size w w6) := HB.out.trans (hb.mono HB.out.size)
  replace HR3 := Lib.hid (wrow_below HR3.out hb)
  clear hb
  go_wp2_with fail
  refine (lwSame_any _ _).mono ?_
  rintro e wd ⟨rfl, rfl⟩
  obtain ⟨⟨p0, p1⟩, _⟩ := row2_cells HR3.out
  go_wp2_with fail
  clear p0 p1
  refine (HV'.out _).mono ?_
  rintro e w7 ⟨rfl, hb⟩
  replace HB : Hid (Below w.heap.size w w7) := HB.out.trans (hb.mono HB.out.size)
  replace HR3 := Lib.hid (wrow_below HR3.out hb)
  clear hb
  go_wp2_with fail
  refine (lwSame_any _ _).mono ?_
  rintro e we ⟨rfl, rfl⟩
  go_wp2_with fail
  go_ret
  exact ⟨rfl, HB.out⟩
end Go.Proofs.Ythcgffnkpeiddaa
