/-
  RenewOf and RenewBest: the program's.
-/
import Derived.Test.YtbkpedcabbppbaaDoorRnQ1
import Derived.Test.YtbkpedcabbppbaaDoorRnO2
import Derived.Test.YtbkpedcabbppbaaDoorRnP1
import Derived.Test.YtbkpedcabbppbaaDoorEt
import Derived.Test.YtbkpedcabbppbaaDoorAsC
namespace Go.Proofs.YtbkpedcabbppbaaDoor
open Go.RowKit Go.Deep

set_option maxRecDepth 100000 in
set_option maxHeartbeats 4000000 in
theorem tellR_ok (cs wo : Int) (m : Nat) (a : Option Addr) (k B : Nat) (p : Nat → Int) (w : World) (h : LsOwn 2 1 B m a k p w) :
    Calls Tryd.prog 33 #[roV cs wo 0 m a k, .nilIface] w fun e w' => e = .returned (roV cs wo 0 m a k) ∧ LsOwn 2 1 B m a k p w' ∧ Below w.heap.size w w' := by
  obtain ⟨W, hW⟩ : ∃ W, W = (w.alloc (.cells #[.slice a m k, .int .i64 cs, .int .i64 wo, .int .i64 0] 26)).alloc (.cells #[.slice none 0 0, .int .i64 0, .int .i64 0, .int .i64 0] 26) := ⟨_, rfl⟩
  have HB : Hid (Below w.heap.size w W) := by show Below _ _ _; rw [hW]; exact (nbel_alloc _ _).alloc (by simp) _
  have HA : Hid (W.rowIs w.heap.size 26 4 (rowN [.slice a m k, .int .i64 cs, .int .i64 wo, .int .i64 0])) := by show W.rowIs _ _ _ _; rw [hW]; exact nrow_below (rowN_alloc _ _ _) (nbel_alloc _ _)
  have HO : Hid (W.rowIs (w.heap.size + 1) 26 4 (rowN [.slice none 0 0, .int .i64 0, .int .i64 0, .int .i64 0])) := by show W.rowIs _ _ _ _; rw [hW]; exact rowN_alloc' (by simp) _ _
  have HL := Lib.hid (h.below HB.out)
  have HW := Lib.hid hW
  clear hW h
  go_enter Tryd.func33, Tryd.ntmps33
  go_upto_region 1 with fail
  rw [← HW.out]
  clear HW
  obtain ⟨⟨o0, o1, o2, o3⟩, z0, z1, z2, z3⟩ := rowN4 HO.out
  obtain ⟨⟨b0, b1, b2, b3⟩, _⟩ := rowN4 HA.out
  have hol := HO.out.lt
  obtain ⟨g, hg⟩ : ∃ g, g = w.heap.size + 1 := ⟨_, rfl⟩
  rw [← hg] at HO o0 o1 o2 o3 z0 z1 z2 z3 hol ⊢
  have HGL : Hid (w.heap.size ≤ g) := by show _ ≤ _; omega
  have hgn : w.heap.size ≠ g := by omega
  clear hg
  go_wp2_with fail
  have zr := rput4 HO.out (.slice a m k) (.int .i64 cs) (.int .i64 wo) (.int .i64 0)
  have zb := rbel4 (g := g) HB.out HGL.out (.slice a m k) (.int .i64 cs) (.int .i64 wo) (.int .i64 0)
  have zl := lsown4 HL.out HO.out (by decide) (.slice a m k) (.int .i64 cs) (.int .i64 wo) (.int .i64 0)
  generalize (((W.setCell ⟨g, 0, none⟩ (.slice a m k)).setCell ⟨g, 1, none⟩ (.int .i64 cs)).setCell ⟨g, 2, none⟩ (.int .i64 wo)).setCell ⟨g, 3, none⟩ (.int .i64 0) = ZZ at zr zb zl ⊢
  obtain ⟨⟨y0, y1, y2, y3⟩, _⟩ := rowN4 zr
  exact bodyPost_ret (v := roV cs wo 0 m a k) (by simp only [results, Tryd.results33]; simp [go_sem, y0, y1, y2, y3]) rfl ⟨rfl, zl, zb⟩
set_option maxRecDepth 100000 in
set_option maxHeartbeats 4000000 in
theorem tellR_bad (t : ByteArray) (c : Int) (w : World) (hg : Et w) :
    Calls Tryd.prog 33 #[roV 0 0 0 0 none 0, errV t c] w fun e w' => e = .returned (roV 0 0 c 0 none 0) ∧ Below w.heap.size w w' := by
  obtain ⟨W, hW⟩ : ∃ W, W = (w.alloc (.cells #[.slice none 0 0, .int .i64 0, .int .i64 0, .int .i64 0] 26)).alloc (.cells #[.slice none 0 0, .int .i64 0, .int .i64 0, .int .i64 0] 26) := ⟨_, rfl⟩
  have HB : Hid (Below w.heap.size w W) := by show Below _ _ _; rw [hW]; exact (nbel_alloc _ _).alloc (by simp) _
  have HO : Hid (W.rowIs (w.heap.size + 1) 26 4 (rowN [.slice none 0 0, .int .i64 0, .int .i64 0, .int .i64 0])) := by show W.rowIs _ _ _ _; rw [hW]; exact rowN_alloc' (by simp) _ _
  have HET := Lib.hid (hg.below HB.out)
  have HW := Lib.hid hW
  clear hW hg
  go_enter Tryd.func33, Tryd.ntmps33
  go_upto_region 1 with fail
  rw [← HW.out]
  clear HW
  obtain ⟨g, hg⟩ : ∃ g, g = w.heap.size + 1 := ⟨_, rfl⟩
  rw [← hg] at HO ⊢
  have HGL : Hid (w.heap.size ≤ g) := by show _ ≤ _; omega
  clear hg
  go_wp2_with fail
  refine (codeOf_any _ c (finds_one t c) _ HET.out).mono ?_
  rintro e w1 ⟨rfl, hb⟩
  replace HO := Lib.hid (nrow_below HO.out hb)
  replace HB : Hid (Below w.heap.size w w1) := HB.out.trans (hb.mono HB.out.size)
  clear hb
  obtain ⟨⟨o0, o1, o2, o3⟩, z0, z1, z2, z3⟩ := rowN4 HO.out
  have hol := HO.out.lt
  go_wp2_with fail
  have zr := rput4 HO.out (.slice none 0 0) (.int .i64 0) (.int .i64 0) (.int .i64 c)
  have zb := rbel4 (g := g) HB.out HGL.out (.slice none 0 0) (.int .i64 0) (.int .i64 0) (.int .i64 c)
  generalize (((w1.setCell ⟨g, 0, none⟩ (.slice none 0 0)).setCell ⟨g, 1, none⟩ (.int .i64 0)).setCell ⟨g, 2, none⟩ (.int .i64 0)).setCell ⟨g, 3, none⟩ (.int .i64 c) = ZZ at zr zb ⊢
  obtain ⟨⟨y0, y1, y2, y3⟩, _⟩ := rowN4 zr
  exact bodyPost_ret (v := roV 0 0 c 0 none 0) (by simp only [results, Tryd.results33]; simp [go_sem, y0, y1, y2, y3]) rfl ⟨rfl, zb⟩
/-- What the checks tell. -/
def ckV (n : Nat) (f : Nat → Int) (z : Int) (m : Nat) (p : Nat → Int) (v : Value) : Prop :=
  ((400 < n ∨ 400 < m) ∧ ∃ t, v = errV t 2) ∨ (¬ (400 < n ∨ 400 < m) ∧ ¬ (Rn.Right n f ∧ Rn.BudOk z ∧ Pl.Rising m p n) ∧ ∃ t, v = errV t 1) ∨ (¬ (400 < n ∨ 400 < m) ∧ (Rn.Right n f ∧ Rn.BudOk z ∧ Pl.Rising m p n) ∧ v = .nilIface)
set_option maxRecDepth 100000 in
set_option maxHeartbeats 4000000 in
theorem checkR_any (a : Option Addr) (n cap : Nat) (f : Nat → Int) (z : Int) (pa : Option Addr) (m pc : Nat) (p : Nat → Int) (w : World) (h : IsAt a (n * 2) f w) (hs : n ≤ 1048576) (hp : IsAt pa m p w) (hm : m ≤ 1048576) :
    Calls Tryd.prog 61 #[.slice a n cap, .int .i64 z, .slice pa m pc] w fun e w' => (∃ v, e = .returned v ∧ ckV n f z m p v) ∧ Below w.heap.size w w' := by
  have H := Lib.hid h
  have HP := Lib.hid hp
  clear h hp
  by_cases c4 : 400 < n ∨ 400 < m
  · have HE : Hid (ckV n f z m p (errV ⟨#[104, 111, 119, 32, 109, 97, 110, 121, 32, 97, 115, 115, 101, 116, 115, 32, 111, 114, 32, 112, 105, 99, 107, 115]⟩ 2)) := Or.inl ⟨c4, _, rfl⟩
    have c5 : (400 : Int) < (n : Int) ∨ (¬ (400 : Int) < (n : Int) ∧ (400 : Int) < (m : Int)) := by omega
    clear c4
    rcases c5 with c1 | ⟨c1, c2⟩
    all_goals
      go_enter Tryd.func61, Tryd.ntmps61
      go_wp2_with fail
      go_ret
      exact ⟨⟨_, rfl, HE.out⟩, Below.refl _ _⟩
  have c4n : ¬ (400 : Int) < (n : Int) := by omega
  have c4m : ¬ (400 : Int) < (m : Int) := by omega
  have HC4 := Lib.hid c4
  clear c4
  by_cases c : Rn.Right n f ∧ Rn.BudOk z
  case neg =>
    have HE : Hid (ckV n f z m p (errV ⟨#[97, 32, 114, 101, 110, 101, 119, 97, 108]⟩ 1)) := Or.inr (Or.inl ⟨HC4.out, fun x => c ⟨x.1, x.2.1⟩, _, rfl⟩)
    have HC := Lib.hid (dB_ff c)
    clear c
    go_enter Tryd.func61, Tryd.ntmps61
    go_wp2_with fail
    refine (rright_any a n cap f z _ H.out hs).mono ?_
    rintro e w1 ⟨rfl, hb⟩
    rw [HC.out]
    have HB := Lib.hid hb
    clear hb
    go_wp2_with fail
    go_ret
    exact ⟨⟨_, rfl, HE.out⟩, HB.out⟩
  have HC := Lib.hid (dB_tt c)
  have HCC := Lib.hid c
  clear c
  by_cases ci : Pl.Rising m p n
  · have HE : Hid (ckV n f z m p .nilIface) := Or.inr (Or.inr ⟨HC4.out, ⟨HCC.out.1, HCC.out.2, ci⟩, rfl⟩)
    have HCI := Lib.hid (dB_tt ci)
    clear ci
    go_enter Tryd.func61, Tryd.ntmps61
    go_wp2_with fail
    refine (rright_any a n cap f z _ H.out hs).mono ?_
    rintro e w1 ⟨rfl, hb⟩
    rw [HC.out]
    have HB := Lib.hid hb
    clear hb
    go_wp2_with fail
    refine (prising_any pa m pc p n _ (HP.out.below HB.out) hm hs).mono ?_
    rintro e w2 ⟨rfl, hw⟩
    subst w2
    rw [HCI.out]
    go_wp2_with fail
    go_ret
    exact ⟨⟨_, rfl, HE.out⟩, HB.out⟩
  · have HE : Hid (ckV n f z m p (errV ⟨#[97, 32, 114, 101, 110, 101, 119, 97, 108]⟩ 1)) := Or.inr (Or.inl ⟨HC4.out, fun x => ci x.2.2, _, rfl⟩)
    have HCI := Lib.hid (dB_ff ci)
    clear ci
    go_enter Tryd.func61, Tryd.ntmps61
    go_wp2_with fail
    refine (rright_any a n cap f z _ H.out hs).mono ?_
    rintro e w1 ⟨rfl, hb⟩
    rw [HC.out]
    have HB := Lib.hid hb
    clear hb
    go_wp2_with fail
    refine (prising_any pa m pc p n _ (HP.out.below HB.out) hm hs).mono ?_
    rintro e w2 ⟨rfl, hw⟩
    subst w2
    rw [HCI.out]
    go_wp2_with fail
    go_ret
    exact ⟨⟨_, rfl, HE.out⟩, HB.out⟩
/-- What the inner functions hand back. -/
def RqEnd (B : Nat) (o : Rn.Out) (e : Ending) (W : World) : Prop :=
  (o.cd = 0 ∧ ∃ a k, e = .returned (.tuple #[roV o.cs o.wo 0 o.m a k, .nilIface]) ∧ LsOwn 2 1 B o.m a k o.L W) ∨ ∃ c t, o = Rn.bad c ∧ e = .returned (.tuple #[roV 0 0 0 0 none 0, errV t c])
set_option maxRecDepth 100000 in
set_option maxHeartbeats 8000000 in
theorem renewOf_any (a : Option Addr) (n cap : Nat) (f : Nat → Int) (z : Int) (pa : Option Addr) (m pc : Nat) (p : Nat → Int) (w : World) (h : IsAt a (n * 2) f w) (hs : n ≤ 1048576) (hp : IsAt pa m p w) (hm : m ≤ 1048576) (hpa : pa = none → m = 0) :
    Calls Tryd.prog 38 #[.slice a n cap, .int .i64 z, .slice pa m pc] w fun e w' => RqEnd w.heap.size (Rn.of_ n f z m p) e w' ∧ Below w.heap.size w w' := by
  obtain ⟨W, hW⟩ : ∃ W, W = w.alloc (.cells #[.slice none 0 0, .int .i64 0, .int .i64 0, .int .i64 0] 26) := ⟨_, rfl⟩
  have HB : Hid (Below w.heap.size w W) := by show Below _ _ _; rw [hW]; exact nbel_alloc _ _
  obtain ⟨g6, hg6⟩ : ∃ g6, g6 = w.heap.size := ⟨_, rfl⟩
  have HO : Hid (W.rowIs g6 26 4 (rowN [.slice none 0 0, .int .i64 0, .int .i64 0, .int .i64 0])) := by show W.rowIs _ _ _ _; rw [hW, hg6]; exact rowN_alloc _ _ _
  obtain ⟨O, hO⟩ : ∃ O, O = Rn.of_ n f z m p := ⟨_, rfl⟩
  rw [← hO]
  have HOO := Lib.hid hO
  have H := Lib.hid h
  have HP := Lib.hid hp
  have HPA := Lib.hid hpa
  have HW := Lib.hid hW
  have HG6 := Lib.hid hg6
  clear h hp hpa hW hg6 hO
  go_enter Tryd.func38, Tryd.ntmps38
  go_upto_region 1 with fail
  rw [← HW.out, ← HG6.out]
  clear HW
  go_wp2_with fail
  refine (checkR_any a n cap f z pa m pc p _ (H.out.below HB.out) hs (HP.out.below HB.out) hm).mono ?_
  rintro e w1 ⟨⟨v, rfl, hv⟩, hb⟩
  replace HO := Lib.hid (nrow_below HO.out hb)
  replace HB : Hid (Below w.heap.size w w1) := HB.out.trans (hb.mono HB.out.size)
  clear hb
  rcases hv with ⟨h4, t, rfl⟩ | ⟨h4, hno, t, rfl⟩ | ⟨h4, hok, rfl⟩
  · have HE : Hid (O = Rn.bad 2) := by show O = _; rw [HOO.out]; exact Rn.of_big h4
    clear h4
    obtain ⟨⟨o0, o1, o2, o3⟩, z0, z1, z2, z3⟩ := rowN4 HO.out
    have hol := HO.out.lt
    go_wp2_with fail
    have zr := rput4 HO.out (.slice none 0 0) (.int .i64 0) (.int .i64 0) (.int .i64 0)
    have zb := rbel4 (g := g6) HB.out (by rw [HG6.out]; exact Nat.le_refl _) (.slice none 0 0) (.int .i64 0) (.int .i64 0) (.int .i64 0)
    generalize (((w1.setCell ⟨g6, 0, none⟩ (.slice none 0 0)).setCell ⟨g6, 1, none⟩ (.int .i64 0)).setCell ⟨g6, 2, none⟩ (.int .i64 0)).setCell ⟨g6, 3, none⟩ (.int .i64 0) = ZZ at zr zb ⊢
    obtain ⟨⟨y0, y1, y2, y3⟩, _⟩ := rowN4 zr
    exact bodyPost_ret (v := .tuple #[roV 0 0 0 0 none 0, errV t 2]) (by simp only [results, Tryd.results38]; simp [go_sem, y0, y1, y2, y3]) rfl ⟨Or.inr ⟨2, t, HE.out, rfl⟩, zb⟩
  · have HE : Hid (O = Rn.bad 1) := by show O = _; rw [HOO.out]; exact Rn.of_form h4 hno
    clear h4 hno
    obtain ⟨⟨o0, o1, o2, o3⟩, z0, z1, z2, z3⟩ := rowN4 HO.out
    have hol := HO.out.lt
    go_wp2_with fail
    have zr := rput4 HO.out (.slice none 0 0) (.int .i64 0) (.int .i64 0) (.int .i64 0)
    have zb := rbel4 (g := g6) HB.out (by rw [HG6.out]; exact Nat.le_refl _) (.slice none 0 0) (.int .i64 0) (.int .i64 0) (.int .i64 0)
    generalize (((w1.setCell ⟨g6, 0, none⟩ (.slice none 0 0)).setCell ⟨g6, 1, none⟩ (.int .i64 0)).setCell ⟨g6, 2, none⟩ (.int .i64 0)).setCell ⟨g6, 3, none⟩ (.int .i64 0) = ZZ at zr zb ⊢
    obtain ⟨⟨y0, y1, y2, y3⟩, _⟩ := rowN4 zr
    exact bodyPost_ret (v := .tuple #[roV 0 0 0 0 none 0, errV t 1]) (by simp only [results, Tryd.results38]; simp [go_sem, y0, y1, y2, y3]) rfl ⟨Or.inr ⟨1, t, HE.out, rfl⟩, zb⟩
  have HC4 := Lib.hid h4
  have HOK := Lib.hid hok
  have hm40 : m ≤ 40 := Nat.le_trans hok.2.2.le hok.1.1
  clear h4 hok
  go_wp2_with fail
  refine (renewalBy_any a n cap f pa m pc p _ (H.out.below HB.out) HOK.out.1 (HP.out.below HB.out) HOK.out.2.2 HPA.out).mono ?_
  rintro e w2 ⟨⟨b, k, rfl, hL⟩, hb⟩
  obtain ⟨cs, hcs⟩ : ∃ x, x = Rn.sm f 0 p m := ⟨_, rfl⟩
  obtain ⟨wo, hwo⟩ : ∃ x, x = Rn.sm f 1 p m := ⟨_, rfl⟩
  rw [← hcs, ← hwo]
  have HCS := Lib.hid hcs
  have HWO := Lib.hid hwo
  replace HO := Lib.hid (nrow_below HO.out hb)
  have HL : Hid (LsOwn 2 1 w.heap.size m b k p w2) := hL.low HB.out.size
  replace HB : Hid (Below w.heap.size w w2) := HB.out.trans (hb.mono HB.out.size)
  have HGL : Hid (g6 < w2.heap.size) := HO.out.lt
  clear hb hL hcs hwo
  go_upto_region 5 with fail
  obtain ⟨X, hX⟩ : ∃ X, X = w2.alloc (.cells #[.slice b m k, .int .i64 cs, .int .i64 wo, .int .i64 0] 26) := ⟨_, rfl⟩
  have HBX : Hid (X.rowIs w2.heap.size 26 4 (rowN [.slice b m k, .int .i64 cs, .int .i64 wo, .int .i64 0])) := by show X.rowIs _ _ _ _; rw [hX]; exact rowN_alloc _ _ _
  have hbX : Below w2.heap.size w2 X := by rw [hX]; exact nbel_alloc _ _
  replace HO := Lib.hid (nrow_below HO.out hbX)
  replace HB : Hid (Below w.heap.size w X) := HB.out.trans (hbX.mono HB.out.size)
  replace HL := Lib.hid (HL.out.below hbX)
  rw [← hX]
  clear hX hbX
  obtain ⟨g7, hg7⟩ : ∃ g7, g7 = w2.heap.size := ⟨_, rfl⟩
  have hg67 : g6 ≠ g7 := by have := HGL.out; omega
  rw [← hg7] at HBX ⊢
  clear hg7
  obtain ⟨⟨o0, o1, o2, o3⟩, z0, z1, z2, z3⟩ := rowN4 HO.out
  obtain ⟨⟨b0, b1, b2, b3⟩, _⟩ := rowN4 HBX.out
  have hol := HO.out.lt
  by_cases hzc : z < cs
  · have HE : Hid (O = Rn.bad 6) := by show O = _; rw [HOO.out]; exact Rn.of_short HC4.out HOK.out (by rw [← HCS.out]; exact hzc)
    go_wp2_with fail
    have zr := rput4 HO.out (.slice none 0 0) (.int .i64 0) (.int .i64 0) (.int .i64 0)
    have zb := rbel4 (g := g6) HB.out (by rw [HG6.out]; exact Nat.le_refl _) (.slice none 0 0) (.int .i64 0) (.int .i64 0) (.int .i64 0)
    generalize (((X.setCell ⟨g6, 0, none⟩ (.slice none 0 0)).setCell ⟨g6, 1, none⟩ (.int .i64 0)).setCell ⟨g6, 2, none⟩ (.int .i64 0)).setCell ⟨g6, 3, none⟩ (.int .i64 0) = ZZ at zr zb ⊢
    obtain ⟨⟨y0, y1, y2, y3⟩, _⟩ := rowN4 zr
    exact bodyPost_ret (v := .tuple #[roV 0 0 0 0 none 0, errV ⟨#[116, 104, 101, 32, 98, 117, 100, 103, 101, 116]⟩ 6]) (by simp only [results, Tryd.results38]; simp [go_sem, y0, y1, y2, y3]) rfl ⟨Or.inr ⟨6, _, HE.out, rfl⟩, zb⟩
  · have HE : Hid (O = ⟨cs, wo, 0, m, p⟩) := by show O = _; rw [HOO.out, Rn.of_ok HC4.out HOK.out (by rw [← HCS.out]; exact hzc), ← HCS.out, ← HWO.out]
    go_wp2_with fail
    have zr := rput4 HO.out (.slice b m k) (.int .i64 cs) (.int .i64 wo) (.int .i64 0)
    have zb := rbel4 (g := g6) HB.out (by rw [HG6.out]; exact Nat.le_refl _) (.slice b m k) (.int .i64 cs) (.int .i64 wo) (.int .i64 0)
    have zl := lsown4 HL.out HO.out (by decide) (.slice b m k) (.int .i64 cs) (.int .i64 wo) (.int .i64 0)
    generalize (((X.setCell ⟨g6, 0, none⟩ (.slice b m k)).setCell ⟨g6, 1, none⟩ (.int .i64 cs)).setCell ⟨g6, 2, none⟩ (.int .i64 wo)).setCell ⟨g6, 3, none⟩ (.int .i64 0) = ZZ at zr zb zl ⊢
    obtain ⟨⟨y0, y1, y2, y3⟩, _⟩ := rowN4 zr
    exact bodyPost_ret (v := .tuple #[roV cs wo 0 m b k, .nilIface]) (by simp only [results, Tryd.results38]; simp [go_sem, y0, y1, y2, y3]) rfl ⟨Or.inl ⟨by rw [HE.out], b, k, by rw [HE.out], by rw [HE.out]; exact zl⟩, zb⟩
set_option maxRecDepth 100000 in
set_option maxHeartbeats 8000000 in
theorem renewBest_any (a : Option Addr) (n cap : Nat) (f : Nat → Int) (z : Int) (w : World) (h : IsAt a (n * 2) f w) (hs : n ≤ 1048576) :
    Calls Tryd.prog 34 #[.slice a n cap, .int .i64 z] w fun e w' => RqEnd w.heap.size (Rn.bs n f z) e w' ∧ Below w.heap.size w w' := by
  obtain ⟨W, hW⟩ : ∃ W, W = w.alloc (.cells #[.slice none 0 0, .int .i64 0, .int .i64 0, .int .i64 0] 26) := ⟨_, rfl⟩
  have HB : Hid (Below w.heap.size w W) := by show Below _ _ _; rw [hW]; exact nbel_alloc _ _
  obtain ⟨g6, hg6⟩ : ∃ g6, g6 = w.heap.size := ⟨_, rfl⟩
  have HO : Hid (W.rowIs g6 26 4 (rowN [.slice none 0 0, .int .i64 0, .int .i64 0, .int .i64 0])) := by show W.rowIs _ _ _ _; rw [hW, hg6]; exact rowN_alloc _ _ _
  obtain ⟨O, hO⟩ : ∃ O, O = Rn.bs n f z := ⟨_, rfl⟩
  rw [← hO]
  have HOO := Lib.hid hO
  have H := Lib.hid h
  have HW := Lib.hid hW
  have HG6 := Lib.hid hg6
  clear h hW hg6 hO
  go_enter Tryd.func34, Tryd.ntmps34
  go_upto_region 1 with fail
  rw [← HW.out, ← HG6.out]
  clear HW
  go_wp2_with fail
  refine (checkR_any a n cap f z none 0 0 (fun _ => 0) _ (H.out.below HB.out) hs (Or.inl rfl) (by omega)).mono ?_
  rintro e w1 ⟨⟨v, rfl, hv⟩, hb⟩
  replace HO := Lib.hid (nrow_below HO.out hb)
  replace HB : Hid (Below w.heap.size w w1) := HB.out.trans (hb.mono HB.out.size)
  clear hb
  rcases hv with ⟨h4, t, rfl⟩ | ⟨h4, hno, t, rfl⟩ | ⟨h4, hok, rfl⟩
  · have HE : Hid (O = Rn.bad 2) := by show O = _; rw [HOO.out]; exact Rn.bs_big (by rcases h4 with q | q; exact q; omega)
    clear h4
    obtain ⟨⟨o0, o1, o2, o3⟩, z0, z1, z2, z3⟩ := rowN4 HO.out
    have hol := HO.out.lt
    go_wp2_with fail
    have zr := rput4 HO.out (.slice none 0 0) (.int .i64 0) (.int .i64 0) (.int .i64 0)
    have zb := rbel4 (g := g6) HB.out (by rw [HG6.out]; exact Nat.le_refl _) (.slice none 0 0) (.int .i64 0) (.int .i64 0) (.int .i64 0)
    generalize (((w1.setCell ⟨g6, 0, none⟩ (.slice none 0 0)).setCell ⟨g6, 1, none⟩ (.int .i64 0)).setCell ⟨g6, 2, none⟩ (.int .i64 0)).setCell ⟨g6, 3, none⟩ (.int .i64 0) = ZZ at zr zb ⊢
    obtain ⟨⟨y0, y1, y2, y3⟩, _⟩ := rowN4 zr
    exact bodyPost_ret (v := .tuple #[roV 0 0 0 0 none 0, errV t 2]) (by simp only [results, Tryd.results34]; simp [go_sem, y0, y1, y2, y3]) rfl ⟨Or.inr ⟨2, t, HE.out, rfl⟩, zb⟩
  · have HE : Hid (O = Rn.bad 1) := by show O = _; rw [HOO.out]; exact Rn.bs_form (fun x => h4 (Or.inl x)) (fun x => hno ⟨x.1, x.2, fun i hi => absurd hi (by omega)⟩)
    clear h4 hno
    obtain ⟨⟨o0, o1, o2, o3⟩, z0, z1, z2, z3⟩ := rowN4 HO.out
    have hol := HO.out.lt
    go_wp2_with fail
    have zr := rput4 HO.out (.slice none 0 0) (.int .i64 0) (.int .i64 0) (.int .i64 0)
    have zb := rbel4 (g := g6) HB.out (by rw [HG6.out]; exact Nat.le_refl _) (.slice none 0 0) (.int .i64 0) (.int .i64 0) (.int .i64 0)
    generalize (((w1.setCell ⟨g6, 0, none⟩ (.slice none 0 0)).setCell ⟨g6, 1, none⟩ (.int .i64 0)).setCell ⟨g6, 2, none⟩ (.int .i64 0)).setCell ⟨g6, 3, none⟩ (.int .i64 0) = ZZ at zr zb ⊢
    obtain ⟨⟨y0, y1, y2, y3⟩, _⟩ := rowN4 zr
    exact bodyPost_ret (v := .tuple #[roV 0 0 0 0 none 0, errV t 1]) (by simp only [results, Tryd.results34]; simp [go_sem, y0, y1, y2, y3]) rfl ⟨Or.inr ⟨1, t, HE.out, rfl⟩, zb⟩
  have h4' : ¬ 400 < n := fun x => h4 (Or.inl x)
  have HC4 := Lib.hid h4'
  have HR := Lib.hid hok.1
  have HZ := Lib.hid hok.2.1
  clear h4 hok h4'
  obtain ⟨b, rfl⟩ : ∃ b : Nat, z = (b : Int) := ⟨z.toNat, by have := HZ.out.1; omega⟩
  have hb3 : b ≤ 300 := by have := HZ.out.2; omega
  go_wp2_with fail
  refine (bestPicks_any a n cap f b _ (H.out.below HB.out) HR.out hb3).mono ?_
  rintro e w2 ⟨⟨v, rfl, hown⟩, hb⟩
  obtain ⟨pa, pc, rfl, hL⟩ := rls_own hown
  have HL := Lib.hid hL
  replace HO := Lib.hid (nrow_below HO.out hb)
  replace HB : Hid (Below w.heap.size w w2) := HB.out.trans (hb.mono HB.out.size)
  clear hb hown hL
  obtain ⟨m, hm⟩ : ∃ m, m = (Rn.picks f n b).length := ⟨_, rfl⟩
  obtain ⟨p, hp⟩ : ∃ p, p = Rn.nf (Rn.picks f n b) := ⟨_, rfl⟩
  rw [← hm, ← hp] at HL
  rw [← hm]
  have HM := Lib.hid hm
  have HPP := Lib.hid hp
  have HRI : Hid (Pl.Rising m p n) := by show Pl.Rising _ _ _; rw [hm, hp]; exact Rn.picks_rise HR.out
  clear hm hp
  go_wp2_with fail
  refine (renewalBy_any a n cap f pa m pc p _ (H.out.below HB.out) HR.out (by have q := HL.out.at_; rw [Nat.mul_one] at q; exact q) HRI.out (fun e => by
    rcases HL.out with q | ⟨g, e', _⟩
    · exact q.2.1
    · rw [e] at e'; cases e')).mono ?_
  rintro e w3 ⟨⟨b7, k7, rfl, hL⟩, hb⟩
  obtain ⟨cs, hcs⟩ : ∃ x, x = Rn.sm f 0 p m := ⟨_, rfl⟩
  obtain ⟨wo, hwo⟩ : ∃ x, x = Rn.sm f 1 p m := ⟨_, rfl⟩
  rw [← hcs, ← hwo]
  have HE : Hid (O = ⟨cs, wo, 0, m, p⟩) := by
    show O = _
    rw [HOO.out, hcs, hwo, HM.out, HPP.out]
    unfold Rn.bs
    rw [if_neg HC4.out, if_pos (dB_tt ⟨HR.out, HZ.out⟩), Int.toNat_natCast]
  replace HO := Lib.hid (nrow_below HO.out hb)
  replace HL : Hid (LsOwn 2 1 w.heap.size m b7 k7 p w3) := hL.low HB.out.size
  replace HB : Hid (Below w.heap.size w w3) := HB.out.trans (hb.mono HB.out.size)
  clear hb hL hcs hwo
  obtain ⟨⟨o0, o1, o2, o3⟩, z0, z1, z2, z3⟩ := rowN4 HO.out
  have hol := HO.out.lt
  go_wp2_with fail
  have zr := rput4 HO.out (.slice b7 m k7) (.int .i64 cs) (.int .i64 wo) (.int .i64 0)
  have zb := rbel4 (g := g6) HB.out (by rw [HG6.out]; exact Nat.le_refl _) (.slice b7 m k7) (.int .i64 cs) (.int .i64 wo) (.int .i64 0)
  have zl := lsown4 HL.out HO.out (by decide) (.slice b7 m k7) (.int .i64 cs) (.int .i64 wo) (.int .i64 0)
  generalize (((w3.setCell ⟨g6, 0, none⟩ (.slice b7 m k7)).setCell ⟨g6, 1, none⟩ (.int .i64 cs)).setCell ⟨g6, 2, none⟩ (.int .i64 wo)).setCell ⟨g6, 3, none⟩ (.int .i64 0) = ZZ at zr zb zl ⊢
  obtain ⟨⟨y0, y1, y2, y3⟩, _⟩ := rowN4 zr
  exact bodyPost_ret (v := .tuple #[roV cs wo 0 m b7 k7, .nilIface]) (by simp only [results, Tryd.results34]; simp [go_sem, y0, y1, y2, y3]) rfl ⟨Or.inl ⟨by rw [HE.out], b7, k7, by rw [HE.out], by rw [HE.out]; exact zl⟩, zb⟩
set_option maxRecDepth 100000 in
set_option maxHeartbeats 4000000 in
theorem implOf_any (a : Option Addr) (n cap : Nat) (f : Nat → Int) (z : Int) (pa : Option Addr) (m pc : Nat) (p : Nat → Int) (w : World) (h : IsAt a (n * 2) f w) (hs : n ≤ 1048576) (hp : IsAt pa m p w) (hm : m ≤ 1048576) (hpa : pa = none → m = 0) (hg : Et w) :
    Calls Tryd.prog 18 #[.slice a n cap, .int .i64 z, .slice pa m pc] w fun e w' => RoEnd w.heap.size (Rn.of_ n f z m p) e w' ∧ Below w.heap.size w w' := by
  obtain ⟨W, hW⟩ : ∃ W, W = w.alloc (.cells #[.slice none 0 0, .int .i64 0, .int .i64 0, .int .i64 0] 26) := ⟨_, rfl⟩
  have HB : Hid (Below w.heap.size w W) := by show Below _ _ _; rw [hW]; exact nbel_alloc _ _
  obtain ⟨g6, hg6⟩ : ∃ g6, g6 = w.heap.size := ⟨_, rfl⟩
  have HO : Hid (W.rowIs g6 26 4 (rowN [.slice none 0 0, .int .i64 0, .int .i64 0, .int .i64 0])) := by show W.rowIs _ _ _ _; rw [hW, hg6]; exact rowN_alloc _ _ _
  obtain ⟨O, hO⟩ : ∃ O, O = Rn.of_ n f z m p := ⟨_, rfl⟩
  rw [← hO]
  have HOO := Lib.hid hO
  have HCALL : Hid (Calls Tryd.prog 38 #[.slice a n cap, .int .i64 z, .slice pa m pc] W fun e w' => RqEnd W.heap.size O e w' ∧ Below W.heap.size W w') := by show Calls _ _ _ _ _; rw [hO]; exact renewOf_any a n cap f z pa m pc p W (h.below HB.out) hs (hp.below HB.out) hm hpa
  have HET := Lib.hid hg
  have HW := Lib.hid hW
  have HG6 := Lib.hid hg6
  clear h hp hpa hW hg6 hO hg
  go_enter Tryd.func18, Tryd.ntmps18
  go_upto_region 1 with fail
  rw [← HW.out, ← HG6.out]
  clear HW
  go_wp2_with fail
  refine HCALL.out.mono ?_
  rintro e w1 ⟨hq, hb⟩
  replace HO := Lib.hid (nrow_below HO.out hb)
  have hlo : w.heap.size ≤ W.heap.size := HB.out.size
  replace HB : Hid (Below w.heap.size w w1) := HB.out.trans (hb.mono HB.out.size)
  clear hb HCALL
  rcases hq with ⟨hcd, a7, k7, rfl, hL⟩ | ⟨c, t, hbad, rfl⟩
  · have HL : Hid (LsOwn 2 1 w.heap.size O.m a7 k7 O.L w1) := hL.low hlo
    have HCD := Lib.hid hcd
    clear hL hcd
    go_wp2_with fail
    refine (tellR_ok O.cs O.wo O.m a7 k7 _ O.L _ HL.out).mono ?_
    rintro e w2 ⟨rfl, hL, hb⟩
    replace HO := Lib.hid (nrow_below HO.out hb)
    replace HB : Hid (Below w.heap.size w w2) := HB.out.trans (hb.mono HB.out.size)
    replace HL := Lib.hid hL
    clear hb hL
    obtain ⟨⟨o0, o1, o2, o3⟩, z0, z1, z2, z3⟩ := rowN4 HO.out
    have hol := HO.out.lt
    go_wp2_with fail
    have zr := rput4 HO.out (.slice a7 O.m k7) (.int .i64 O.cs) (.int .i64 O.wo) (.int .i64 0)
    have zb := rbel4 (g := g6) HB.out (by rw [HG6.out]; exact Nat.le_refl _) (.slice a7 O.m k7) (.int .i64 O.cs) (.int .i64 O.wo) (.int .i64 0)
    have zl := lsown4 HL.out HO.out (by decide) (.slice a7 O.m k7) (.int .i64 O.cs) (.int .i64 O.wo) (.int .i64 0)
    generalize (((w2.setCell ⟨g6, 0, none⟩ (.slice a7 O.m k7)).setCell ⟨g6, 1, none⟩ (.int .i64 O.cs)).setCell ⟨g6, 2, none⟩ (.int .i64 O.wo)).setCell ⟨g6, 3, none⟩ (.int .i64 0) = ZZ at zr zb zl ⊢
    obtain ⟨⟨y0, y1, y2, y3⟩, _⟩ := rowN4 zr
    exact bodyPost_ret (v := roV O.cs O.wo 0 O.m a7 k7) (by simp only [results, Tryd.results18]; simp [go_sem, y0, y1, y2, y3]) rfl ⟨⟨a7, k7, by rw [HCD.out], zl⟩, zb⟩
  · have HBAD := Lib.hid hbad
    clear hbad
    go_wp2_with fail
    refine (tellR_bad t c _ (HET.out.below HB.out)).mono ?_
    rintro e w2 ⟨rfl, hb⟩
    replace HO := Lib.hid (nrow_below HO.out hb)
    replace HB : Hid (Below w.heap.size w w2) := HB.out.trans (hb.mono HB.out.size)
    clear hb
    obtain ⟨⟨o0, o1, o2, o3⟩, z0, z1, z2, z3⟩ := rowN4 HO.out
    have hol := HO.out.lt
    go_wp2_with fail
    have zr := rput4 HO.out (.slice none 0 0) (.int .i64 0) (.int .i64 0) (.int .i64 c)
    have zb := rbel4 (g := g6) HB.out (by rw [HG6.out]; exact Nat.le_refl _) (.slice none 0 0) (.int .i64 0) (.int .i64 0) (.int .i64 c)
    generalize (((w2.setCell ⟨g6, 0, none⟩ (.slice none 0 0)).setCell ⟨g6, 1, none⟩ (.int .i64 0)).setCell ⟨g6, 2, none⟩ (.int .i64 0)).setCell ⟨g6, 3, none⟩ (.int .i64 c) = ZZ at zr zb ⊢
    obtain ⟨⟨y0, y1, y2, y3⟩, _⟩ := rowN4 zr
    exact bodyPost_ret (v := roV 0 0 c 0 none 0) (by simp only [results, Tryd.results18]; simp [go_sem, y0, y1, y2, y3]) rfl ⟨by rw [HBAD.out]; exact RoEnd.bad _ _ _, zb⟩
set_option maxRecDepth 100000 in
set_option maxHeartbeats 4000000 in
theorem implBest_any (a : Option Addr) (n cap : Nat) (f : Nat → Int) (z : Int) (w : World) (h : IsAt a (n * 2) f w) (hs : n ≤ 1048576) (hg : Et w) :
    Calls Tryd.prog 10 #[.slice a n cap, .int .i64 z] w fun e w' => RoEnd w.heap.size (Rn.bs n f z) e w' ∧ Below w.heap.size w w' := by
  obtain ⟨W, hW⟩ : ∃ W, W = w.alloc (.cells #[.slice none 0 0, .int .i64 0, .int .i64 0, .int .i64 0] 26) := ⟨_, rfl⟩
  have HB : Hid (Below w.heap.size w W) := by show Below _ _ _; rw [hW]; exact nbel_alloc _ _
  obtain ⟨g6, hg6⟩ : ∃ g6, g6 = w.heap.size := ⟨_, rfl⟩
  have HO : Hid (W.rowIs g6 26 4 (rowN [.slice none 0 0, .int .i64 0, .int .i64 0, .int .i64 0])) := by show W.rowIs _ _ _ _; rw [hW, hg6]; exact rowN_alloc _ _ _
  obtain ⟨O, hO⟩ : ∃ O, O = Rn.bs n f z := ⟨_, rfl⟩
  rw [← hO]
  have HOO := Lib.hid hO
  have HCALL : Hid (Calls Tryd.prog 34 #[.slice a n cap, .int .i64 z] W fun e w' => RqEnd W.heap.size O e w' ∧ Below W.heap.size W w') := by show Calls _ _ _ _ _; rw [hO]; exact renewBest_any a n cap f z W (h.below HB.out) hs
  have HET := Lib.hid hg
  have HW := Lib.hid hW
  have HG6 := Lib.hid hg6
  clear h hW hg6 hO hg
  go_enter Tryd.func10, Tryd.ntmps10
  go_upto_region 1 with fail
  rw [← HW.out, ← HG6.out]
  clear HW
  go_wp2_with fail
  refine HCALL.out.mono ?_
  rintro e w1 ⟨hq, hb⟩
  replace HO := Lib.hid (nrow_below HO.out hb)
  have hlo : w.heap.size ≤ W.heap.size := HB.out.size
  replace HB : Hid (Below w.heap.size w w1) := HB.out.trans (hb.mono HB.out.size)
  clear hb HCALL
  rcases hq with ⟨hcd, a7, k7, rfl, hL⟩ | ⟨c, t, hbad, rfl⟩
  · have HL : Hid (LsOwn 2 1 w.heap.size O.m a7 k7 O.L w1) := hL.low hlo
    have HCD := Lib.hid hcd
    clear hL hcd
    go_wp2_with fail
    refine (tellR_ok O.cs O.wo O.m a7 k7 _ O.L _ HL.out).mono ?_
    rintro e w2 ⟨rfl, hL, hb⟩
    replace HO := Lib.hid (nrow_below HO.out hb)
    replace HB : Hid (Below w.heap.size w w2) := HB.out.trans (hb.mono HB.out.size)
    replace HL := Lib.hid hL
    clear hb hL
    obtain ⟨⟨o0, o1, o2, o3⟩, z0, z1, z2, z3⟩ := rowN4 HO.out
    have hol := HO.out.lt
    go_wp2_with fail
    have zr := rput4 HO.out (.slice a7 O.m k7) (.int .i64 O.cs) (.int .i64 O.wo) (.int .i64 0)
    have zb := rbel4 (g := g6) HB.out (by rw [HG6.out]; exact Nat.le_refl _) (.slice a7 O.m k7) (.int .i64 O.cs) (.int .i64 O.wo) (.int .i64 0)
    have zl := lsown4 HL.out HO.out (by decide) (.slice a7 O.m k7) (.int .i64 O.cs) (.int .i64 O.wo) (.int .i64 0)
    generalize (((w2.setCell ⟨g6, 0, none⟩ (.slice a7 O.m k7)).setCell ⟨g6, 1, none⟩ (.int .i64 O.cs)).setCell ⟨g6, 2, none⟩ (.int .i64 O.wo)).setCell ⟨g6, 3, none⟩ (.int .i64 0) = ZZ at zr zb zl ⊢
    obtain ⟨⟨y0, y1, y2, y3⟩, _⟩ := rowN4 zr
    exact bodyPost_ret (v := roV O.cs O.wo 0 O.m a7 k7) (by simp only [results, Tryd.results10]; simp [go_sem, y0, y1, y2, y3]) rfl ⟨⟨a7, k7, by rw [HCD.out], zl⟩, zb⟩
  · have HBAD := Lib.hid hbad
    clear hbad
    go_wp2_with fail
    refine (tellR_bad t c _ (HET.out.below HB.out)).mono ?_
    rintro e w2 ⟨rfl, hb⟩
    replace HO := Lib.hid (nrow_below HO.out hb)
    replace HB : Hid (Below w.heap.size w w2) := HB.out.trans (hb.mono HB.out.size)
    clear hb
    obtain ⟨⟨o0, o1, o2, o3⟩, z0, z1, z2, z3⟩ := rowN4 HO.out
    have hol := HO.out.lt
    go_wp2_with fail
    have zr := rput4 HO.out (.slice none 0 0) (.int .i64 0) (.int .i64 0) (.int .i64 c)
    have zb := rbel4 (g := g6) HB.out (by rw [HG6.out]; exact Nat.le_refl _) (.slice none 0 0) (.int .i64 0) (.int .i64 0) (.int .i64 c)
    generalize (((w2.setCell ⟨g6, 0, none⟩ (.slice none 0 0)).setCell ⟨g6, 1, none⟩ (.int .i64 0)).setCell ⟨g6, 2, none⟩ (.int .i64 0)).setCell ⟨g6, 3, none⟩ (.int .i64 c) = ZZ at zr zb ⊢
    obtain ⟨⟨y0, y1, y2, y3⟩, _⟩ := rowN4 zr
    exact bodyPost_ret (v := roV 0 0 c 0 none 0) (by simp only [results, Tryd.results10]; simp [go_sem, y0, y1, y2, y3]) rfl ⟨by rw [HBAD.out]; exact RoEnd.bad _ _ _, zb⟩
end Go.Proofs.YtbkpedcabbppbaaDoor
