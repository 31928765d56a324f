/-
  The law FnBurst.
-/
import Derived.Test.YtlipgnjknfmikaaLkLawN
import Derived.Test.YtlipgnjknfmikaaLkS2
namespace Go.Proofs.Ytlipgnjknfmikaa
open Go.RowKit Go.Deep
attribute [local go_sem] lrun_store_float

theorem take_el {zs : List Nat} {i j : Nat} (h : j < i) : Fl.el (zs.take i) j = Fl.el zs j := by
  unfold Fl.el; rw [List.getD_eq_getElem?_getD, List.getD_eq_getElem?_getD, List.getElem?_take_of_lt h]
/-- What is told of a list is told of its beginning. -/
theorem burst_parts (f : Nat → Nat) (n : Nat) (z : Int) (t : Nat) (hn : n ≤ 400) : Lk.bAt f n z t = -1 ∨ ∃ i : Nat, i < n ∧ Lk.bAt f n z t = (i : Int) ∧ Lk.bAt f i z t = -1 ∧ Lk.bAt f (i + 1) z t = (i : Int) ∧ FloatKind.f64.format.order (Lk.bAb f (i + 1) z t) 0 = some .gt := by
  cases hk : Lk.buOk z t
  · exact Or.inl (Lk.b_no hn hk).1
  · rw [(Lk.b_yes hn hk).1]
    cases hb : Lk.burst f z.toNat t n with
    | none => exact Or.inl (Lk.bu_none hb).1
    | some i =>
      right
      obtain ⟨h1, h2, h3⟩ := Lk.burst_lt hb
      have h4 := Lk.burst_here h3 h2
      refine ⟨i, h1, (Lk.bu_some hb).1, ?_, ?_, ?_⟩
      · rw [(Lk.b_yes (by omega) hk).1]; exact (Lk.bu_none h3).1
      · rw [(Lk.b_yes (by omega) hk).1]; exact (Lk.bu_some h4).1
      · rw [(Lk.b_yes (by omega) hk).2, (Lk.bu_some h4).2]
        unfold Lk.atB at h2
        have h5 := (Bool.and_eq_true_iff.1 (Bool.and_eq_true_iff.1 h2).2).2
        unfold Fl.farB Fl.gtW at h5
        exact eq_of_beq (Bool.and_eq_true_iff.1 h5).1

set_option linter.unusedSimpArgs false in
set_option maxRecDepth 100000 in
set_option maxHeartbeats 8000000 in
theorem burst_law (w : World) (a : Option Addr) (len cap : Nat) (h : Bytes a len w) (_u : len ≤ 9223372036854775807) :
    Calls Try.prog 4 #[.slice a len cap] w fun e w' => e = .returned (.bool true) ∧ Below w.heap.size w w' := by
  clear _u
  by_cases hb1 : 1048576 < len
  · have hz : (1048576 : Int) < (len : Int) := by omega
    clear h
    go_enter Try.func4, Try.ntmps4
    go_wp2
    go_ret
    exact ⟨rfl, Below.refl _ _⟩
  have hz1' : ¬ (1048576 : Int) < (len : Int) := by omega
  have H := Lib.hid h
  clear h
  obtain ⟨i0, hi, hz0, hz1, hz2⟩ := info_parts info_float
  go_enter Try.func4, Try.ntmps4
  go_wp2_with fail
  refine (drawBu_any a len cap w H.out (by omega)).mono ?_
  rintro e wd ⟨v, zs, z, t, rfl, g, cp, rfl, hcp, hz4, hF, hgl, hB⟩
  have HF := Lib.hid hF
  have HB := Lib.hid hB
  clear hF hB
  by_cases hn4 : 400 < zs.length
  · have hz : (400 : Int) < (zs.length : Int) := by omega
    go_wp2_with fail
    go_ret
    exact ⟨rfl, HB.out⟩
  have hnz : ¬ (400 : Int) < (zs.length : Int) := by omega
  have hn : zs.length ≤ 400 := by omega
  clear hn4
  have HCD : Hid (∀ i, i < zs.length → wd.cell? ⟨g, 0 + i, none⟩ = some (.float .f64 (Fl.el zs i))) := fun i hi => by
    obtain ⟨g2, e, hc⟩ := HF.out.at_ hi
    cases e; rw [Nat.zero_add]; exact hc
  obtain ⟨X, hX⟩ : ∃ X, X = Lk.bAt (Fl.el zs) zs.length z t := ⟨_, rfl⟩
  obtain ⟨Y, hY⟩ : ∃ Y, Y = Lk.bAb (Fl.el zs) zs.length z t := ⟨_, rfl⟩
  have HX := Lib.hid hX
  have HY := Lib.hid hY
  have HPT := Lib.hid (burst_parts (Fl.el zs) zs.length z t hn)
  clear hX hY
  have HN1 := Lib.hid (rowO_cells (o := .cells #[] 27) HCD.out)
  go_wp2_with (at_builtin; refine wpList_append_own _ rfl _ _ 23 rfl wd.heap.size 27 i0 (.float .f64 0) 1 8 Try.underlying23 hi hz0 hz1 hz2 rfl (by decide) _ _ _ rfl ((own_start wd).1) ⟨g, 0, none⟩ zs.length cp (zs.map (Value.float .f64)) rfl (by simp) HN1.out (one_cells zs) (len_max zs hn) (len_bytes zs hn) (alloc_le wd) ?_)
  intro v1 w1 hown hgrow hnil
  have HP1 : Hid (Own wd.heap.size v1 zs w1 ∧ Below wd.heap.size wd w1) := own_all rfl (own_start wd) ((Below.refl _ _).alloc (Nat.le_refl _) _) hgrow (by simpa using hown) (by simpa using hnil)
  clear hown hgrow hnil HN1
  obtain ⟨g1, c1, rfl, hg1, hh1, hc1⟩ := HP1.out.1.form
  have HC1 := Lib.hid hc1
  have HB1 := Lib.hid (HB.out.trans (HP1.out.2.mono HB.out.size))
  clear hc1
  go_wp2_with fail
  refine (iBurst_any _ _ _ (Fl.el zs) z t _ (own_at HC1.out)).mono ?_
  rintro e w2 ⟨rfl, hb⟩
  rw [← HX.out, ← HY.out]
  have HBX := Lib.hid (HP1.out.2.trans (hb.mono HP1.out.2.size))
  replace HB := Lib.hid (HB.out.trans (HBX.out.mono HB.out.size))
  replace HF := Lib.hid (HF.out.below HBX.out)
  clear hb HC1 HP1 HB1 HBX HCD hg1 hh1 hgl
  obtain ⟨W2, hW2⟩ : ∃ W', W' = w2.alloc (.cells #[.int .i64 (X), .float .f64 (Y)] 35) := ⟨_, rfl⟩
  have hb : Below w2.heap.size w2 W2 := by rw [hW2]; exact bel_alloc _ _
  have HM2 : Hid (W2.rowIs w2.heap.size 35 2 (rowL (buL (X) (Y)))) := by show World.rowIs _ _ _ _ _; rw [hW2]; exact rowL_alloc w2 (buL (X) (Y)) _
  obtain ⟨m2, hm2⟩ : ∃ g, g = w2.heap.size := ⟨_, rfl⟩
  rw [← hm2] at HM2
  have HW := Lib.hid hW2
  have HGE := Lib.hid hm2
  clear hW2 hm2
  replace HB := Lib.hid (HB.out.trans (hb.mono HB.out.size))
  replace HF := Lib.hid (HF.out.below hb)
  clear hb
  go_upto_region 7 with fail
  rw [← HW.out, ← HGE.out]
  clear HW HGE
  go_wp2_with fail
  refine (sBurst_any _ _ _ (Fl.el zs) z t _ HF.out).mono ?_
  rintro e w3 ⟨rfl, hb⟩
  rw [← HX.out, ← HY.out]
  replace HB := Lib.hid (HB.out.trans (hb.mono HB.out.size))
  replace HF := Lib.hid (HF.out.below hb)
  replace HM2 := Lib.hid (wrow_below HM2.out hb)
  clear hb
  obtain ⟨W3, hW3⟩ : ∃ W', W' = w3.alloc (.cells #[.int .i64 (X), .float .f64 (Y)] 35) := ⟨_, rfl⟩
  have hb : Below w3.heap.size w3 W3 := by rw [hW3]; exact bel_alloc _ _
  have HM3 : Hid (W3.rowIs w3.heap.size 35 2 (rowL (buL (X) (Y)))) := by show World.rowIs _ _ _ _ _; rw [hW3]; exact rowL_alloc w3 (buL (X) (Y)) _
  obtain ⟨m3, hm3⟩ : ∃ g, g = w3.heap.size := ⟨_, rfl⟩
  rw [← hm3] at HM3
  have HW := Lib.hid hW3
  have HGE := Lib.hid hm3
  clear hW3 hm3
  replace HB := Lib.hid (HB.out.trans (hb.mono HB.out.size))
  replace HF := Lib.hid (HF.out.below hb)
  replace HM2 := Lib.hid (wrow_below HM2.out hb)
  clear hb
  go_upto_region 8 with fail
  rw [← HW.out, ← HGE.out]
  clear HW HGE
  obtain ⟨p0, p1, _, _, _⟩ := told2 HM2.out
  obtain ⟨q0, q1, _, _, _⟩ := told2 HM3.out
  have hxx : (X != X) = false := by simp
  go_wp2_with fail
  refine (lwSame_any _ _).mono ?_
  rintro e w4 ⟨rfl, hww⟩
  subst hww
  rcases HPT.out with hN | ⟨i, hin, hXi, hA, hBt, hPos⟩
  · have hX1 : X = -1 := by rw [HX.out]; exact hN
    have hlt : X < 0 := by omega
    go_wp2_with fail
    go_ret
    exact ⟨rfl, HB.out⟩
  · have hX1 : X = (i : Int) := by rw [HX.out]; exact hXi
    have HA := Lib.hid hA
    have HBT := Lib.hid hBt
    have HPO := Lib.hid hPos
    clear hA hBt hPos hXi HPT HX HY q0 q1 hxx HM3
    subst hX1
    have hi0 : (0 : Int) ≤ (i : Int) := by omega
    have hnlt : ¬ (i : Int) < 0 := by omega
    have hic : (i : Int) ≤ (cp : Int) := by omega
    have hic1 : (i : Int) + 1 ≤ (cp : Int) := by omega
    have HCD : Hid (∀ i, i < zs.length → w4.cell? ⟨g, 0 + i, none⟩ = some (.float .f64 (Fl.el zs i))) := fun i hi => by
      obtain ⟨g2, e, hc⟩ := HF.out.at_ hi
      cases e; rw [Nat.zero_add]; exact hc
    have ht5 : (zs.take (i)).length = i := by rw [List.length_take]; omega
    have HT5 := Lib.hid ht5
    have HN5 := Lib.hid (rowO_cells (g := g) (off := 0) (zs := zs.take (i)) (W := w4) (o := .cells #[] 27) (fun j hj => by
      rw [HT5.out] at hj
      rw [take_el hj]
      exact HCD.out j (by omega)))
    clear ht5
    go_wp2_with (at_builtin; refine wpList_append_own _ rfl _ _ 23 rfl w4.heap.size 27 i0 (.float .f64 0) 1 8 Try.underlying23 hi hz0 hz1 hz2 rfl (by decide) _ _ _ rfl ((own_start w4).1) ⟨g, 0, none⟩ (i) cp ((zs.take (i)).map (Value.float .f64)) rfl (by rw [List.length_map, HT5.out, Nat.mul_one]) HN5.out (one_cells _) (by have := len_max (zs.take (i)) (by rw [HT5.out]; omega); rw [HT5.out] at this; exact this) (by have := len_bytes (zs.take (i)) (by rw [HT5.out]; omega); rw [HT5.out] at this; exact this) (alloc_le w4) ?_)
    intro v5 w5 hown hgrow hnil
    have hown2 : w5.ownsRow w4.heap.size 27 1 v5 (zs.take (i)).length ((zs.take (i)).map (Value.float .f64)) := by rw [HT5.out]; first | exact hown | simpa using hown
    have HP5 : Hid (Own w4.heap.size v5 (zs.take (i)) w5 ∧ Below w4.heap.size w4 w5) := own_all rfl (own_start w4) ((Below.refl _ _).alloc (Nat.le_refl _) _) hgrow hown2 (by simpa using hnil)
    clear hown hown2 hgrow hnil HN5
    obtain ⟨g5, c5, rfl, hg5, hh5, hc5⟩ := HP5.out.1.form
    rw [HT5.out]
    have HC5 : Hid (FlAt (some ⟨g5, 0, none⟩) (i) (Fl.el zs) w5) := Or.inr ⟨_, rfl, fun j hj => by rw [hc5 j (by rw [HT5.out]; exact hj), take_el hj]⟩
    have HB5 := Lib.hid (HB.out.trans (HP5.out.2.mono HB.out.size))
    clear hc5
    go_wp2_with fail
    refine (iBurst_any _ _ _ (Fl.el zs) z t _ HC5.out).mono ?_
    rintro e w6 ⟨rfl, hb⟩
    rw [HA.out]
    have HBX := Lib.hid (HP5.out.2.trans (hb.mono HP5.out.2.size))
    replace HB := Lib.hid (HB.out.trans (HBX.out.mono HB.out.size))
    replace HF := Lib.hid (HF.out.below HBX.out)
    replace HM2 := Lib.hid (wrow_below HM2.out HBX.out)
    obtain ⟨Y6, hY6⟩ : ∃ Y', Y' = Lk.bAb (Fl.el zs) i z t := ⟨_, rfl⟩
    rw [← hY6]
    clear hb HC5 HP5 HB5 HBX HCD hg5 hh5 HA hY6 p0 p1
    obtain ⟨W6, hW6⟩ : ∃ W', W' = w6.alloc (.cells #[.int .i64 (-1), .float .f64 (Y6)] 35) := ⟨_, rfl⟩
    have hb : Below w6.heap.size w6 W6 := by rw [hW6]; exact bel_alloc _ _
    have HM6 : Hid (W6.rowIs w6.heap.size 35 2 (rowL (buL (-1) (Y6)))) := by show World.rowIs _ _ _ _ _; rw [hW6]; exact rowL_alloc w6 (buL (-1) (Y6)) _
    obtain ⟨m6, hm6⟩ : ∃ g, g = w6.heap.size := ⟨_, rfl⟩
    rw [← hm6] at HM6
    have HW := Lib.hid hW6
    have HGE := Lib.hid hm6
    clear hW6 hm6
    replace HB := Lib.hid (HB.out.trans (hb.mono HB.out.size))
    replace HF := Lib.hid (HF.out.below hb)
    replace HM2 := Lib.hid (wrow_below HM2.out hb)
    clear hb
    go_upto_region 13 with fail
    rw [← HW.out, ← HGE.out]
    clear HW HGE
    obtain ⟨p0, p1, _, _, _⟩ := told2 HM2.out
    have HCD : Hid (∀ i, i < zs.length → W6.cell? ⟨g, 0 + i, none⟩ = some (.float .f64 (Fl.el zs i))) := fun i hi => by
      obtain ⟨g2, e, hc⟩ := HF.out.at_ hi
      cases e; rw [Nat.zero_add]; exact hc
    have ht7 : (zs.take (i + 1)).length = i + 1 := by rw [List.length_take]; omega
    have HT7 := Lib.hid ht7
    have HN7 := Lib.hid (rowO_cells (g := g) (off := 0) (zs := zs.take (i + 1)) (W := W6) (o := .cells #[] 27) (fun j hj => by
      rw [HT7.out] at hj
      rw [take_el hj]
      exact HCD.out j (by omega)))
    clear ht7
    go_wp2_with (at_builtin; refine wpList_append_own _ rfl _ _ 23 rfl W6.heap.size 27 i0 (.float .f64 0) 1 8 Try.underlying23 hi hz0 hz1 hz2 rfl (by decide) _ _ _ rfl ((own_start W6).1) ⟨g, 0, none⟩ (i + 1) cp ((zs.take (i + 1)).map (Value.float .f64)) rfl (by rw [List.length_map, HT7.out, Nat.mul_one]) HN7.out (one_cells _) (by have := len_max (zs.take (i + 1)) (by rw [HT7.out]; omega); rw [HT7.out] at this; exact this) (by have := len_bytes (zs.take (i + 1)) (by rw [HT7.out]; omega); rw [HT7.out] at this; exact this) (alloc_le W6) ?_)
    intro v7 w7 hown hgrow hnil
    have hown2 : w7.ownsRow W6.heap.size 27 1 v7 (zs.take (i + 1)).length ((zs.take (i + 1)).map (Value.float .f64)) := by rw [HT7.out]; first | exact hown | simpa using hown
    have HP7 : Hid (Own W6.heap.size v7 (zs.take (i + 1)) w7 ∧ Below W6.heap.size W6 w7) := own_all rfl (own_start W6) ((Below.refl _ _).alloc (Nat.le_refl _) _) hgrow hown2 (by simpa using hnil)
    clear hown hown2 hgrow hnil HN7
    obtain ⟨g7, c7, rfl, hg7, hh7, hc7⟩ := HP7.out.1.form
    rw [HT7.out]
    have HC7 : Hid (FlAt (some ⟨g7, 0, none⟩) (i + 1) (Fl.el zs) w7) := Or.inr ⟨_, rfl, fun j hj => by rw [hc7 j (by rw [HT7.out]; exact hj), take_el hj]⟩
    have HB7 := Lib.hid (HB.out.trans (HP7.out.2.mono HB.out.size))
    clear hc7
    go_wp2_with fail
    refine (iBurst_any _ _ _ (Fl.el zs) z t _ HC7.out).mono ?_
    rintro e w8 ⟨rfl, hb⟩
    rw [HBT.out]
    obtain ⟨Y8, hY8⟩ : ∃ Y', Y' = Lk.bAb (Fl.el zs) (i + 1) z t := ⟨_, rfl⟩
    rw [← hY8]
    have hpo : FloatKind.f64.format.order Y8 0 = some .gt := by rw [hY8]; exact HPO.out
    have HBX := Lib.hid (HP7.out.2.trans (hb.mono HP7.out.2.size))
    replace HB := Lib.hid (HB.out.trans (HBX.out.mono HB.out.size))
    replace HM2 := Lib.hid (wrow_below HM2.out HBX.out)
    replace HM6 := Lib.hid (wrow_below HM6.out HBX.out)
    clear hb HC7 HP7 HB7 HBX HCD hg7 hh7 HBT hY8 p0 p1 HF HPO
    obtain ⟨W8, hW8⟩ : ∃ W', W' = w8.alloc (.cells #[.int .i64 ((i : Int)), .float .f64 (Y8)] 35) := ⟨_, rfl⟩
    have hb : Below w8.heap.size w8 W8 := by rw [hW8]; exact bel_alloc _ _
    have HM8 : Hid (W8.rowIs w8.heap.size 35 2 (rowL (buL ((i : Int)) (Y8)))) := by show World.rowIs _ _ _ _ _; rw [hW8]; exact rowL_alloc w8 (buL ((i : Int)) (Y8)) _
    obtain ⟨m8, hm8⟩ : ∃ g, g = w8.heap.size := ⟨_, rfl⟩
    rw [← hm8] at HM8
    have HW := Lib.hid hW8
    have HGE := Lib.hid hm8
    clear hW8 hm8
    replace HB := Lib.hid (HB.out.trans (hb.mono HB.out.size))
    replace HM2 := Lib.hid (wrow_below HM2.out hb)
    replace HM6 := Lib.hid (wrow_below HM6.out hb)
    clear hb
    go_upto_region 14 with fail
    rw [← HW.out, ← HGE.out]
    clear HW HGE
    obtain ⟨p0, p1, _, _, _⟩ := told2 HM2.out
    obtain ⟨q0, q1, _, _, _⟩ := told2 HM6.out
    obtain ⟨r0, r1, _, _, _⟩ := told2 HM8.out
    go_wp2_with fail
    go_ret
    exact ⟨rfl, HB.out⟩
end Go.Proofs.Ytlipgnjknfmikaa
