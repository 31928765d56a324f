/-
  Draws of the chapter of loops: a small float, a Cnum, two Cnums.
-/
import Derived.Test.YthcgffnkpeiddaaFDraw
import Derived.Test.YthcgffnkpeiddaaSource
import Derived.Test.YthcgffnkpeiddaaLpMem
namespace Go.Proofs.Ythcgffnkpeiddaa
open Go.RowKit Go.Deep

attribute [local go_sem] lrun_store_float lrun_store_complex

theorem row_chg {sb g : Nat} {t : TypeId} {m : Nat} {F : Nat → Value} {w w' : World} (h : w.rowIs g t m F) (hc : Chg sb w w') (hne : g ≠ sb) : w'.rowIs g t m F := h.of_block (hc.2.2.2.2 g h.lt hne)
theorem lChg_setNew {sb : Nat} {a b : World} (h : Chg sb a b) {p : Addr} (hp : a.heap.size ≤ p.block) (v : Value) : Chg sb a (b.setCell p v) :=
  ⟨h.1, h.2.1, h.2.2.1, by simpa using h.2.2.2.1, fun k hk hne => (Below.heap_setCell _ _ _ _ (by omega)).trans (h.2.2.2.2 k hk hne)⟩
theorem lset_other {W : World} {F : Nat} (o : Nat) (x : Value) {p : Addr} (hp : p.block ≠ F) : (W.setCell ⟨F, o, none⟩ x).cell? p = W.cell? p := by
  rw [World.cell?_setCell_other _ _ _ _ (fun e => hp (by rw [← e]))]
theorem lSrc_set {sb F : Nat} {W : World} (h1 : Src sb W) (h3 : sb < F) (o : Nat) (x : Value) : Src sb (W.setCell ⟨F, o, none⟩ x) := by
  obtain ⟨p, len, cap, at_, mix, size, ⟨k0, k1, k2, k3, g0, g1, g2, g3⟩, q1, q2, q3, q4, q5, q6⟩ := h1
  have hsF : sb ≠ F := by omega
  refine ⟨p, len, cap, at_, mix, size, ⟨(lset_other _ _ hsF).trans k0, (lset_other _ _ hsF).trans k1, (lset_other _ _ hsF).trans k2, (lset_other _ _ hsF).trans k3, by simpa using g0, by simpa using g1, by simpa using g2, by simpa using g3⟩, q1, q2, q3, q4, q5, fun i hi => ?_⟩
  obtain ⟨cb, co, z, e, hlt, hc, z0, z1⟩ := q6 i hi
  exact ⟨cb, co, z, e, hlt, (lset_other _ _ (by show cb ≠ F; omega)).trans hc, z0, z1⟩

set_option maxRecDepth 100000 in
set_option maxHeartbeats 1000000 in
theorem small_any (sb : Nat) (w : World) (h : Src sb w) :
    Calls Try.prog 47 #[.pointer (some ⟨sb, 0, none⟩)] w fun e w' => (∃ x, e = .returned (.float .f64 x)) ∧ Drew sb w w' := by
  have H : Hid (Src sb w) := h
  clear h
  go_enter Try.func47, Try.ntmps47
  go_wp2_with fail
  refine (one_any sb 12 _ H.out (by omega)).mono ?_
  rintro e w1 ⟨⟨b, rfl⟩, hD⟩
  have HD := Lib.hid hD
  clear hD
  cases b
  · go_wp2_with fail
    refine (n_any sb 4001 _ HD.out.1 (by omega)).mono ?_
    rintro e w2 ⟨⟨u, rfl, u0, u1, _⟩, hD⟩
    have u2 : u < 4001 := u1 (by omega)
    have HD2 : Hid (Drew sb w w2) := ⟨hD.1, HD.out.2.trans hD.2⟩
    clear hD u1 HD
    obtain ⟨g, k, ha⟩ := arith_any .quo (by simp) (floatOfInt .f64 (u - 2000)) 4652007308841189376
    go_wp2_with fail
    go_ret
    exact ⟨⟨_, rfl⟩, HD2.out.drewN _⟩
  · go_wp2_with fail
    refine (float_any sb _ HD.out.1).mono ?_
    rintro e w2 ⟨⟨x, rfl⟩, hD⟩
    have HD2 : Hid (Drew sb w w2) := ⟨hD.1, HD.out.2.trans hD.2⟩
    clear hD HD
    go_wp2_with fail
    go_ret
    exact ⟨⟨_, rfl⟩, HD2.out⟩
/-- The answer's row, while a source is drawn from. -/
theorem cnum_end {sb : Nat} {w W : World} {x y : Nat} (hs : sb < w.heap.size) (hr : W.rowIs w.heap.size 33 2 (rowL (cnL 0 0))) (hd : Drew sb w W) : Drew sb w ((W.setCell ⟨w.heap.size, 0, none⟩ (.float .f64 x)).setCell ⟨w.heap.size, 1, none⟩ (.float .f64 y)) ∧ ((W.setCell ⟨w.heap.size, 0, none⟩ (.float .f64 x)).setCell ⟨w.heap.size, 1, none⟩ (.float .f64 y)).rowIs w.heap.size 33 2 (rowL (cnL x y)) :=
  ⟨⟨lSrc_set (lSrc_set hd.1 hs _ _) hs _ _, lChg_setNew (lChg_setNew hd.2 (Nat.le_refl _) _) (Nat.le_refl _) _⟩, rowL_set (rowL_set hr 0 (.float .f64 x) (by simp)) 1 (.float .f64 y) (by simp)⟩
set_option maxRecDepth 100000 in
set_option maxHeartbeats 1000000 in
theorem cnum_any (sb : Nat) (w : World) (h : Src sb w) :
    Calls Try.prog 44 #[.pointer (some ⟨sb, 0, none⟩)] w fun e w' => (∃ x y, e = .returned (cnV x y)) ∧ Drew sb w w' := by
  have hs : sb < w.heap.size := h.lt
  obtain ⟨W, hW⟩ : ∃ W, W = w.alloc (.cells #[.float .f64 0, .float .f64 0] 33) := ⟨_, rfl⟩
  have hb0 : Below w.heap.size w W := by rw [hW]; exact bel_alloc _ _
  have HD : Hid (Drew sb w W) := ⟨h.below hb0, Chg.of_below hb0⟩
  have HR : Hid (W.rowIs w.heap.size 33 2 (rowL (cnL 0 0))) := by show World.rowIs _ _ _ _ _; rw [hW]; exact rowL_alloc w (cnL 0 0) _
  have HS := Lib.hid hs
  have HW := Lib.hid hW
  clear h hb0 hW hs
  go_enter Try.func44, Try.ntmps44
  go_wp2_with fail
  rw [← HW.out]
  clear HW
  refine (one_any sb 8 _ HD.out.1 (by omega)).mono ?_
  rintro e w1 ⟨⟨b, rfl⟩, hD⟩
  replace HR := Lib.hid (row_chg HR.out hD.2 (by have := HS.out; omega))
  replace HD : Hid (Drew sb w w1) := ⟨hD.1, HD.out.2.trans hD.2⟩
  clear hD
  cases b
  · go_wp2_with fail
    refine (small_any sb _ HD.out.1).mono ?_
    rintro e w2 ⟨⟨x, rfl⟩, hD⟩
    replace HR := Lib.hid (row_chg HR.out hD.2 (by have := HS.out; omega))
    replace HD : Hid (Drew sb w w2) := ⟨hD.1, HD.out.2.trans hD.2⟩
    clear hD
    go_wp2_with fail
    refine (small_any sb _ HD.out.1).mono ?_
    rintro e w3 ⟨⟨y, rfl⟩, hD⟩
    replace HR := Lib.hid (row_chg HR.out hD.2 (by have := HS.out; omega))
    replace HD : Hid (Drew sb w w3) := ⟨hD.1, HD.out.2.trans hD.2⟩
    clear hD
    obtain ⟨c0, c1, f0, f1, l0⟩ := told2 HR.out
    have HE := Lib.hid (cnum_end (x := x) (y := y) HS.out HR.out HD.out)
    clear HR HD
    go_wp2_with fail
    exact bodyPost_ret (v := cnV x y) (by simp [results, Try.results44, go_sem, c0, c1]) rfl ⟨⟨x, y, rfl⟩, HE.out.1⟩
  · go_wp2_with fail
    refine (float_any sb _ HD.out.1).mono ?_
    rintro e w2 ⟨⟨x, rfl⟩, hD⟩
    replace HR := Lib.hid (row_chg HR.out hD.2 (by have := HS.out; omega))
    replace HD : Hid (Drew sb w w2) := ⟨hD.1, HD.out.2.trans hD.2⟩
    clear hD
    go_wp2_with fail
    refine (float_any sb _ HD.out.1).mono ?_
    rintro e w3 ⟨⟨y, rfl⟩, hD⟩
    replace HR := Lib.hid (row_chg HR.out hD.2 (by have := HS.out; omega))
    replace HD : Hid (Drew sb w w3) := ⟨hD.1, HD.out.2.trans hD.2⟩
    clear hD
    obtain ⟨c0, c1, f0, f1, l0⟩ := told2 HR.out
    have HE := Lib.hid (cnum_end (x := x) (y := y) HS.out HR.out HD.out)
    clear HR HD
    go_wp2_with fail
    exact bodyPost_ret (v := cnV x y) (by simp [results, Try.results44, go_sem, c0, c1]) rfl ⟨⟨x, y, rfl⟩, HE.out.1⟩
theorem four_set {w W : World} {x y u v : Nat} {R0 R1 : Nat} (hne : R0 ≠ R1) (h0 : w.heap.size ≤ R0) (h1 : w.heap.size ≤ R1) (r0 : W.rowIs R0 33 2 (rowL (cnL 0 0))) (r1 : W.rowIs R1 33 2 (rowL (cnL 0 0))) (hb : Below w.heap.size w W) :
    ((W.setCell ⟨R0, 0, none⟩ (.float .f64 x)).setCell ⟨R0, 1, none⟩ (.float .f64 y)).rowIs R0 33 2 (rowL (cnL x y)) ∧ ((W.setCell ⟨R0, 0, none⟩ (.float .f64 x)).setCell ⟨R0, 1, none⟩ (.float .f64 y)).rowIs R1 33 2 (rowL (cnL 0 0)) ∧ Below w.heap.size w ((W.setCell ⟨R0, 0, none⟩ (.float .f64 x)).setCell ⟨R0, 1, none⟩ (.float .f64 y)) ∧
    ((((W.setCell ⟨R0, 0, none⟩ (.float .f64 x)).setCell ⟨R0, 1, none⟩ (.float .f64 y)).setCell ⟨R1, 0, none⟩ (.float .f64 u)).setCell ⟨R1, 1, none⟩ (.float .f64 v)).rowIs R0 33 2 (rowL (cnL x y)) ∧
    ((((W.setCell ⟨R0, 0, none⟩ (.float .f64 x)).setCell ⟨R0, 1, none⟩ (.float .f64 y)).setCell ⟨R1, 0, none⟩ (.float .f64 u)).setCell ⟨R1, 1, none⟩ (.float .f64 v)).rowIs R1 33 2 (rowL (cnL u v)) ∧
    Below w.heap.size w ((((W.setCell ⟨R0, 0, none⟩ (.float .f64 x)).setCell ⟨R0, 1, none⟩ (.float .f64 y)).setCell ⟨R1, 0, none⟩ (.float .f64 u)).setCell ⟨R1, 1, none⟩ (.float .f64 v)) := by
  have a0 := rowL_set (rowL_set r0 0 (.float .f64 x) (by simp)) 1 (.float .f64 y) (by simp)
  have a1 : ((W.setCell ⟨R0, 0, none⟩ (.float .f64 x)).setCell ⟨R0, 1, none⟩ (.float .f64 y)).rowIs R1 33 2 (rowL (cnL 0 0)) := (r1.setOther (a := ⟨R0, 0, none⟩) (Ne.symm hne) _).setOther (a := ⟨R0, 1, none⟩) (Ne.symm hne) _
  have a2 := lbelow_set2 hb h0 (.float .f64 x) (.float .f64 y)
  refine ⟨a0, a1, a2, ?_, ?_, ?_⟩
  · exact (a0.setOther (a := ⟨R1, 0, none⟩) hne _).setOther (a := ⟨R1, 1, none⟩) hne _
  · exact rowL_set (rowL_set a1 0 (.float .f64 u) (by simp)) 1 (.float .f64 v) (by simp)
  · exact lbelow_set2 a2 h1 _ _
set_option maxRecDepth 100000 in
set_option maxHeartbeats 2000000 in
theorem two_any (a : Option Addr) (len cap : Nat) (w : World) (h : Bytes a len w) (hl : len ≤ 4194304) :
    Calls Try.prog 40 #[.slice a len cap] w fun e w' => (∃ x y u v, e = .returned (.tuple #[cnV x y, cnV u v])) ∧ Below w.heap.size w w' := by
  obtain ⟨W, hW⟩ : ∃ W, W = (w.alloc (.cells #[.float .f64 0, .float .f64 0] 33)).alloc (.cells #[.float .f64 0, .float .f64 0] 33) := ⟨_, rfl⟩
  have HB : Hid (Below w.heap.size w W) := by show Below _ _ _; rw [hW]; exact (bel_alloc _ _).alloc (by simp) _
  have HR0 : Hid (W.rowIs w.heap.size 33 2 (rowL (cnL 0 0))) := by show World.rowIs _ _ _ _ _; rw [hW]; exact wrow_below (rowL_alloc w (cnL 0 0) _) (bel_alloc _ _)
  have HR1 : Hid (W.rowIs (w.heap.size + 1) 33 2 (rowL (cnL 0 0))) := by show World.rowIs _ _ _ _ _; rw [hW]; exact rowL_alloc' (by simp) (cnL 0 0) _
  have HZ : Hid (W.heap.size = w.heap.size + 2) := by show _ = _; rw [hW]; simp
  have HBY := Lib.hid h
  have HL := Lib.hid hl
  have HW := Lib.hid hW
  clear h hl hW
  go_enter Try.func40, Try.ntmps40
  go_wp2_with fail
  rw [← HW.out]
  clear HW
  refine (source_any a len cap _ (HBY.out.below HB.out) HL.out).mono ?_
  rintro e w1 ⟨rfl, hsrc, hb⟩
  obtain ⟨sb, hsb⟩ : ∃ sb, sb = W.heap.size := ⟨_, rfl⟩
  rw [← hsb] at hsrc ⊢
  have HSB : Hid (sb = w.heap.size + 2) := by show _ = _; rw [hsb]; exact HZ.out
  have HSRC := Lib.hid hsrc
  replace HR0 := Lib.hid (wrow_below HR0.out hb)
  replace HR1 := Lib.hid (wrow_below HR1.out hb)
  replace HB : Hid (Below w.heap.size w w1) := HB.out.trans (hb.mono HB.out.size)
  clear hb hsb hsrc HZ
  go_wp2_with fail
  refine (cnum_any sb _ HSRC.out).mono ?_
  rintro e w2 ⟨⟨x, y, rfl⟩, hD⟩
  replace HR0 := Lib.hid (row_chg HR0.out hD.2 (by have := HSB.out; omega))
  replace HR1 := Lib.hid (row_chg HR1.out hD.2 (by have := HSB.out; omega))
  replace HB : Hid (Below w.heap.size w w2) := HB.out.trans (hD.2.below (by have := HSB.out; omega) HB.out.size)
  replace HSRC := Lib.hid hD.1
  clear hD
  obtain ⟨W3, hW3⟩ : ∃ W3, W3 = w2.alloc (.cells #[.float .f64 x, .float .f64 y] 33) := ⟨_, rfl⟩
  have hb : Below w2.heap.size w2 W3 := by rw [hW3]; exact bel_alloc _ _
  obtain ⟨g5, hg5⟩ : ∃ g5, g5 = w2.heap.size := ⟨_, rfl⟩
  have HR5 : Hid (W3.rowIs g5 33 2 (rowL (cnL x y))) := by show World.rowIs _ _ _ _ _; rw [hW3]; exact rowL_alloc' hg5.symm (cnL x y) _
  have HG5 : Hid (sb < g5) := by show _ < _; rw [hg5]; exact HSRC.out.lt
  have HW3 := Lib.hid hW3
  have HGE := Lib.hid hg5
  replace HR0 := Lib.hid (wrow_below HR0.out hb)
  replace HR1 := Lib.hid (wrow_below HR1.out hb)
  replace HB : Hid (Below w.heap.size w W3) := HB.out.trans (hb.mono HB.out.size)
  replace HSRC := Lib.hid (HSRC.out.below hb)
  clear hb hW3 hg5
  go_wp2_with fail
  rw [← HW3.out, ← HGE.out]
  clear HW3 HGE
  refine wp_region_held_drew (S := fun V => V.rowIs g5 33 2 (rowL (cnL x y))) (by kernel_rfl) (wrow_below HR5.out (Below.refl _ _).drew) (fun hHeld => ?_)
  obtain ⟨Z, hZ⟩ : ∃ Z, Z = W3.drew := ⟨_, rfl⟩
  have hb : Below W3.heap.size W3 Z := by rw [hZ]; exact (Below.refl _ _).drew
  rw [← hZ] at hHeld ⊢
  replace HR0 := Lib.hid (wrow_below HR0.out hb)
  replace HR1 := Lib.hid (wrow_below HR1.out hb)
  replace HB : Hid (Below w.heap.size w Z) := HB.out.trans (hb.mono HB.out.size)
  replace HSRC := Lib.hid (HSRC.out.below hb)
  clear hb hZ HR5
  refine take_do (i := 0) (v := (cnV x y)) rfl (by kernel_rfl) (by kernel_rfl) (by kernel_rfl) (fun _ _ _ h => h) (by rfl) ?_ (by assumption) ?_
  · intro w hSw
    obtain ⟨⟨q0, q1⟩, _⟩ := row2_cells hSw
    go_simp
  simp only [Act.put, List.setIfInBounds_toArray, List.set_cons_zero, List.set_cons_succ]
  refine take_do (i := 1) (v := (.pointer (some ⟨sb, 0, none⟩))) rfl (by kernel_rfl) (by kernel_rfl) (by kernel_rfl) (fun _ _ _ h => h) (by rfl) ?_ (by assumption) ?_
  · intro w hSw
    skip
    go_simp
  simp only [Act.put, List.setIfInBounds_toArray, List.set_cons_zero, List.set_cons_succ]
  refine take_call (i := 2) rfl (by kernel_rfl) (fun K2 hK => ?_)
  go_simp
  refine (cnum_any sb _ HSRC.out).mono ?_
  rintro e Z2 ⟨⟨u, v, rfl⟩, hD⟩
  replace HR0 := Lib.hid (row_chg HR0.out hD.2 (by have := HSB.out; omega))
  replace HR1 := Lib.hid (row_chg HR1.out hD.2 (by have := HSB.out; omega))
  replace HB : Hid (Below w.heap.size w Z2) := HB.out.trans (hD.2.below (by have := HSB.out; omega) HB.out.size)
  have HH := Lib.hid (row_chg hHeld hD.2 (by have := HG5.out; omega))
  clear hD hHeld HSRC
  go_wp2_with fail
  refine hK.out _ _ HH.out (fun hHeld => ?_)
  clear hK HH
  have HF := Lib.hid (four_set (x := x) (y := y) (u := u) (v := v) (w := w) (by omega : w.heap.size ≠ w.heap.size + 1) (Nat.le_refl _) (by omega) HR0.out HR1.out HB.out)
  have HGA : Hid (g5 ≠ w.heap.size ∧ g5 ≠ w.heap.size + 1) := by have h1 := HSB.out; have h2 := HG5.out; exact ⟨by omega, by omega⟩
  refine take_call (i := 3) rfl (by kernel_rfl) (fun K2 hK => ?_)
  obtain ⟨c0, c1, f0, f1, l0⟩ := told2 HR0.out
  go_simp
  clear c0 c1 f0 f1 l0
  refine hK.out _ _ ((hHeld.setOther (a := ⟨w.heap.size, 0, none⟩) HGA.out.1 _).setOther (a := ⟨w.heap.size, 1, none⟩) HGA.out.1 _) (fun hHeld2 => ?_)
  clear hK hHeld
  obtain ⟨c0, c1, f0, f1, l0⟩ := told2 HF.out.2.1
  refine take_call (i := 4) rfl (by kernel_rfl) (fun K2 hK => ?_)
  go_simp
  clear c0 c1 f0 f1 l0
  refine hK.out _ _ ((hHeld2.setOther (a := ⟨w.heap.size + 1, 0, none⟩) HGA.out.2 _).setOther (a := ⟨w.heap.size + 1, 1, none⟩) HGA.out.2 _) (fun hHeld => ?_)
  clear hK hHeld hHeld2
  refine wpAnyH_done (by kernel_rfl) ?_ _
  obtain ⟨c0, c1, f0, f1, l0⟩ := told2 HF.out.2.2.2.1
  obtain ⟨d0, d1, e0, e1, l1⟩ := told2 HF.out.2.2.2.2.1
  go_wp2_with fail
  exact bodyPost_ret (v := .tuple #[cnV x y, cnV u v]) (by simp [results, Try.results40, go_sem, c0, c1, d0, d1]) rfl ⟨⟨x, y, u, v, rfl⟩, HF.out.2.2.2.2.2⟩
end Go.Proofs.Ythcgffnkpeiddaa
