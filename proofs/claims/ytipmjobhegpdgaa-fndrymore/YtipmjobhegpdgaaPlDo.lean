/-
  The draw of a plan and a set keeps what the law asks of it.
-/
import Derived.Test.YtipmjobhegpdgaaPlPl
import Derived.Test.YtipmjobhegpdgaaPlLawM
namespace Go.Proofs.Ytipmjobhegpdgaa
open Go Go.RowKit Go.Deep

/-- A list of numbers does not lie where a plan lies. -/
theorem isAt_set {a : Option Addr} {N : Nat} {f : Nat → Int} {W : World} {g i : Nat} {T : TypeId} {a0 : Option Addr} {n0 c0 : Nat} {x y : Value} (h : IsAt a N f W) (hr : W.rowIs g T 3 (rowN [.slice a0 n0 c0, x, y])) (v : Value) : IsAt a N f (W.setCell ⟨g, i, none⟩ v) := by
  rcases h with h | ⟨b, e, h⟩
  · exact Or.inl h
  · by_cases hN : N = 0
    · exact Or.inl hN
    refine Or.inr ⟨b, e, fun j hj => ?_⟩
    have hbg : b ≠ g := by
      intro e2
      subst e2
      obtain ⟨⟨k0, _, _⟩, _⟩ := rowN3 hr
      have := h 0 (by omega)
      rw [k0] at this
      cases this
    rw [World.cell?_of_block (w := W) (Below.heap_setCell _ _ _ _ hbg)]
    exact h j hj
set_option maxRecDepth 100000 in
set_option maxHeartbeats 8000000 in
theorem drawOk : DrawOk := by
  intro a len cap w hB hl
  obtain ⟨W, hW⟩ : ∃ W, W = w.alloc (.cells #[.slice none 0 0, .slice none 0 0, .slice none 0 0] 26) := ⟨_, rfl⟩
  have hb : Below w.heap.size w W := by rw [hW]; exact nbel_alloc _ _
  have HR : Hid (W.rowIs w.heap.size 26 3 (rowN [.slice none 0 0, .slice none 0 0, .slice none 0 0])) := by show World.rowIs _ _ _ _ _; rw [hW]; exact rowN_alloc w _ _
  have HB := Lib.hid hb
  have HBY := Lib.hid (hB.below hb)
  have HW := Lib.hid hW
  clear hW hb hB
  go_enter Try.func9, Try.ntmps9
  go_wp2_with fail
  rw [← HW.out]
  clear HW
  refine (source_any a len cap _ HBY.out (by omega)).mono ?_
  rintro e w1 ⟨rfl, hS, hb1⟩
  have hsl := HR.out.lt
  replace HB : Hid (Below w.heap.size w w1) := HB.out.trans (hb1.mono HB.out.size)
  replace HR := Lib.hid (nrow_below HR.out hb1)
  obtain ⟨sb, hsb⟩ : ∃ sb, sb = W.heap.size := ⟨_, rfl⟩
  rw [← hsb] at hS hsl ⊢
  have HS := Lib.hid hS
  clear hS hb1 hsb
  go_wp2_with fail
  refine (dplan_any sb _ HS.out).mono ?_
  rintro e w2 ⟨⟨n, la, lk, fa, fk, wa, wk, rfl, hP, hsm, ho, hfn, hrn, hhn⟩, hD⟩
  have HHB2 : Hid (Below w.heap.size w w2) := HB.out.trans (hD.2.below (by omega) HB.out.size)
  replace HR := Lib.hid (row_chg HR.out (by omega) hD.2)
  obtain ⟨W2, hW2⟩ : ∃ W2, W2 = w2.alloc (.cells #[.slice la n.rn lk, .slice fa n.sn fk, .slice wa n.hn wk] 26) := ⟨_, rfl⟩
  have hb2 : Below w2.heap.size w2 W2 := by rw [hW2]; exact nbel_alloc _ _
  obtain ⟨g5, hg5⟩ : ∃ g5, g5 = w2.heap.size := ⟨_, rfl⟩
  have H5 : Hid (W2.rowIs g5 26 3 (rowN (plL n la lk fa fk wa wk))) := by show World.rowIs _ _ _ _ _; rw [hW2, hg5]; exact rowN_alloc w2 _ _
  have hg5s : sb < g5 ∧ w.heap.size < g5 := by have h1 := hD.1.lt; have h2 := HR.out.lt; omega
  replace HR := Lib.hid (nrow_below HR.out hb2)
  have HSR := Lib.hid (hD.1.below hb2)
  have HP := Lib.hid (hP.below hb2)
  have HB2 : Hid (Below w.heap.size w W2) := HHB2.out.trans (hb2.mono HHB2.out.size)
  have HSM := Lib.hid hsm
  have HO := Lib.hid ho
  have HFN := Lib.hid hfn
  have HW2 := Lib.hid hW2
  clear hP hsm ho hfn hD hb2 HHB2 HB HS hW2
  go_wp2_with fail
  rw [← HW2.out, ← hg5]
  clear HW2 hg5
  refine wp_region_held_drew (S := fun V => V.rowIs g5 26 3 (rowN (plL n la lk fa fk wa wk))) (by kernel_rfl) (nrow_below H5.out (Below.refl _ _).drew) (fun hHeld => ?_)
  obtain ⟨Z, hZ⟩ : ∃ Z, Z = W2.drew := ⟨_, rfl⟩
  have hbz : Below W2.heap.size W2 Z := by rw [hZ]; exact (Below.refl _ _).drew
  replace HR := Lib.hid (nrow_below HR.out hbz)
  replace HSR := Lib.hid (HSR.out.below hbz)
  replace HP := Lib.hid (HP.out.below hbz)
  replace HB2 : Hid (Below w.heap.size w Z) := HB2.out.trans (hbz.mono HB2.out.size)
  rw [← hZ] at hHeld ⊢
  clear hZ hbz H5
  refine take_do (i := 0) (v := (plV n la lk fa fk wa wk)) rfl (by kernel_rfl) (by kernel_rfl) (by kernel_rfl) (fun _ _ _ h => h) (by rfl) ?_ (by assumption) ?_
  · intro w hSw
    obtain ⟨⟨x0, x1, x2⟩, _⟩ := rowN3 hSw
    go_simp
  simp only [Act.put, List.setIfInBounds_toArray, List.set_cons_zero, List.set_cons_succ]
  refine take_do (i := 1) (v := (.pointer (some ⟨sb, 0, none⟩))) rfl (by kernel_rfl) (by kernel_rfl) (by kernel_rfl) (fun _ _ _ h => h) (by rfl) ?_ (by assumption) ?_
  · intro w hSw
    go_simp
  simp only [Act.put, List.setIfInBounds_toArray, List.set_cons_zero, List.set_cons_succ]
  refine take_do (i := 2) (v := (plV n la lk fa fk wa wk)) rfl (by kernel_rfl) (by kernel_rfl) (by kernel_rfl) (fun _ _ _ h => h) (by rfl) ?_ (by assumption) ?_
  · intro w hSw
    obtain ⟨⟨x0, x1, x2⟩, _⟩ := rowN3 hSw
    go_simp
  simp only [Act.put, List.setIfInBounds_toArray, List.set_cons_zero, List.set_cons_succ]
  refine take_call (i := 3) rfl (by kernel_rfl) (fun K2 hK => ?_)
  go_simp
  refine (dshut_any sb n la lk fa fk wa wk _ HSR.out HP.out HO.out HSM.out hrn hhn).mono ?_
  rintro e w3 ⟨v, rfl, ⟨zs, hzl, hown⟩, hD⟩
  have hoz : OwZ 2 1 Z.heap.size v zs.length w3 := ⟨zs, hown⟩
  obtain ⟨sa, sc, hv, hnil⟩ := hoz.shape
  subst hv
  obtain ⟨m, hm⟩ : ∃ m, m = zs.length := ⟨_, rfl⟩
  rw [← hm] at hoz hzl hnil ⊢
  have HOZ := Lib.hid hoz
  have HNIL := Lib.hid hnil
  have HZB : Hid (w.heap.size < Z.heap.size) := HR.out.lt
  replace HP := Lib.hid (HP.out.chg HO.out hD.2)
  replace HR := Lib.hid (row_chg HR.out (by omega) hD.2)
  have HB3 : Hid (Below w.heap.size w w3) := HB2.out.trans (hD.2.below (by omega) HB2.out.size)
  have hR5 := row_chg hHeld (by omega) hD.2
  clear hown hD hoz hm hnil HB2 HSR
  go_wp2_with fail
  refine hK.out _ _ hR5 (fun hHeld2 => ?_)
  clear hK hHeld hR5
  obtain ⟨⟨o0, o1, o2⟩, z0, z1, z2⟩ := rowN3 HR.out
  have hol := HR.out.lt
  obtain ⟨V, hV⟩ : ∃ V, V = ((w3.setCell ⟨w.heap.size, 0, none⟩ (.slice la n.rn lk)).setCell ⟨w.heap.size, 1, none⟩ (.slice fa n.sn fk)).setCell ⟨w.heap.size, 2, none⟩ (.slice wa n.hn wk) := ⟨_, rfl⟩
  have r1 := rowN_put HR.out 0 (.slice la n.rn lk) (by simp)
  have r2 := rowN_put r1 1 (.slice fa n.sn fk) (by simp)
  have r3 := rowN_put r2 2 (.slice wa n.hn wk) (by simp)
  have HRV : Hid (V.rowIs w.heap.size 26 3 (rowN (plL n la lk fa fk wa wk))) := by show World.rowIs _ _ _ _ _; rw [hV]; exact r3
  have HPV : Hid (PlAt n la fa wa V) := by
    show PlAt _ _ _ _ _
    rw [hV]
    have p := HP.out
    exact ⟨isAt_set (isAt_set (isAt_set p.l HR.out _) r1 _) r2 _, isAt_set (isAt_set (isAt_set p.f HR.out _) r1 _) r2 _, isAt_set (isAt_set (isAt_set p.w HR.out _) r1 _) r2 _⟩
  have HOV : Hid (∃ a c f, Value.slice sa m sc = .slice a m c ∧ IsAt a (m * 1) f V) := by
    obtain ⟨a, c, f, e, h1, _⟩ := HOZ.out.at_
    refine ⟨a, c, f, e, ?_⟩
    rw [hV]
    exact isAt_set (isAt_set (isAt_set h1 HR.out _) r1 _) r2 _
  have HBV : Hid (Below w.heap.size w V) := by
    show Below _ _ _
    rw [hV]
    exact ((HB3.out.setCell (p := ⟨w.heap.size, 0, none⟩) (Nat.le_refl _) _).setCell (p := ⟨w.heap.size, 1, none⟩) (Nat.le_refl _) _).setCell (p := ⟨w.heap.size, 2, none⟩) (Nat.le_refl _) _
  have hR5 : V.rowIs g5 26 3 (rowN (plL n la lk fa fk wa wk)) := by
    rw [hV]
    exact nrow_set (nrow_set (nrow_set hHeld2 (p := ⟨w.heap.size, 0, none⟩) (by show g5 ≠ w.heap.size; omega) _) (p := ⟨w.heap.size, 1, none⟩) (by show g5 ≠ w.heap.size; omega) _) (p := ⟨w.heap.size, 2, none⟩) (by show g5 ≠ w.heap.size; omega) _
  have HV := Lib.hid hV
  clear hV r1 r2 r3
  refine take_call (i := 4) rfl (by kernel_rfl) (fun K2 hK => ?_)
  go_simp
  rw [← HV.out]
  refine hK.out _ _ hR5 (fun hHeld => ?_)
  clear hK hHeld2 hR5 HV o0 o1 o2 z0 z1 z2 hol
  refine take_do (i := 5) (v := (.slice sa m sc)) rfl (by kernel_rfl) (by kernel_rfl) (by kernel_rfl) (fun _ _ _ h => h) (by rfl) ?_ (by assumption) ?_
  · intro w hSw
    go_simp
  simp only [Act.put, List.setIfInBounds_toArray, List.set_cons_zero, List.set_cons_succ]
  refine wpAnyH_done (by kernel_rfl) ?_ _
  clear hHeld
  obtain ⟨⟨c0, c1, c2⟩, _⟩ := rowN3 HRV.out
  go_wp2_with fail
  obtain ⟨a9, c9, f9, e9, h9⟩ := HOV.out
  injection e9 with ea _ ec
  subst ea ec
  exact bodyPost_ret (v := .tuple #[plV n la lk fa fk wa wk, .slice sa m sc]) (by simp only [results, Try.results9]; simp [go_sem, c0, c1, c2]) rfl ⟨⟨n, la, lk, fa, fk, wa, wk, sa, m, sc, f9, rfl, HPV.out, HSM.out, HFN.out, by simpa using h9, hzl, fun e => (HNIL.out e).2⟩, HBV.out⟩
theorem dryMore_all (W : World) (a0 : Option Addr) (l0 c0 : Nat) (h0 : Bytes a0 l0 W) (_u0 : l0 ≤ 9223372036854775807) (a1 : Option Addr) (l1 c1 : Nat) (h1 : Bytes a1 l1 W) (_u1 : l1 ≤ 9223372036854775807) :
    Calls Try.prog 3 #[.slice a0 l0 c0, .slice a1 l1 c1] W fun e w' => e = .returned (.bool true) ∧ Below W.heap.size W w' := dryMore_law drawOk a0 l0 c0 a1 l1 c1 W h0 h1
end Go.Proofs.Ytipmjobhegpdgaa
