/-
  The model's MeterRead.
-/
import Derived.Test.YtmejmpdljckfgaaDoorMtS1
import Derived.Test.YtmejmpdljckfgaaDoorMtR3
namespace Go.Proofs.YtmejmpdljckfgaaDoor
open Go.RowKit Go.Deep

set_option maxHeartbeats 1000000 in
theorem mtMin_any (a b : Int) (w : World) : Calls Tryd.prog 67 #[.int .i64 a, .int .i64 b] w fun e w' => e = .returned (.int .i64 (min a b)) ∧ w' = w := by
  by_cases h : a < b
  · have e1 : Hid (min a b = a) := by show _ = _; omega
    go_enter Tryd.func67, Tryd.ntmps67
    go_wp2_with fail
    go_ret
    exact ⟨by rw [e1.out]; rfl, rfl⟩
  · have e1 : Hid (min a b = b) := by show _ = _; omega
    go_enter Tryd.func67, Tryd.ntmps67
    go_wp2_with fail
    go_ret
    exact ⟨by rw [e1.out]; rfl, rfl⟩
/-- What stands in the call. -/
structure SrS (w : World) (m : Mt.M) (rd rs : Int) (W : World) : Prop where
  mm : W.rowIs w.heap.size 24 4 (rowN (mtL m))
  r : W.rowIs (w.heap.size + 1) 35 2 (rowN [.int .i64 rd, .int .i64 rs])
  o : W.rowIs (w.heap.size + 1 + 1) 30 6 (rowN (muL Mt.none none 0 0 0))
  old : Below w.heap.size w W
theorem SrS.below {w : World} {m : Mt.M} {rd rs : Int} {W W' : World} (h : SrS w m rd rs W) (hb : Below W.heap.size W W') : SrS w m rd rs W' := ⟨nrow_below h.mm hb, nrow_below h.r hb, nrow_below h.o hb, h.old.trans (hb.mono h.old.size)⟩
/-- What stands once the use and the next meter are made. -/
structure SrN (w : World) (m : Mt.M) (rd rs : Int) (g : Nat) (c d x1 x2 x3 : Int) (W : World) : Prop where
  mm : W.rowIs w.heap.size 24 4 (rowN (mtL m))
  r : W.rowIs (w.heap.size + 1) 35 2 (rowN [.int .i64 rd, .int .i64 rs])
  o : W.rowIs (w.heap.size + 1 + 1) 30 6 (rowN (muL Mt.none none 0 0 0))
  u : W.rowIs g 33 4 (rowN [.int .i64 m.day, .int .i64 rd, .int .i64 c, .int .i64 d])
  n : W.rowIs (g + 1) 24 4 (rowN [.int .i64 m.d, .int .i64 x1, .int .i64 x2, .int .i64 x3])
  lo : w.heap.size + 1 + 1 < g
  old : Below w.heap.size w W
section
variable {w : World} {m : Mt.M} {rd rs : Int} {g : Nat} {c d x1 x2 x3 : Int} {W W' : World}
theorem SrN.below (h : SrN w m rd rs g c d x1 x2 x3 W) (hb : Below W.heap.size W W') : SrN w m rd rs g c d x1 x2 x3 W' := ⟨nrow_below h.mm hb, nrow_below h.r hb, nrow_below h.o hb, nrow_below h.u hb, nrow_below h.n hb, h.lo, h.old.trans (hb.mono h.old.size)⟩
theorem SrN.setU2 (h : SrN w m rd rs g c d x1 x2 x3 W) (x : Int) : SrN w m rd rs g x d x1 x2 x3 (W.setCell ⟨g, 2, none⟩ (.int .i64 x)) := by
  have := h.lo
  exact ⟨nrow_set h.mm (by show w.heap.size ≠ g; omega) _, nrow_set h.r (by show w.heap.size + 1 ≠ g; omega) _, nrow_set h.o (by show w.heap.size + 1 + 1 ≠ g; omega) _, rowN_put h.u 2 (.int .i64 x) (by simp), nrow_set h.n (by show g + 1 ≠ g; omega) _, h.lo, h.old.setCell (p := ⟨g, 2, none⟩) (by show w.heap.size ≤ g; omega) _⟩
theorem SrN.setU3 (h : SrN w m rd rs g c d x1 x2 x3 W) (x : Int) : SrN w m rd rs g c x x1 x2 x3 (W.setCell ⟨g, 3, none⟩ (.int .i64 x)) := by
  have := h.lo
  exact ⟨nrow_set h.mm (by show w.heap.size ≠ g; omega) _, nrow_set h.r (by show w.heap.size + 1 ≠ g; omega) _, nrow_set h.o (by show w.heap.size + 1 + 1 ≠ g; omega) _, rowN_put h.u 3 (.int .i64 x) (by simp), nrow_set h.n (by show g + 1 ≠ g; omega) _, h.lo, h.old.setCell (p := ⟨g, 3, none⟩) (by show w.heap.size ≤ g; omega) _⟩
theorem SrN.setN1 (h : SrN w m rd rs g c d x1 x2 x3 W) (x : Int) : SrN w m rd rs g c d x x2 x3 (W.setCell ⟨g + 1, 1, none⟩ (.int .i64 x)) := by
  have := h.lo
  exact ⟨nrow_set h.mm (by show w.heap.size ≠ g + 1; omega) _, nrow_set h.r (by show w.heap.size + 1 ≠ g + 1; omega) _, nrow_set h.o (by show w.heap.size + 1 + 1 ≠ g + 1; omega) _, nrow_set h.u (by show g ≠ g + 1; omega) _, rowN_put h.n 1 (.int .i64 x) (by simp), h.lo, h.old.setCell (p := ⟨g + 1, 1, none⟩) (by show w.heap.size ≤ g + 1; omega) _⟩
theorem SrN.setN3 (h : SrN w m rd rs g c d x1 x2 x3 W) (x : Int) : SrN w m rd rs g c d x1 x2 x (W.setCell ⟨g + 1, 3, none⟩ (.int .i64 x)) := by
  have := h.lo
  exact ⟨nrow_set h.mm (by show w.heap.size ≠ g + 1; omega) _, nrow_set h.r (by show w.heap.size + 1 ≠ g + 1; omega) _, nrow_set h.o (by show w.heap.size + 1 + 1 ≠ g + 1; omega) _, nrow_set h.u (by show g ≠ g + 1; omega) _, rowN_put h.n 3 (.int .i64 x) (by simp), h.lo, h.old.setCell (p := ⟨g + 1, 3, none⟩) (by show w.heap.size ≤ g + 1; omega) _⟩
theorem SrS.made (h : SrS w m rd rs W) (c d x2 : Int) : SrN w m rd rs W.heap.size c d m.u x2 m.s ((W.alloc (.cells #[.int .i64 m.day, .int .i64 rd, .int .i64 c, .int .i64 d] 33)).alloc (.cells #[.int .i64 m.d, .int .i64 m.u, .int .i64 x2, .int .i64 m.s] 24)) :=
  ⟨nrow_below (nrow_below h.mm (nbel_alloc _ _)) (nbel_alloc _ _), nrow_below (nrow_below h.r (nbel_alloc _ _)) (nbel_alloc _ _), nrow_below (nrow_below h.o (nbel_alloc _ _)) (nbel_alloc _ _), nrow_below (rowN_alloc W [.int .i64 m.day, .int .i64 rd, .int .i64 c, .int .i64 d] _) (nbel_alloc _ _), rowN_alloc' (by simp) [.int .i64 m.d, .int .i64 m.u, .int .i64 x2, .int .i64 m.s] _, h.o.lt, (h.old.alloc h.old.size _).alloc (by have := h.old.size; simp; omega) _⟩
end
set_option maxRecDepth 100000 in
set_option maxHeartbeats 16000000 in
theorem specRead_any (m : Mt.M) (rd rs : Int) (w : World) :
    Calls Tryd.prog 32 #[mtV m, .agg #[.int .i64 rd, .int .i64 rs]] w fun e w' => MuEnd w.heap.size (Mt.ReadOk m rd rs) 1 (Mt.next m rd rs) 1 (Mt.use m (Mt.rd1 rd rs)) e w' ∧ Below w.heap.size w w' := by
  obtain ⟨W, hW⟩ : ∃ W, W = ((w.alloc (.cells #[.int .i64 m.d, .int .i64 m.u, .int .i64 m.day, .int .i64 m.s] 24)).alloc (.cells #[.int .i64 rd, .int .i64 rs] 35)).alloc (.cells #[.int .i64 0, .int .i64 0, .int .i64 0, .int .i64 0, .slice none 0 0, .int .i64 0] 30) := ⟨_, rfl⟩
  have HS0 : Hid (SrS w m rd rs W) := by
    show SrS _ _ _ _ _
    rw [hW]
    exact ⟨nrow_below (nrow_below (rowN_alloc w (mtL m) _) (nbel_alloc _ _)) (nbel_alloc _ _), nrow_below (rowN_alloc' (by simp) [.int .i64 rd, .int .i64 rs] _) (nbel_alloc _ _), rowN_alloc' (by simp) (muL Mt.none none 0 0 0) _, ((nbel_alloc _ _).alloc (by simp) _).alloc (by simp; omega) _⟩
  have HW := Lib.hid hW
  clear hW
  by_cases cr : Mt.Right m
  case neg =>
    have HRT := Lib.hid cr
    have HNO : Hid (¬ Mt.ReadOk m rd rs) := fun h => cr h.1
    clear cr
    go_enter Tryd.func32, Tryd.ntmps32
    go_wp2_with fail
    rw [← HW.out]
    clear HW
    refine wp_region_held_drew (S := SrS w m rd rs) (by kernel_rfl) (HS0.out.below (Below.refl _ _).drew) (fun hHeld => ?_)
    clear HS0
    refine take_do (i := 0) (v := (mtV m)) rfl (by kernel_rfl) (by kernel_rfl) (by kernel_rfl) (fun _ _ _ h => h) (by rfl) ?_ (by assumption) ?_
    · intro w hSw
      obtain ⟨⟨a0, a1, a2, a3⟩, _⟩ := rowN4 hSw.mm; obtain ⟨⟨b0, b1⟩, _⟩ := rowN2 hSw.r
      go_simp
    simp only [Act.put, List.setIfInBounds_toArray, List.set_cons_zero, List.set_cons_succ]
    refine take_call (i := 1) rfl (by kernel_rfl) (fun K2 hK => ?_)
    go_simp
    refine (specRight_any m _).mono ?_
    rintro e w1 ⟨rfl, hb⟩
    rw [Mt.dB_ff HRT.out]
    go_wp2_with fail
    refine hK.out _ _ (hHeld.below hb) (fun hHeld2 => ?_)
    clear hK hHeld hb
    have hHeld := hHeld2
    clear hHeld2
    refine take_do (i := 2) (v := (.bool true)) rfl (by kernel_rfl) (by kernel_rfl) (by kernel_rfl) (fun _ _ _ h => h) (by rfl) ?_ (by assumption) ?_
    · intro w hSw
      obtain ⟨⟨a0, a1, a2, a3⟩, _⟩ := rowN4 hSw.mm; obtain ⟨⟨b0, b1⟩, _⟩ := rowN2 hSw.r
      go_simp
    simp only [Act.put, List.setIfInBounds_toArray, List.set_cons_zero, List.set_cons_succ]
    refine take_do (i := 3) (v := (.bool true)) rfl (by kernel_rfl) (by kernel_rfl) (by kernel_rfl) (fun _ _ _ h => h) (by rfl) ?_ (by assumption) ?_
    · intro w hSw
      obtain ⟨⟨a0, a1, a2, a3⟩, _⟩ := rowN4 hSw.mm; obtain ⟨⟨b0, b1⟩, _⟩ := rowN2 hSw.r
      go_simp
    simp only [Act.put, List.setIfInBounds_toArray, List.set_cons_zero, List.set_cons_succ]
    refine take_skip (i := 4) rfl (by kernel_rfl) (by kernel_rfl) (by kernel_rfl) (fun _ _ _ h => h) (by rfl) (by assumption) ?_
    simp only [Act.put, List.setIfInBounds_toArray, List.set_cons_zero, List.set_cons_succ]
    refine take_skip (i := 5) rfl (by kernel_rfl) (by kernel_rfl) (by kernel_rfl) (fun _ _ _ h => h) (by rfl) (by assumption) ?_
    simp only [Act.put, List.setIfInBounds_toArray, List.set_cons_zero, List.set_cons_succ]
    refine take_skip (i := 6) rfl (by kernel_rfl) (by kernel_rfl) (by kernel_rfl) (fun _ _ _ h => h) (by rfl) (by assumption) ?_
    simp only [Act.put, List.setIfInBounds_toArray, List.set_cons_zero, List.set_cons_succ]
    refine take_skip (i := 7) rfl (by kernel_rfl) (by kernel_rfl) (by kernel_rfl) (fun _ _ _ h => h) (by rfl) (by assumption) ?_
    simp only [Act.put, List.setIfInBounds_toArray, List.set_cons_zero, List.set_cons_succ]
    refine take_skip (i := 8) rfl (by kernel_rfl) (by kernel_rfl) (by kernel_rfl) (fun _ _ _ h => h) (by rfl) (by assumption) ?_
    simp only [Act.put, List.setIfInBounds_toArray, List.set_cons_zero, List.set_cons_succ]
    refine take_do (i := 9) (v := (.bool true)) rfl (by kernel_rfl) (by kernel_rfl) (by kernel_rfl) (fun _ _ _ h => h) (by rfl) ?_ (by assumption) ?_
    · intro w hSw
      obtain ⟨⟨a0, a1, a2, a3⟩, _⟩ := rowN4 hSw.mm; obtain ⟨⟨b0, b1⟩, _⟩ := rowN2 hSw.r
      go_simp
    simp only [Act.put, List.setIfInBounds_toArray, List.set_cons_zero, List.set_cons_succ]
    refine take_do (i := 10) (v := (.bool true)) rfl (by kernel_rfl) (by kernel_rfl) (by kernel_rfl) (fun _ _ _ h => h) (by rfl) ?_ (by assumption) ?_
    · intro w hSw
      obtain ⟨⟨a0, a1, a2, a3⟩, _⟩ := rowN4 hSw.mm; obtain ⟨⟨b0, b1⟩, _⟩ := rowN2 hSw.r
      go_simp
    simp only [Act.put, List.setIfInBounds_toArray, List.set_cons_zero, List.set_cons_succ]
    refine take_skip (i := 11) rfl (by kernel_rfl) (by kernel_rfl) (by kernel_rfl) (fun _ _ _ h => h) (by rfl) (by assumption) ?_
    simp only [Act.put, List.setIfInBounds_toArray, List.set_cons_zero, List.set_cons_succ]
    refine take_skip (i := 12) rfl (by kernel_rfl) (by kernel_rfl) (by kernel_rfl) (fun _ _ _ h => h) (by rfl) (by assumption) ?_
    simp only [Act.put, List.setIfInBounds_toArray, List.set_cons_zero, List.set_cons_succ]
    refine take_skip (i := 13) rfl (by kernel_rfl) (by kernel_rfl) (by kernel_rfl) (fun _ _ _ h => h) (by rfl) (by assumption) ?_
    simp only [Act.put, List.setIfInBounds_toArray, List.set_cons_zero, List.set_cons_succ]
    refine take_do (i := 14) (v := (.bool true)) rfl (by kernel_rfl) (by kernel_rfl) (by kernel_rfl) (fun _ _ _ h => h) (by rfl) ?_ (by assumption) ?_
    · intro w hSw
      obtain ⟨⟨a0, a1, a2, a3⟩, _⟩ := rowN4 hSw.mm; obtain ⟨⟨b0, b1⟩, _⟩ := rowN2 hSw.r
      go_simp
    simp only [Act.put, List.setIfInBounds_toArray, List.set_cons_zero, List.set_cons_succ]
    refine take_do (i := 15) (v := (.bool true)) rfl (by kernel_rfl) (by kernel_rfl) (by kernel_rfl) (fun _ _ _ h => h) (by rfl) ?_ (by assumption) ?_
    · intro w hSw
      obtain ⟨⟨a0, a1, a2, a3⟩, _⟩ := rowN4 hSw.mm; obtain ⟨⟨b0, b1⟩, _⟩ := rowN2 hSw.r
      go_simp
    simp only [Act.put, List.setIfInBounds_toArray, List.set_cons_zero, List.set_cons_succ]
    refine take_skip (i := 16) rfl (by kernel_rfl) (by kernel_rfl) (by kernel_rfl) (fun _ _ _ h => h) (by rfl) (by assumption) ?_
    simp only [Act.put, List.setIfInBounds_toArray, List.set_cons_zero, List.set_cons_succ]
    refine take_skip (i := 17) rfl (by kernel_rfl) (by kernel_rfl) (by kernel_rfl) (fun _ _ _ h => h) (by rfl) (by assumption) ?_
    simp only [Act.put, List.setIfInBounds_toArray, List.set_cons_zero, List.set_cons_succ]
    refine take_skip (i := 18) rfl (by kernel_rfl) (by kernel_rfl) (by kernel_rfl) (fun _ _ _ h => h) (by rfl) (by assumption) ?_
    simp only [Act.put, List.setIfInBounds_toArray, List.set_cons_zero, List.set_cons_succ]
    refine take_do (i := 19) (v := (.bool true)) rfl (by kernel_rfl) (by kernel_rfl) (by kernel_rfl) (fun _ _ _ h => h) (by rfl) ?_ (by assumption) ?_
    · intro w hSw
      obtain ⟨⟨a0, a1, a2, a3⟩, _⟩ := rowN4 hSw.mm; obtain ⟨⟨b0, b1⟩, _⟩ := rowN2 hSw.r
      go_simp
    simp only [Act.put, List.setIfInBounds_toArray, List.set_cons_zero, List.set_cons_succ]
    refine take_do (i := 20) (v := (.bool true)) rfl (by kernel_rfl) (by kernel_rfl) (by kernel_rfl) (fun _ _ _ h => h) (by rfl) ?_ (by assumption) ?_
    · intro w hSw
      obtain ⟨⟨a0, a1, a2, a3⟩, _⟩ := rowN4 hSw.mm; obtain ⟨⟨b0, b1⟩, _⟩ := rowN2 hSw.r
      go_simp
    simp only [Act.put, List.setIfInBounds_toArray, List.set_cons_zero, List.set_cons_succ]
    refine take_skip (i := 21) rfl (by kernel_rfl) (by kernel_rfl) (by kernel_rfl) (fun _ _ _ h => h) (by rfl) (by assumption) ?_
    simp only [Act.put, List.setIfInBounds_toArray, List.set_cons_zero, List.set_cons_succ]
    refine take_skip (i := 22) rfl (by kernel_rfl) (by kernel_rfl) (by kernel_rfl) (fun _ _ _ h => h) (by rfl) (by assumption) ?_
    simp only [Act.put, List.setIfInBounds_toArray, List.set_cons_zero, List.set_cons_succ]
    refine take_skip (i := 23) rfl (by kernel_rfl) (by kernel_rfl) (by kernel_rfl) (fun _ _ _ h => h) (by rfl) (by assumption) ?_
    simp only [Act.put, List.setIfInBounds_toArray, List.set_cons_zero, List.set_cons_succ]
    refine take_skip (i := 24) rfl (by kernel_rfl) (by kernel_rfl) (by kernel_rfl) (fun _ _ _ h => h) (by rfl) (by assumption) ?_
    simp only [Act.put, List.setIfInBounds_toArray, List.set_cons_zero, List.set_cons_succ]
    refine take_skip (i := 25) rfl (by kernel_rfl) (by kernel_rfl) (by kernel_rfl) (fun _ _ _ h => h) (by rfl) (by assumption) ?_
    simp only [Act.put, List.setIfInBounds_toArray, List.set_cons_zero, List.set_cons_succ]
    refine take_skip (i := 26) rfl (by kernel_rfl) (by kernel_rfl) (by kernel_rfl) (fun _ _ _ h => h) (by rfl) (by assumption) ?_
    simp only [Act.put, List.setIfInBounds_toArray, List.set_cons_zero, List.set_cons_succ]
    refine take_do (i := 27) (v := (.bool true)) rfl (by kernel_rfl) (by kernel_rfl) (by kernel_rfl) (fun _ _ _ h => h) (by rfl) ?_ (by assumption) ?_
    · intro w hSw
      obtain ⟨⟨a0, a1, a2, a3⟩, _⟩ := rowN4 hSw.mm; obtain ⟨⟨b0, b1⟩, _⟩ := rowN2 hSw.r
      go_simp
    simp only [Act.put, List.setIfInBounds_toArray, List.set_cons_zero, List.set_cons_succ]
    refine wpAnyH_done (by kernel_rfl) ?_ _
    have HQ := Lib.hid hHeld
    clear hHeld
    obtain ⟨⟨o0, o1, o2, o3, o4, o5⟩, z0, z1, z2, z3, z4, z5⟩ := rowN6 HQ.out.o
    obtain ⟨Z, hZ⟩ : ∃ Z, Z = ((((((w1).setCell ⟨w.heap.size + 1 + 1, 0, none⟩ (.int .i64 0)).setCell ⟨w.heap.size + 1 + 1, 1, none⟩ (.int .i64 0)).setCell ⟨w.heap.size + 1 + 1, 2, none⟩ (.int .i64 0)).setCell ⟨w.heap.size + 1 + 1, 3, none⟩ (.int .i64 0)).setCell ⟨w.heap.size + 1 + 1, 4, none⟩ (.slice none 0 0)).setCell ⟨w.heap.size + 1 + 1, 5, none⟩ (.int .i64 1) := ⟨_, rfl⟩
    have HZR : Hid (Z.rowIs (w.heap.size + 1 + 1) 30 6 (rowN [.int .i64 0, .int .i64 0, .int .i64 0, .int .i64 0, .slice none 0 0, .int .i64 1])) := by show Z.rowIs _ _ _ _; rw [hZ]; exact mput6 HQ.out.o rfl (.int .i64 0) (.int .i64 0) (.int .i64 0) (.int .i64 0) (.slice none 0 0) (.int .i64 1)
    have HZB : Hid (Below w.heap.size w Z) := by show Below _ _ _; rw [hZ]; exact mbel6 (g := w.heap.size + 1 + 1) HQ.out.old (by omega) (.int .i64 0) (.int .i64 0) (.int .i64 0) (.int .i64 0) (.slice none 0 0) (.int .i64 1)
    have HZ := Lib.hid hZ
    clear hZ
    go_wp2_with fail
    rw [← HZ.out]
    obtain ⟨⟨p0, p1, p2, p3, p4, p5⟩, _⟩ := rowN6 HZR.out
    exact bodyPost_ret (v := muV Mt.none none 0 0 1) (by simp only [results, Tryd.results32]; simp [go_sem, p0, p1, p2, p3, p4, p5, Mt.none]) rfl ⟨Or.inl ⟨HNO.out, rfl⟩, HZB.out⟩
  have HRT := Lib.hid cr
  have hday : 0 ≤ m.day ∧ m.day ≤ 100000 := cr.2.1
  clear cr
  by_cases c1 : rd ≤ m.day
  · have HNO : Hid (¬ Mt.ReadOk m rd rs) := fun h => by have := h.2.1.1; omega
    have dd : decide (rd ≤ m.day) = true := by simpa using c1
    go_enter Tryd.func32, Tryd.ntmps32
    go_wp2_with fail
    rw [← HW.out]
    clear HW
    refine wp_region_held_drew (S := SrS w m rd rs) (by kernel_rfl) (HS0.out.below (Below.refl _ _).drew) (fun hHeld => ?_)
    clear HS0
    refine take_do (i := 0) (v := (mtV m)) rfl (by kernel_rfl) (by kernel_rfl) (by kernel_rfl) (fun _ _ _ h => h) (by rfl) ?_ (by assumption) ?_
    · intro w hSw
      obtain ⟨⟨a0, a1, a2, a3⟩, _⟩ := rowN4 hSw.mm; obtain ⟨⟨b0, b1⟩, _⟩ := rowN2 hSw.r
      go_simp
    simp only [Act.put, List.setIfInBounds_toArray, List.set_cons_zero, List.set_cons_succ]
    refine take_call (i := 1) rfl (by kernel_rfl) (fun K2 hK => ?_)
    go_simp
    refine (specRight_any m _).mono ?_
    rintro e w1 ⟨rfl, hb⟩
    rw [Mt.dB_tt HRT.out]
    go_wp2_with fail
    refine hK.out _ _ (hHeld.below hb) (fun hHeld2 => ?_)
    clear hK hHeld hb
    have hHeld := hHeld2
    clear hHeld2
    refine take_do (i := 2) (v := (.bool false)) rfl (by kernel_rfl) (by kernel_rfl) (by kernel_rfl) (fun _ _ _ h => h) (by rfl) ?_ (by assumption) ?_
    · intro w hSw
      obtain ⟨⟨a0, a1, a2, a3⟩, _⟩ := rowN4 hSw.mm; obtain ⟨⟨b0, b1⟩, _⟩ := rowN2 hSw.r
      go_simp
    simp only [Act.put, List.setIfInBounds_toArray, List.set_cons_zero, List.set_cons_succ]
    refine take_do (i := 3) (v := (.bool false)) rfl (by kernel_rfl) (by kernel_rfl) (by kernel_rfl) (fun _ _ _ h => h) (by rfl) ?_ (by assumption) ?_
    · intro w hSw
      obtain ⟨⟨a0, a1, a2, a3⟩, _⟩ := rowN4 hSw.mm; obtain ⟨⟨b0, b1⟩, _⟩ := rowN2 hSw.r
      go_simp
    simp only [Act.put, List.setIfInBounds_toArray, List.set_cons_zero, List.set_cons_succ]
    refine take_do (i := 4) (v := (.pointer (some ⟨w.heap.size + 1, 0, none⟩))) rfl (by kernel_rfl) (by kernel_rfl) (by kernel_rfl) (fun _ _ _ h => h) (by rfl) ?_ (by assumption) ?_
    · intro w hSw
      obtain ⟨⟨a0, a1, a2, a3⟩, _⟩ := rowN4 hSw.mm; obtain ⟨⟨b0, b1⟩, _⟩ := rowN2 hSw.r
      go_simp
    simp only [Act.put, List.setIfInBounds_toArray, List.set_cons_zero, List.set_cons_succ]
    refine take_do (i := 5) (v := (.int .i64 rd)) rfl (by kernel_rfl) (by kernel_rfl) (by kernel_rfl) (fun _ _ _ h => h) (by rfl) ?_ (by assumption) ?_
    · intro w hSw
      obtain ⟨⟨a0, a1, a2, a3⟩, _⟩ := rowN4 hSw.mm; obtain ⟨⟨b0, b1⟩, _⟩ := rowN2 hSw.r
      go_simp
    simp only [Act.put, List.setIfInBounds_toArray, List.set_cons_zero, List.set_cons_succ]
    refine take_do (i := 6) (v := (.pointer (some ⟨w.heap.size, 2, none⟩))) rfl (by kernel_rfl) (by kernel_rfl) (by kernel_rfl) (fun _ _ _ h => h) (by rfl) ?_ (by assumption) ?_
    · intro w hSw
      obtain ⟨⟨a0, a1, a2, a3⟩, _⟩ := rowN4 hSw.mm; obtain ⟨⟨b0, b1⟩, _⟩ := rowN2 hSw.r
      go_simp
    simp only [Act.put, List.setIfInBounds_toArray, List.set_cons_zero, List.set_cons_succ]
    refine take_do (i := 7) (v := (.int .i64 m.day)) rfl (by kernel_rfl) (by kernel_rfl) (by kernel_rfl) (fun _ _ _ h => h) (by rfl) ?_ (by assumption) ?_
    · intro w hSw
      obtain ⟨⟨a0, a1, a2, a3⟩, _⟩ := rowN4 hSw.mm; obtain ⟨⟨b0, b1⟩, _⟩ := rowN2 hSw.r
      go_simp
    simp only [Act.put, List.setIfInBounds_toArray, List.set_cons_zero, List.set_cons_succ]
    refine take_do (i := 8) (v := (.bool true)) rfl (by kernel_rfl) (by kernel_rfl) (by kernel_rfl) (fun _ _ _ h => h) (by rfl) ?_ (by assumption) ?_
    · intro w hSw
      obtain ⟨⟨a0, a1, a2, a3⟩, _⟩ := rowN4 hSw.mm; obtain ⟨⟨b0, b1⟩, _⟩ := rowN2 hSw.r
      go_simp
    simp only [Act.put, List.setIfInBounds_toArray, List.set_cons_zero, List.set_cons_succ]
    refine take_do (i := 9) (v := (.bool true)) rfl (by kernel_rfl) (by kernel_rfl) (by kernel_rfl) (fun _ _ _ h => h) (by rfl) ?_ (by assumption) ?_
    · intro w hSw
      obtain ⟨⟨a0, a1, a2, a3⟩, _⟩ := rowN4 hSw.mm; obtain ⟨⟨b0, b1⟩, _⟩ := rowN2 hSw.r
      go_simp
    simp only [Act.put, List.setIfInBounds_toArray, List.set_cons_zero, List.set_cons_succ]
    refine take_do (i := 10) (v := (.bool true)) rfl (by kernel_rfl) (by kernel_rfl) (by kernel_rfl) (fun _ _ _ h => h) (by rfl) ?_ (by assumption) ?_
    · intro w hSw
      obtain ⟨⟨a0, a1, a2, a3⟩, _⟩ := rowN4 hSw.mm; obtain ⟨⟨b0, b1⟩, _⟩ := rowN2 hSw.r
      go_simp
    simp only [Act.put, List.setIfInBounds_toArray, List.set_cons_zero, List.set_cons_succ]
    refine take_skip (i := 11) rfl (by kernel_rfl) (by kernel_rfl) (by kernel_rfl) (fun _ _ _ h => h) (by rfl) (by assumption) ?_
    simp only [Act.put, List.setIfInBounds_toArray, List.set_cons_zero, List.set_cons_succ]
    refine take_skip (i := 12) rfl (by kernel_rfl) (by kernel_rfl) (by kernel_rfl) (fun _ _ _ h => h) (by rfl) (by assumption) ?_
    simp only [Act.put, List.setIfInBounds_toArray, List.set_cons_zero, List.set_cons_succ]
    refine take_skip (i := 13) rfl (by kernel_rfl) (by kernel_rfl) (by kernel_rfl) (fun _ _ _ h => h) (by rfl) (by assumption) ?_
    simp only [Act.put, List.setIfInBounds_toArray, List.set_cons_zero, List.set_cons_succ]
    refine take_do (i := 14) (v := (.bool true)) rfl (by kernel_rfl) (by kernel_rfl) (by kernel_rfl) (fun _ _ _ h => h) (by rfl) ?_ (by assumption) ?_
    · intro w hSw
      obtain ⟨⟨a0, a1, a2, a3⟩, _⟩ := rowN4 hSw.mm; obtain ⟨⟨b0, b1⟩, _⟩ := rowN2 hSw.r
      go_simp
    simp only [Act.put, List.setIfInBounds_toArray, List.set_cons_zero, List.set_cons_succ]
    refine take_do (i := 15) (v := (.bool true)) rfl (by kernel_rfl) (by kernel_rfl) (by kernel_rfl) (fun _ _ _ h => h) (by rfl) ?_ (by assumption) ?_
    · intro w hSw
      obtain ⟨⟨a0, a1, a2, a3⟩, _⟩ := rowN4 hSw.mm; obtain ⟨⟨b0, b1⟩, _⟩ := rowN2 hSw.r
      go_simp
    simp only [Act.put, List.setIfInBounds_toArray, List.set_cons_zero, List.set_cons_succ]
    refine take_skip (i := 16) rfl (by kernel_rfl) (by kernel_rfl) (by kernel_rfl) (fun _ _ _ h => h) (by rfl) (by assumption) ?_
    simp only [Act.put, List.setIfInBounds_toArray, List.set_cons_zero, List.set_cons_succ]
    refine take_skip (i := 17) rfl (by kernel_rfl) (by kernel_rfl) (by kernel_rfl) (fun _ _ _ h => h) (by rfl) (by assumption) ?_
    simp only [Act.put, List.setIfInBounds_toArray, List.set_cons_zero, List.set_cons_succ]
    refine take_skip (i := 18) rfl (by kernel_rfl) (by kernel_rfl) (by kernel_rfl) (fun _ _ _ h => h) (by rfl) (by assumption) ?_
    simp only [Act.put, List.setIfInBounds_toArray, List.set_cons_zero, List.set_cons_succ]
    refine take_do (i := 19) (v := (.bool true)) rfl (by kernel_rfl) (by kernel_rfl) (by kernel_rfl) (fun _ _ _ h => h) (by rfl) ?_ (by assumption) ?_
    · intro w hSw
      obtain ⟨⟨a0, a1, a2, a3⟩, _⟩ := rowN4 hSw.mm; obtain ⟨⟨b0, b1⟩, _⟩ := rowN2 hSw.r
      go_simp
    simp only [Act.put, List.setIfInBounds_toArray, List.set_cons_zero, List.set_cons_succ]
    refine take_do (i := 20) (v := (.bool true)) rfl (by kernel_rfl) (by kernel_rfl) (by kernel_rfl) (fun _ _ _ h => h) (by rfl) ?_ (by assumption) ?_
    · intro w hSw
      obtain ⟨⟨a0, a1, a2, a3⟩, _⟩ := rowN4 hSw.mm; obtain ⟨⟨b0, b1⟩, _⟩ := rowN2 hSw.r
      go_simp
    simp only [Act.put, List.setIfInBounds_toArray, List.set_cons_zero, List.set_cons_succ]
    refine take_skip (i := 21) rfl (by kernel_rfl) (by kernel_rfl) (by kernel_rfl) (fun _ _ _ h => h) (by rfl) (by assumption) ?_
    simp only [Act.put, List.setIfInBounds_toArray, List.set_cons_zero, List.set_cons_succ]
    refine take_skip (i := 22) rfl (by kernel_rfl) (by kernel_rfl) (by kernel_rfl) (fun _ _ _ h => h) (by rfl) (by assumption) ?_
    simp only [Act.put, List.setIfInBounds_toArray, List.set_cons_zero, List.set_cons_succ]
    refine take_skip (i := 23) rfl (by kernel_rfl) (by kernel_rfl) (by kernel_rfl) (fun _ _ _ h => h) (by rfl) (by assumption) ?_
    simp only [Act.put, List.setIfInBounds_toArray, List.set_cons_zero, List.set_cons_succ]
    refine take_skip (i := 24) rfl (by kernel_rfl) (by kernel_rfl) (by kernel_rfl) (fun _ _ _ h => h) (by rfl) (by assumption) ?_
    simp only [Act.put, List.setIfInBounds_toArray, List.set_cons_zero, List.set_cons_succ]
    refine take_skip (i := 25) rfl (by kernel_rfl) (by kernel_rfl) (by kernel_rfl) (fun _ _ _ h => h) (by rfl) (by assumption) ?_
    simp only [Act.put, List.setIfInBounds_toArray, List.set_cons_zero, List.set_cons_succ]
    refine take_skip (i := 26) rfl (by kernel_rfl) (by kernel_rfl) (by kernel_rfl) (fun _ _ _ h => h) (by rfl) (by assumption) ?_
    simp only [Act.put, List.setIfInBounds_toArray, List.set_cons_zero, List.set_cons_succ]
    refine take_do (i := 27) (v := (.bool true)) rfl (by kernel_rfl) (by kernel_rfl) (by kernel_rfl) (fun _ _ _ h => h) (by rfl) ?_ (by assumption) ?_
    · intro w hSw
      obtain ⟨⟨a0, a1, a2, a3⟩, _⟩ := rowN4 hSw.mm; obtain ⟨⟨b0, b1⟩, _⟩ := rowN2 hSw.r
      go_simp
    simp only [Act.put, List.setIfInBounds_toArray, List.set_cons_zero, List.set_cons_succ]
    refine wpAnyH_done (by kernel_rfl) ?_ _
    have HQ := Lib.hid hHeld
    clear hHeld
    obtain ⟨⟨o0, o1, o2, o3, o4, o5⟩, z0, z1, z2, z3, z4, z5⟩ := rowN6 HQ.out.o
    obtain ⟨Z, hZ⟩ : ∃ Z, Z = ((((((w1).setCell ⟨w.heap.size + 1 + 1, 0, none⟩ (.int .i64 0)).setCell ⟨w.heap.size + 1 + 1, 1, none⟩ (.int .i64 0)).setCell ⟨w.heap.size + 1 + 1, 2, none⟩ (.int .i64 0)).setCell ⟨w.heap.size + 1 + 1, 3, none⟩ (.int .i64 0)).setCell ⟨w.heap.size + 1 + 1, 4, none⟩ (.slice none 0 0)).setCell ⟨w.heap.size + 1 + 1, 5, none⟩ (.int .i64 1) := ⟨_, rfl⟩
    have HZR : Hid (Z.rowIs (w.heap.size + 1 + 1) 30 6 (rowN [.int .i64 0, .int .i64 0, .int .i64 0, .int .i64 0, .slice none 0 0, .int .i64 1])) := by show Z.rowIs _ _ _ _; rw [hZ]; exact mput6 HQ.out.o rfl (.int .i64 0) (.int .i64 0) (.int .i64 0) (.int .i64 0) (.slice none 0 0) (.int .i64 1)
    have HZB : Hid (Below w.heap.size w Z) := by show Below _ _ _; rw [hZ]; exact mbel6 (g := w.heap.size + 1 + 1) HQ.out.old (by omega) (.int .i64 0) (.int .i64 0) (.int .i64 0) (.int .i64 0) (.slice none 0 0) (.int .i64 1)
    have HZ := Lib.hid hZ
    clear hZ
    go_wp2_with fail
    rw [← HZ.out]
    obtain ⟨⟨p0, p1, p2, p3, p4, p5⟩, _⟩ := rowN6 HZR.out
    exact bodyPost_ret (v := muV Mt.none none 0 0 1) (by simp only [results, Tryd.results32]; simp [go_sem, p0, p1, p2, p3, p4, p5, Mt.none]) rfl ⟨Or.inl ⟨HNO.out, rfl⟩, HZB.out⟩
  have dc1 : decide (rd ≤ m.day) = false := by simpa using c1
  by_cases c2 : 100000 < rd
  · have HNO : Hid (¬ Mt.ReadOk m rd rs) := fun h => by have := h.2.1.2; omega
    have dd : decide (100000 < rd) = true := by simpa using c2
    go_enter Tryd.func32, Tryd.ntmps32
    go_wp2_with fail
    rw [← HW.out]
    clear HW
    refine wp_region_held_drew (S := SrS w m rd rs) (by kernel_rfl) (HS0.out.below (Below.refl _ _).drew) (fun hHeld => ?_)
    clear HS0
    refine take_do (i := 0) (v := (mtV m)) rfl (by kernel_rfl) (by kernel_rfl) (by kernel_rfl) (fun _ _ _ h => h) (by rfl) ?_ (by assumption) ?_
    · intro w hSw
      obtain ⟨⟨a0, a1, a2, a3⟩, _⟩ := rowN4 hSw.mm; obtain ⟨⟨b0, b1⟩, _⟩ := rowN2 hSw.r
      go_simp
    simp only [Act.put, List.setIfInBounds_toArray, List.set_cons_zero, List.set_cons_succ]
    refine take_call (i := 1) rfl (by kernel_rfl) (fun K2 hK => ?_)
    go_simp
    refine (specRight_any m _).mono ?_
    rintro e w1 ⟨rfl, hb⟩
    rw [Mt.dB_tt HRT.out]
    go_wp2_with fail
    refine hK.out _ _ (hHeld.below hb) (fun hHeld2 => ?_)
    clear hK hHeld hb
    have hHeld := hHeld2
    clear hHeld2
    refine take_do (i := 2) (v := (.bool false)) rfl (by kernel_rfl) (by kernel_rfl) (by kernel_rfl) (fun _ _ _ h => h) (by rfl) ?_ (by assumption) ?_
    · intro w hSw
      obtain ⟨⟨a0, a1, a2, a3⟩, _⟩ := rowN4 hSw.mm; obtain ⟨⟨b0, b1⟩, _⟩ := rowN2 hSw.r
      go_simp
    simp only [Act.put, List.setIfInBounds_toArray, List.set_cons_zero, List.set_cons_succ]
    refine take_do (i := 3) (v := (.bool false)) rfl (by kernel_rfl) (by kernel_rfl) (by kernel_rfl) (fun _ _ _ h => h) (by rfl) ?_ (by assumption) ?_
    · intro w hSw
      obtain ⟨⟨a0, a1, a2, a3⟩, _⟩ := rowN4 hSw.mm; obtain ⟨⟨b0, b1⟩, _⟩ := rowN2 hSw.r
      go_simp
    simp only [Act.put, List.setIfInBounds_toArray, List.set_cons_zero, List.set_cons_succ]
    refine take_do (i := 4) (v := (.pointer (some ⟨w.heap.size + 1, 0, none⟩))) rfl (by kernel_rfl) (by kernel_rfl) (by kernel_rfl) (fun _ _ _ h => h) (by rfl) ?_ (by assumption) ?_
    · intro w hSw
      obtain ⟨⟨a0, a1, a2, a3⟩, _⟩ := rowN4 hSw.mm; obtain ⟨⟨b0, b1⟩, _⟩ := rowN2 hSw.r
      go_simp
    simp only [Act.put, List.setIfInBounds_toArray, List.set_cons_zero, List.set_cons_succ]
    refine take_do (i := 5) (v := (.int .i64 rd)) rfl (by kernel_rfl) (by kernel_rfl) (by kernel_rfl) (fun _ _ _ h => h) (by rfl) ?_ (by assumption) ?_
    · intro w hSw
      obtain ⟨⟨a0, a1, a2, a3⟩, _⟩ := rowN4 hSw.mm; obtain ⟨⟨b0, b1⟩, _⟩ := rowN2 hSw.r
      go_simp
    simp only [Act.put, List.setIfInBounds_toArray, List.set_cons_zero, List.set_cons_succ]
    refine take_do (i := 6) (v := (.pointer (some ⟨w.heap.size, 2, none⟩))) rfl (by kernel_rfl) (by kernel_rfl) (by kernel_rfl) (fun _ _ _ h => h) (by rfl) ?_ (by assumption) ?_
    · intro w hSw
      obtain ⟨⟨a0, a1, a2, a3⟩, _⟩ := rowN4 hSw.mm; obtain ⟨⟨b0, b1⟩, _⟩ := rowN2 hSw.r
      go_simp
    simp only [Act.put, List.setIfInBounds_toArray, List.set_cons_zero, List.set_cons_succ]
    refine take_do (i := 7) (v := (.int .i64 m.day)) rfl (by kernel_rfl) (by kernel_rfl) (by kernel_rfl) (fun _ _ _ h => h) (by rfl) ?_ (by assumption) ?_
    · intro w hSw
      obtain ⟨⟨a0, a1, a2, a3⟩, _⟩ := rowN4 hSw.mm; obtain ⟨⟨b0, b1⟩, _⟩ := rowN2 hSw.r
      go_simp
    simp only [Act.put, List.setIfInBounds_toArray, List.set_cons_zero, List.set_cons_succ]
    refine take_do (i := 8) (v := (.bool false)) rfl (by kernel_rfl) (by kernel_rfl) (by kernel_rfl) (fun _ _ _ h => h) (by rfl) ?_ (by assumption) ?_
    · intro w hSw
      obtain ⟨⟨a0, a1, a2, a3⟩, _⟩ := rowN4 hSw.mm; obtain ⟨⟨b0, b1⟩, _⟩ := rowN2 hSw.r
      go_simp
    simp only [Act.put, List.setIfInBounds_toArray, List.set_cons_zero, List.set_cons_succ]
    refine take_do (i := 9) (v := (.bool false)) rfl (by kernel_rfl) (by kernel_rfl) (by kernel_rfl) (fun _ _ _ h => h) (by rfl) ?_ (by assumption) ?_
    · intro w hSw
      obtain ⟨⟨a0, a1, a2, a3⟩, _⟩ := rowN4 hSw.mm; obtain ⟨⟨b0, b1⟩, _⟩ := rowN2 hSw.r
      go_simp
    simp only [Act.put, List.setIfInBounds_toArray, List.set_cons_zero, List.set_cons_succ]
    refine take_do (i := 10) (v := (.bool false)) rfl (by kernel_rfl) (by kernel_rfl) (by kernel_rfl) (fun _ _ _ h => h) (by rfl) ?_ (by assumption) ?_
    · intro w hSw
      obtain ⟨⟨a0, a1, a2, a3⟩, _⟩ := rowN4 hSw.mm; obtain ⟨⟨b0, b1⟩, _⟩ := rowN2 hSw.r
      go_simp
    simp only [Act.put, List.setIfInBounds_toArray, List.set_cons_zero, List.set_cons_succ]
    refine take_do (i := 11) (v := (.pointer (some ⟨w.heap.size + 1, 0, none⟩))) rfl (by kernel_rfl) (by kernel_rfl) (by kernel_rfl) (fun _ _ _ h => h) (by rfl) ?_ (by assumption) ?_
    · intro w hSw
      obtain ⟨⟨a0, a1, a2, a3⟩, _⟩ := rowN4 hSw.mm; obtain ⟨⟨b0, b1⟩, _⟩ := rowN2 hSw.r
      go_simp
    simp only [Act.put, List.setIfInBounds_toArray, List.set_cons_zero, List.set_cons_succ]
    refine take_do (i := 12) (v := (.int .i64 rd)) rfl (by kernel_rfl) (by kernel_rfl) (by kernel_rfl) (fun _ _ _ h => h) (by rfl) ?_ (by assumption) ?_
    · intro w hSw
      obtain ⟨⟨a0, a1, a2, a3⟩, _⟩ := rowN4 hSw.mm; obtain ⟨⟨b0, b1⟩, _⟩ := rowN2 hSw.r
      go_simp
    simp only [Act.put, List.setIfInBounds_toArray, List.set_cons_zero, List.set_cons_succ]
    refine take_do (i := 13) (v := (.bool true)) rfl (by kernel_rfl) (by kernel_rfl) (by kernel_rfl) (fun _ _ _ h => h) (by rfl) ?_ (by assumption) ?_
    · intro w hSw
      obtain ⟨⟨a0, a1, a2, a3⟩, _⟩ := rowN4 hSw.mm; obtain ⟨⟨b0, b1⟩, _⟩ := rowN2 hSw.r
      go_simp
    simp only [Act.put, List.setIfInBounds_toArray, List.set_cons_zero, List.set_cons_succ]
    refine take_do (i := 14) (v := (.bool true)) rfl (by kernel_rfl) (by kernel_rfl) (by kernel_rfl) (fun _ _ _ h => h) (by rfl) ?_ (by assumption) ?_
    · intro w hSw
      obtain ⟨⟨a0, a1, a2, a3⟩, _⟩ := rowN4 hSw.mm; obtain ⟨⟨b0, b1⟩, _⟩ := rowN2 hSw.r
      go_simp
    simp only [Act.put, List.setIfInBounds_toArray, List.set_cons_zero, List.set_cons_succ]
    refine take_do (i := 15) (v := (.bool true)) rfl (by kernel_rfl) (by kernel_rfl) (by kernel_rfl) (fun _ _ _ h => h) (by rfl) ?_ (by assumption) ?_
    · intro w hSw
      obtain ⟨⟨a0, a1, a2, a3⟩, _⟩ := rowN4 hSw.mm; obtain ⟨⟨b0, b1⟩, _⟩ := rowN2 hSw.r
      go_simp
    simp only [Act.put, List.setIfInBounds_toArray, List.set_cons_zero, List.set_cons_succ]
    refine take_skip (i := 16) rfl (by kernel_rfl) (by kernel_rfl) (by kernel_rfl) (fun _ _ _ h => h) (by rfl) (by assumption) ?_
    simp only [Act.put, List.setIfInBounds_toArray, List.set_cons_zero, List.set_cons_succ]
    refine take_skip (i := 17) rfl (by kernel_rfl) (by kernel_rfl) (by kernel_rfl) (fun _ _ _ h => h) (by rfl) (by assumption) ?_
    simp only [Act.put, List.setIfInBounds_toArray, List.set_cons_zero, List.set_cons_succ]
    refine take_skip (i := 18) rfl (by kernel_rfl) (by kernel_rfl) (by kernel_rfl) (fun _ _ _ h => h) (by rfl) (by assumption) ?_
    simp only [Act.put, List.setIfInBounds_toArray, List.set_cons_zero, List.set_cons_succ]
    refine take_do (i := 19) (v := (.bool true)) rfl (by kernel_rfl) (by kernel_rfl) (by kernel_rfl) (fun _ _ _ h => h) (by rfl) ?_ (by assumption) ?_
    · intro w hSw
      obtain ⟨⟨a0, a1, a2, a3⟩, _⟩ := rowN4 hSw.mm; obtain ⟨⟨b0, b1⟩, _⟩ := rowN2 hSw.r
      go_simp
    simp only [Act.put, List.setIfInBounds_toArray, List.set_cons_zero, List.set_cons_succ]
    refine take_do (i := 20) (v := (.bool true)) rfl (by kernel_rfl) (by kernel_rfl) (by kernel_rfl) (fun _ _ _ h => h) (by rfl) ?_ (by assumption) ?_
    · intro w hSw
      obtain ⟨⟨a0, a1, a2, a3⟩, _⟩ := rowN4 hSw.mm; obtain ⟨⟨b0, b1⟩, _⟩ := rowN2 hSw.r
      go_simp
    simp only [Act.put, List.setIfInBounds_toArray, List.set_cons_zero, List.set_cons_succ]
    refine take_skip (i := 21) rfl (by kernel_rfl) (by kernel_rfl) (by kernel_rfl) (fun _ _ _ h => h) (by rfl) (by assumption) ?_
    simp only [Act.put, List.setIfInBounds_toArray, List.set_cons_zero, List.set_cons_succ]
    refine take_skip (i := 22) rfl (by kernel_rfl) (by kernel_rfl) (by kernel_rfl) (fun _ _ _ h => h) (by rfl) (by assumption) ?_
    simp only [Act.put, List.setIfInBounds_toArray, List.set_cons_zero, List.set_cons_succ]
    refine take_skip (i := 23) rfl (by kernel_rfl) (by kernel_rfl) (by kernel_rfl) (fun _ _ _ h => h) (by rfl) (by assumption) ?_
    simp only [Act.put, List.setIfInBounds_toArray, List.set_cons_zero, List.set_cons_succ]
    refine take_skip (i := 24) rfl (by kernel_rfl) (by kernel_rfl) (by kernel_rfl) (fun _ _ _ h => h) (by rfl) (by assumption) ?_
    simp only [Act.put, List.setIfInBounds_toArray, List.set_cons_zero, List.set_cons_succ]
    refine take_skip (i := 25) rfl (by kernel_rfl) (by kernel_rfl) (by kernel_rfl) (fun _ _ _ h => h) (by rfl) (by assumption) ?_
    simp only [Act.put, List.setIfInBounds_toArray, List.set_cons_zero, List.set_cons_succ]
    refine take_skip (i := 26) rfl (by kernel_rfl) (by kernel_rfl) (by kernel_rfl) (fun _ _ _ h => h) (by rfl) (by assumption) ?_
    simp only [Act.put, List.setIfInBounds_toArray, List.set_cons_zero, List.set_cons_succ]
    refine take_do (i := 27) (v := (.bool true)) rfl (by kernel_rfl) (by kernel_rfl) (by kernel_rfl) (fun _ _ _ h => h) (by rfl) ?_ (by assumption) ?_
    · intro w hSw
      obtain ⟨⟨a0, a1, a2, a3⟩, _⟩ := rowN4 hSw.mm; obtain ⟨⟨b0, b1⟩, _⟩ := rowN2 hSw.r
      go_simp
    simp only [Act.put, List.setIfInBounds_toArray, List.set_cons_zero, List.set_cons_succ]
    refine wpAnyH_done (by kernel_rfl) ?_ _
    have HQ := Lib.hid hHeld
    clear hHeld
    obtain ⟨⟨o0, o1, o2, o3, o4, o5⟩, z0, z1, z2, z3, z4, z5⟩ := rowN6 HQ.out.o
    obtain ⟨Z, hZ⟩ : ∃ Z, Z = ((((((w1).setCell ⟨w.heap.size + 1 + 1, 0, none⟩ (.int .i64 0)).setCell ⟨w.heap.size + 1 + 1, 1, none⟩ (.int .i64 0)).setCell ⟨w.heap.size + 1 + 1, 2, none⟩ (.int .i64 0)).setCell ⟨w.heap.size + 1 + 1, 3, none⟩ (.int .i64 0)).setCell ⟨w.heap.size + 1 + 1, 4, none⟩ (.slice none 0 0)).setCell ⟨w.heap.size + 1 + 1, 5, none⟩ (.int .i64 1) := ⟨_, rfl⟩
    have HZR : Hid (Z.rowIs (w.heap.size + 1 + 1) 30 6 (rowN [.int .i64 0, .int .i64 0, .int .i64 0, .int .i64 0, .slice none 0 0, .int .i64 1])) := by show Z.rowIs _ _ _ _; rw [hZ]; exact mput6 HQ.out.o rfl (.int .i64 0) (.int .i64 0) (.int .i64 0) (.int .i64 0) (.slice none 0 0) (.int .i64 1)
    have HZB : Hid (Below w.heap.size w Z) := by show Below _ _ _; rw [hZ]; exact mbel6 (g := w.heap.size + 1 + 1) HQ.out.old (by omega) (.int .i64 0) (.int .i64 0) (.int .i64 0) (.int .i64 0) (.slice none 0 0) (.int .i64 1)
    have HZ := Lib.hid hZ
    clear hZ
    go_wp2_with fail
    rw [← HZ.out]
    obtain ⟨⟨p0, p1, p2, p3, p4, p5⟩, _⟩ := rowN6 HZR.out
    exact bodyPost_ret (v := muV Mt.none none 0 0 1) (by simp only [results, Tryd.results32]; simp [go_sem, p0, p1, p2, p3, p4, p5, Mt.none]) rfl ⟨Or.inl ⟨HNO.out, rfl⟩, HZB.out⟩
  have dc2 : decide (100000 < rd) = false := by simpa using c2
  by_cases c3 : rs < -1
  · have HNO : Hid (¬ Mt.ReadOk m rd rs) := fun h => h.2.2.elim (fun e => by omega) (fun e => by have := e.2.1; omega)
    have dd : decide (rs < -1) = true := by simpa using c3
    go_enter Tryd.func32, Tryd.ntmps32
    go_wp2_with fail
    rw [← HW.out]
    clear HW
    refine wp_region_held_drew (S := SrS w m rd rs) (by kernel_rfl) (HS0.out.below (Below.refl _ _).drew) (fun hHeld => ?_)
    clear HS0
    refine take_do (i := 0) (v := (mtV m)) rfl (by kernel_rfl) (by kernel_rfl) (by kernel_rfl) (fun _ _ _ h => h) (by rfl) ?_ (by assumption) ?_
    · intro w hSw
      obtain ⟨⟨a0, a1, a2, a3⟩, _⟩ := rowN4 hSw.mm; obtain ⟨⟨b0, b1⟩, _⟩ := rowN2 hSw.r
      go_simp
    simp only [Act.put, List.setIfInBounds_toArray, List.set_cons_zero, List.set_cons_succ]
    refine take_call (i := 1) rfl (by kernel_rfl) (fun K2 hK => ?_)
    go_simp
    refine (specRight_any m _).mono ?_
    rintro e w1 ⟨rfl, hb⟩
    rw [Mt.dB_tt HRT.out]
    go_wp2_with fail
    refine hK.out _ _ (hHeld.below hb) (fun hHeld2 => ?_)
    clear hK hHeld hb
    have hHeld := hHeld2
    clear hHeld2
    refine take_do (i := 2) (v := (.bool false)) rfl (by kernel_rfl) (by kernel_rfl) (by kernel_rfl) (fun _ _ _ h => h) (by rfl) ?_ (by assumption) ?_
    · intro w hSw
      obtain ⟨⟨a0, a1, a2, a3⟩, _⟩ := rowN4 hSw.mm; obtain ⟨⟨b0, b1⟩, _⟩ := rowN2 hSw.r
      go_simp
    simp only [Act.put, List.setIfInBounds_toArray, List.set_cons_zero, List.set_cons_succ]
    refine take_do (i := 3) (v := (.bool false)) rfl (by kernel_rfl) (by kernel_rfl) (by kernel_rfl) (fun _ _ _ h => h) (by rfl) ?_ (by assumption) ?_
    · intro w hSw
      obtain ⟨⟨a0, a1, a2, a3⟩, _⟩ := rowN4 hSw.mm; obtain ⟨⟨b0, b1⟩, _⟩ := rowN2 hSw.r
      go_simp
    simp only [Act.put, List.setIfInBounds_toArray, List.set_cons_zero, List.set_cons_succ]
    refine take_do (i := 4) (v := (.pointer (some ⟨w.heap.size + 1, 0, none⟩))) rfl (by kernel_rfl) (by kernel_rfl) (by kernel_rfl) (fun _ _ _ h => h) (by rfl) ?_ (by assumption) ?_
    · intro w hSw
      obtain ⟨⟨a0, a1, a2, a3⟩, _⟩ := rowN4 hSw.mm; obtain ⟨⟨b0, b1⟩, _⟩ := rowN2 hSw.r
      go_simp
    simp only [Act.put, List.setIfInBounds_toArray, List.set_cons_zero, List.set_cons_succ]
    refine take_do (i := 5) (v := (.int .i64 rd)) rfl (by kernel_rfl) (by kernel_rfl) (by kernel_rfl) (fun _ _ _ h => h) (by rfl) ?_ (by assumption) ?_
    · intro w hSw
      obtain ⟨⟨a0, a1, a2, a3⟩, _⟩ := rowN4 hSw.mm; obtain ⟨⟨b0, b1⟩, _⟩ := rowN2 hSw.r
      go_simp
    simp only [Act.put, List.setIfInBounds_toArray, List.set_cons_zero, List.set_cons_succ]
    refine take_do (i := 6) (v := (.pointer (some ⟨w.heap.size, 2, none⟩))) rfl (by kernel_rfl) (by kernel_rfl) (by kernel_rfl) (fun _ _ _ h => h) (by rfl) ?_ (by assumption) ?_
    · intro w hSw
      obtain ⟨⟨a0, a1, a2, a3⟩, _⟩ := rowN4 hSw.mm; obtain ⟨⟨b0, b1⟩, _⟩ := rowN2 hSw.r
      go_simp
    simp only [Act.put, List.setIfInBounds_toArray, List.set_cons_zero, List.set_cons_succ]
    refine take_do (i := 7) (v := (.int .i64 m.day)) rfl (by kernel_rfl) (by kernel_rfl) (by kernel_rfl) (fun _ _ _ h => h) (by rfl) ?_ (by assumption) ?_
    · intro w hSw
      obtain ⟨⟨a0, a1, a2, a3⟩, _⟩ := rowN4 hSw.mm; obtain ⟨⟨b0, b1⟩, _⟩ := rowN2 hSw.r
      go_simp
    simp only [Act.put, List.setIfInBounds_toArray, List.set_cons_zero, List.set_cons_succ]
    refine take_do (i := 8) (v := (.bool false)) rfl (by kernel_rfl) (by kernel_rfl) (by kernel_rfl) (fun _ _ _ h => h) (by rfl) ?_ (by assumption) ?_
    · intro w hSw
      obtain ⟨⟨a0, a1, a2, a3⟩, _⟩ := rowN4 hSw.mm; obtain ⟨⟨b0, b1⟩, _⟩ := rowN2 hSw.r
      go_simp
    simp only [Act.put, List.setIfInBounds_toArray, List.set_cons_zero, List.set_cons_succ]
    refine take_do (i := 9) (v := (.bool false)) rfl (by kernel_rfl) (by kernel_rfl) (by kernel_rfl) (fun _ _ _ h => h) (by rfl) ?_ (by assumption) ?_
    · intro w hSw
      obtain ⟨⟨a0, a1, a2, a3⟩, _⟩ := rowN4 hSw.mm; obtain ⟨⟨b0, b1⟩, _⟩ := rowN2 hSw.r
      go_simp
    simp only [Act.put, List.setIfInBounds_toArray, List.set_cons_zero, List.set_cons_succ]
    refine take_do (i := 10) (v := (.bool false)) rfl (by kernel_rfl) (by kernel_rfl) (by kernel_rfl) (fun _ _ _ h => h) (by rfl) ?_ (by assumption) ?_
    · intro w hSw
      obtain ⟨⟨a0, a1, a2, a3⟩, _⟩ := rowN4 hSw.mm; obtain ⟨⟨b0, b1⟩, _⟩ := rowN2 hSw.r
      go_simp
    simp only [Act.put, List.setIfInBounds_toArray, List.set_cons_zero, List.set_cons_succ]
    refine take_do (i := 11) (v := (.pointer (some ⟨w.heap.size + 1, 0, none⟩))) rfl (by kernel_rfl) (by kernel_rfl) (by kernel_rfl) (fun _ _ _ h => h) (by rfl) ?_ (by assumption) ?_
    · intro w hSw
      obtain ⟨⟨a0, a1, a2, a3⟩, _⟩ := rowN4 hSw.mm; obtain ⟨⟨b0, b1⟩, _⟩ := rowN2 hSw.r
      go_simp
    simp only [Act.put, List.setIfInBounds_toArray, List.set_cons_zero, List.set_cons_succ]
    refine take_do (i := 12) (v := (.int .i64 rd)) rfl (by kernel_rfl) (by kernel_rfl) (by kernel_rfl) (fun _ _ _ h => h) (by rfl) ?_ (by assumption) ?_
    · intro w hSw
      obtain ⟨⟨a0, a1, a2, a3⟩, _⟩ := rowN4 hSw.mm; obtain ⟨⟨b0, b1⟩, _⟩ := rowN2 hSw.r
      go_simp
    simp only [Act.put, List.setIfInBounds_toArray, List.set_cons_zero, List.set_cons_succ]
    refine take_do (i := 13) (v := (.bool false)) rfl (by kernel_rfl) (by kernel_rfl) (by kernel_rfl) (fun _ _ _ h => h) (by rfl) ?_ (by assumption) ?_
    · intro w hSw
      obtain ⟨⟨a0, a1, a2, a3⟩, _⟩ := rowN4 hSw.mm; obtain ⟨⟨b0, b1⟩, _⟩ := rowN2 hSw.r
      go_simp
    simp only [Act.put, List.setIfInBounds_toArray, List.set_cons_zero, List.set_cons_succ]
    refine take_do (i := 14) (v := (.bool false)) rfl (by kernel_rfl) (by kernel_rfl) (by kernel_rfl) (fun _ _ _ h => h) (by rfl) ?_ (by assumption) ?_
    · intro w hSw
      obtain ⟨⟨a0, a1, a2, a3⟩, _⟩ := rowN4 hSw.mm; obtain ⟨⟨b0, b1⟩, _⟩ := rowN2 hSw.r
      go_simp
    simp only [Act.put, List.setIfInBounds_toArray, List.set_cons_zero, List.set_cons_succ]
    refine take_do (i := 15) (v := (.bool false)) rfl (by kernel_rfl) (by kernel_rfl) (by kernel_rfl) (fun _ _ _ h => h) (by rfl) ?_ (by assumption) ?_
    · intro w hSw
      obtain ⟨⟨a0, a1, a2, a3⟩, _⟩ := rowN4 hSw.mm; obtain ⟨⟨b0, b1⟩, _⟩ := rowN2 hSw.r
      go_simp
    simp only [Act.put, List.setIfInBounds_toArray, List.set_cons_zero, List.set_cons_succ]
    refine take_do (i := 16) (v := (.pointer (some ⟨w.heap.size + 1, 1, none⟩))) rfl (by kernel_rfl) (by kernel_rfl) (by kernel_rfl) (fun _ _ _ h => h) (by rfl) ?_ (by assumption) ?_
    · intro w hSw
      obtain ⟨⟨a0, a1, a2, a3⟩, _⟩ := rowN4 hSw.mm; obtain ⟨⟨b0, b1⟩, _⟩ := rowN2 hSw.r
      go_simp
    simp only [Act.put, List.setIfInBounds_toArray, List.set_cons_zero, List.set_cons_succ]
    refine take_do (i := 17) (v := (.int .i64 rs)) rfl (by kernel_rfl) (by kernel_rfl) (by kernel_rfl) (fun _ _ _ h => h) (by rfl) ?_ (by assumption) ?_
    · intro w hSw
      obtain ⟨⟨a0, a1, a2, a3⟩, _⟩ := rowN4 hSw.mm; obtain ⟨⟨b0, b1⟩, _⟩ := rowN2 hSw.r
      go_simp
    simp only [Act.put, List.setIfInBounds_toArray, List.set_cons_zero, List.set_cons_succ]
    refine take_do (i := 18) (v := (.bool true)) rfl (by kernel_rfl) (by kernel_rfl) (by kernel_rfl) (fun _ _ _ h => h) (by rfl) ?_ (by assumption) ?_
    · intro w hSw
      obtain ⟨⟨a0, a1, a2, a3⟩, _⟩ := rowN4 hSw.mm; obtain ⟨⟨b0, b1⟩, _⟩ := rowN2 hSw.r
      go_simp
    simp only [Act.put, List.setIfInBounds_toArray, List.set_cons_zero, List.set_cons_succ]
    refine take_do (i := 19) (v := (.bool true)) rfl (by kernel_rfl) (by kernel_rfl) (by kernel_rfl) (fun _ _ _ h => h) (by rfl) ?_ (by assumption) ?_
    · intro w hSw
      obtain ⟨⟨a0, a1, a2, a3⟩, _⟩ := rowN4 hSw.mm; obtain ⟨⟨b0, b1⟩, _⟩ := rowN2 hSw.r
      go_simp
    simp only [Act.put, List.setIfInBounds_toArray, List.set_cons_zero, List.set_cons_succ]
    refine take_do (i := 20) (v := (.bool true)) rfl (by kernel_rfl) (by kernel_rfl) (by kernel_rfl) (fun _ _ _ h => h) (by rfl) ?_ (by assumption) ?_
    · intro w hSw
      obtain ⟨⟨a0, a1, a2, a3⟩, _⟩ := rowN4 hSw.mm; obtain ⟨⟨b0, b1⟩, _⟩ := rowN2 hSw.r
      go_simp
    simp only [Act.put, List.setIfInBounds_toArray, List.set_cons_zero, List.set_cons_succ]
    refine take_skip (i := 21) rfl (by kernel_rfl) (by kernel_rfl) (by kernel_rfl) (fun _ _ _ h => h) (by rfl) (by assumption) ?_
    simp only [Act.put, List.setIfInBounds_toArray, List.set_cons_zero, List.set_cons_succ]
    refine take_skip (i := 22) rfl (by kernel_rfl) (by kernel_rfl) (by kernel_rfl) (fun _ _ _ h => h) (by rfl) (by assumption) ?_
    simp only [Act.put, List.setIfInBounds_toArray, List.set_cons_zero, List.set_cons_succ]
    refine take_skip (i := 23) rfl (by kernel_rfl) (by kernel_rfl) (by kernel_rfl) (fun _ _ _ h => h) (by rfl) (by assumption) ?_
    simp only [Act.put, List.setIfInBounds_toArray, List.set_cons_zero, List.set_cons_succ]
    refine take_skip (i := 24) rfl (by kernel_rfl) (by kernel_rfl) (by kernel_rfl) (fun _ _ _ h => h) (by rfl) (by assumption) ?_
    simp only [Act.put, List.setIfInBounds_toArray, List.set_cons_zero, List.set_cons_succ]
    refine take_skip (i := 25) rfl (by kernel_rfl) (by kernel_rfl) (by kernel_rfl) (fun _ _ _ h => h) (by rfl) (by assumption) ?_
    simp only [Act.put, List.setIfInBounds_toArray, List.set_cons_zero, List.set_cons_succ]
    refine take_skip (i := 26) rfl (by kernel_rfl) (by kernel_rfl) (by kernel_rfl) (fun _ _ _ h => h) (by rfl) (by assumption) ?_
    simp only [Act.put, List.setIfInBounds_toArray, List.set_cons_zero, List.set_cons_succ]
    refine take_do (i := 27) (v := (.bool true)) rfl (by kernel_rfl) (by kernel_rfl) (by kernel_rfl) (fun _ _ _ h => h) (by rfl) ?_ (by assumption) ?_
    · intro w hSw
      obtain ⟨⟨a0, a1, a2, a3⟩, _⟩ := rowN4 hSw.mm; obtain ⟨⟨b0, b1⟩, _⟩ := rowN2 hSw.r
      go_simp
    simp only [Act.put, List.setIfInBounds_toArray, List.set_cons_zero, List.set_cons_succ]
    refine wpAnyH_done (by kernel_rfl) ?_ _
    have HQ := Lib.hid hHeld
    clear hHeld
    obtain ⟨⟨o0, o1, o2, o3, o4, o5⟩, z0, z1, z2, z3, z4, z5⟩ := rowN6 HQ.out.o
    obtain ⟨Z, hZ⟩ : ∃ Z, Z = ((((((w1).setCell ⟨w.heap.size + 1 + 1, 0, none⟩ (.int .i64 0)).setCell ⟨w.heap.size + 1 + 1, 1, none⟩ (.int .i64 0)).setCell ⟨w.heap.size + 1 + 1, 2, none⟩ (.int .i64 0)).setCell ⟨w.heap.size + 1 + 1, 3, none⟩ (.int .i64 0)).setCell ⟨w.heap.size + 1 + 1, 4, none⟩ (.slice none 0 0)).setCell ⟨w.heap.size + 1 + 1, 5, none⟩ (.int .i64 1) := ⟨_, rfl⟩
    have HZR : Hid (Z.rowIs (w.heap.size + 1 + 1) 30 6 (rowN [.int .i64 0, .int .i64 0, .int .i64 0, .int .i64 0, .slice none 0 0, .int .i64 1])) := by show Z.rowIs _ _ _ _; rw [hZ]; exact mput6 HQ.out.o rfl (.int .i64 0) (.int .i64 0) (.int .i64 0) (.int .i64 0) (.slice none 0 0) (.int .i64 1)
    have HZB : Hid (Below w.heap.size w Z) := by show Below _ _ _; rw [hZ]; exact mbel6 (g := w.heap.size + 1 + 1) HQ.out.old (by omega) (.int .i64 0) (.int .i64 0) (.int .i64 0) (.int .i64 0) (.slice none 0 0) (.int .i64 1)
    have HZ := Lib.hid hZ
    clear hZ
    go_wp2_with fail
    rw [← HZ.out]
    obtain ⟨⟨p0, p1, p2, p3, p4, p5⟩, _⟩ := rowN6 HZR.out
    exact bodyPost_ret (v := muV Mt.none none 0 0 1) (by simp only [results, Tryd.results32]; simp [go_sem, p0, p1, p2, p3, p4, p5, Mt.none]) rfl ⟨Or.inl ⟨HNO.out, rfl⟩, HZB.out⟩
  have dc3 : decide (rs < -1) = false := by simpa using c3
  obtain ⟨F, hF⟩ : ∃ F, F = Mt.full m.d := ⟨_, rfl⟩
  have hF0 : 1 ≤ F ∧ F ≤ 10000000 := by rw [hF]; exact Mt.full_bd HRT.out.2.2.1.2
  have hs0 : 0 ≤ m.s ∧ m.s < F := by rw [hF]; exact HRT.out.2.2.2
  have HFC : Hid (∀ w, Calls Tryd.prog 63 #[.int .i64 m.d] w fun e w' => e = .returned (.int .i64 F) ∧ w' = w) := fun w => by rw [hF]; exact sfull_any m.d ⟨by have := HRT.out.2.2.1.1; omega, by have := HRT.out.2.2.1.2; omega⟩ w
  have HF := Lib.hid hF
  clear hF
  by_cases c4 : F ≤ rs
  · have HNO : Hid (¬ Mt.ReadOk m rd rs) := fun h => by
      rcases h.2.2 with e | e
      · omega
      · have := e.2.2; rw [← HF.out] at this; omega
    have dd : decide (F ≤ rs) = true := by simpa using c4
    go_enter Tryd.func32, Tryd.ntmps32
    go_wp2_with fail
    rw [← HW.out]
    clear HW
    refine wp_region_held_drew (S := SrS w m rd rs) (by kernel_rfl) (HS0.out.below (Below.refl _ _).drew) (fun hHeld => ?_)
    clear HS0
    refine take_do (i := 0) (v := (mtV m)) rfl (by kernel_rfl) (by kernel_rfl) (by kernel_rfl) (fun _ _ _ h => h) (by rfl) ?_ (by assumption) ?_
    · intro w hSw
      obtain ⟨⟨a0, a1, a2, a3⟩, _⟩ := rowN4 hSw.mm; obtain ⟨⟨b0, b1⟩, _⟩ := rowN2 hSw.r
      go_simp
    simp only [Act.put, List.setIfInBounds_toArray, List.set_cons_zero, List.set_cons_succ]
    refine take_call (i := 1) rfl (by kernel_rfl) (fun K2 hK => ?_)
    go_simp
    refine (specRight_any m _).mono ?_
    rintro e w1 ⟨rfl, hb⟩
    rw [Mt.dB_tt HRT.out]
    go_wp2_with fail
    refine hK.out _ _ (hHeld.below hb) (fun hHeld2 => ?_)
    clear hK hHeld hb
    have hHeld := hHeld2
    clear hHeld2
    refine take_do (i := 2) (v := (.bool false)) rfl (by kernel_rfl) (by kernel_rfl) (by kernel_rfl) (fun _ _ _ h => h) (by rfl) ?_ (by assumption) ?_
    · intro w hSw
      obtain ⟨⟨a0, a1, a2, a3⟩, _⟩ := rowN4 hSw.mm; obtain ⟨⟨b0, b1⟩, _⟩ := rowN2 hSw.r
      go_simp
    simp only [Act.put, List.setIfInBounds_toArray, List.set_cons_zero, List.set_cons_succ]
    refine take_do (i := 3) (v := (.bool false)) rfl (by kernel_rfl) (by kernel_rfl) (by kernel_rfl) (fun _ _ _ h => h) (by rfl) ?_ (by assumption) ?_
    · intro w hSw
      obtain ⟨⟨a0, a1, a2, a3⟩, _⟩ := rowN4 hSw.mm; obtain ⟨⟨b0, b1⟩, _⟩ := rowN2 hSw.r
      go_simp
    simp only [Act.put, List.setIfInBounds_toArray, List.set_cons_zero, List.set_cons_succ]
    refine take_do (i := 4) (v := (.pointer (some ⟨w.heap.size + 1, 0, none⟩))) rfl (by kernel_rfl) (by kernel_rfl) (by kernel_rfl) (fun _ _ _ h => h) (by rfl) ?_ (by assumption) ?_
    · intro w hSw
      obtain ⟨⟨a0, a1, a2, a3⟩, _⟩ := rowN4 hSw.mm; obtain ⟨⟨b0, b1⟩, _⟩ := rowN2 hSw.r
      go_simp
    simp only [Act.put, List.setIfInBounds_toArray, List.set_cons_zero, List.set_cons_succ]
    refine take_do (i := 5) (v := (.int .i64 rd)) rfl (by kernel_rfl) (by kernel_rfl) (by kernel_rfl) (fun _ _ _ h => h) (by rfl) ?_ (by assumption) ?_
    · intro w hSw
      obtain ⟨⟨a0, a1, a2, a3⟩, _⟩ := rowN4 hSw.mm; obtain ⟨⟨b0, b1⟩, _⟩ := rowN2 hSw.r
      go_simp
    simp only [Act.put, List.setIfInBounds_toArray, List.set_cons_zero, List.set_cons_succ]
    refine take_do (i := 6) (v := (.pointer (some ⟨w.heap.size, 2, none⟩))) rfl (by kernel_rfl) (by kernel_rfl) (by kernel_rfl) (fun _ _ _ h => h) (by rfl) ?_ (by assumption) ?_
    · intro w hSw
      obtain ⟨⟨a0, a1, a2, a3⟩, _⟩ := rowN4 hSw.mm; obtain ⟨⟨b0, b1⟩, _⟩ := rowN2 hSw.r
      go_simp
    simp only [Act.put, List.setIfInBounds_toArray, List.set_cons_zero, List.set_cons_succ]
    refine take_do (i := 7) (v := (.int .i64 m.day)) rfl (by kernel_rfl) (by kernel_rfl) (by kernel_rfl) (fun _ _ _ h => h) (by rfl) ?_ (by assumption) ?_
    · intro w hSw
      obtain ⟨⟨a0, a1, a2, a3⟩, _⟩ := rowN4 hSw.mm; obtain ⟨⟨b0, b1⟩, _⟩ := rowN2 hSw.r
      go_simp
    simp only [Act.put, List.setIfInBounds_toArray, List.set_cons_zero, List.set_cons_succ]
    refine take_do (i := 8) (v := (.bool false)) rfl (by kernel_rfl) (by kernel_rfl) (by kernel_rfl) (fun _ _ _ h => h) (by rfl) ?_ (by assumption) ?_
    · intro w hSw
      obtain ⟨⟨a0, a1, a2, a3⟩, _⟩ := rowN4 hSw.mm; obtain ⟨⟨b0, b1⟩, _⟩ := rowN2 hSw.r
      go_simp
    simp only [Act.put, List.setIfInBounds_toArray, List.set_cons_zero, List.set_cons_succ]
    refine take_do (i := 9) (v := (.bool false)) rfl (by kernel_rfl) (by kernel_rfl) (by kernel_rfl) (fun _ _ _ h => h) (by rfl) ?_ (by assumption) ?_
    · intro w hSw
      obtain ⟨⟨a0, a1, a2, a3⟩, _⟩ := rowN4 hSw.mm; obtain ⟨⟨b0, b1⟩, _⟩ := rowN2 hSw.r
      go_simp
    simp only [Act.put, List.setIfInBounds_toArray, List.set_cons_zero, List.set_cons_succ]
    refine take_do (i := 10) (v := (.bool false)) rfl (by kernel_rfl) (by kernel_rfl) (by kernel_rfl) (fun _ _ _ h => h) (by rfl) ?_ (by assumption) ?_
    · intro w hSw
      obtain ⟨⟨a0, a1, a2, a3⟩, _⟩ := rowN4 hSw.mm; obtain ⟨⟨b0, b1⟩, _⟩ := rowN2 hSw.r
      go_simp
    simp only [Act.put, List.setIfInBounds_toArray, List.set_cons_zero, List.set_cons_succ]
    refine take_do (i := 11) (v := (.pointer (some ⟨w.heap.size + 1, 0, none⟩))) rfl (by kernel_rfl) (by kernel_rfl) (by kernel_rfl) (fun _ _ _ h => h) (by rfl) ?_ (by assumption) ?_
    · intro w hSw
      obtain ⟨⟨a0, a1, a2, a3⟩, _⟩ := rowN4 hSw.mm; obtain ⟨⟨b0, b1⟩, _⟩ := rowN2 hSw.r
      go_simp
    simp only [Act.put, List.setIfInBounds_toArray, List.set_cons_zero, List.set_cons_succ]
    refine take_do (i := 12) (v := (.int .i64 rd)) rfl (by kernel_rfl) (by kernel_rfl) (by kernel_rfl) (fun _ _ _ h => h) (by rfl) ?_ (by assumption) ?_
    · intro w hSw
      obtain ⟨⟨a0, a1, a2, a3⟩, _⟩ := rowN4 hSw.mm; obtain ⟨⟨b0, b1⟩, _⟩ := rowN2 hSw.r
      go_simp
    simp only [Act.put, List.setIfInBounds_toArray, List.set_cons_zero, List.set_cons_succ]
    refine take_do (i := 13) (v := (.bool false)) rfl (by kernel_rfl) (by kernel_rfl) (by kernel_rfl) (fun _ _ _ h => h) (by rfl) ?_ (by assumption) ?_
    · intro w hSw
      obtain ⟨⟨a0, a1, a2, a3⟩, _⟩ := rowN4 hSw.mm; obtain ⟨⟨b0, b1⟩, _⟩ := rowN2 hSw.r
      go_simp
    simp only [Act.put, List.setIfInBounds_toArray, List.set_cons_zero, List.set_cons_succ]
    refine take_do (i := 14) (v := (.bool false)) rfl (by kernel_rfl) (by kernel_rfl) (by kernel_rfl) (fun _ _ _ h => h) (by rfl) ?_ (by assumption) ?_
    · intro w hSw
      obtain ⟨⟨a0, a1, a2, a3⟩, _⟩ := rowN4 hSw.mm; obtain ⟨⟨b0, b1⟩, _⟩ := rowN2 hSw.r
      go_simp
    simp only [Act.put, List.setIfInBounds_toArray, List.set_cons_zero, List.set_cons_succ]
    refine take_do (i := 15) (v := (.bool false)) rfl (by kernel_rfl) (by kernel_rfl) (by kernel_rfl) (fun _ _ _ h => h) (by rfl) ?_ (by assumption) ?_
    · intro w hSw
      obtain ⟨⟨a0, a1, a2, a3⟩, _⟩ := rowN4 hSw.mm; obtain ⟨⟨b0, b1⟩, _⟩ := rowN2 hSw.r
      go_simp
    simp only [Act.put, List.setIfInBounds_toArray, List.set_cons_zero, List.set_cons_succ]
    refine take_do (i := 16) (v := (.pointer (some ⟨w.heap.size + 1, 1, none⟩))) rfl (by kernel_rfl) (by kernel_rfl) (by kernel_rfl) (fun _ _ _ h => h) (by rfl) ?_ (by assumption) ?_
    · intro w hSw
      obtain ⟨⟨a0, a1, a2, a3⟩, _⟩ := rowN4 hSw.mm; obtain ⟨⟨b0, b1⟩, _⟩ := rowN2 hSw.r
      go_simp
    simp only [Act.put, List.setIfInBounds_toArray, List.set_cons_zero, List.set_cons_succ]
    refine take_do (i := 17) (v := (.int .i64 rs)) rfl (by kernel_rfl) (by kernel_rfl) (by kernel_rfl) (fun _ _ _ h => h) (by rfl) ?_ (by assumption) ?_
    · intro w hSw
      obtain ⟨⟨a0, a1, a2, a3⟩, _⟩ := rowN4 hSw.mm; obtain ⟨⟨b0, b1⟩, _⟩ := rowN2 hSw.r
      go_simp
    simp only [Act.put, List.setIfInBounds_toArray, List.set_cons_zero, List.set_cons_succ]
    refine take_do (i := 18) (v := (.bool false)) rfl (by kernel_rfl) (by kernel_rfl) (by kernel_rfl) (fun _ _ _ h => h) (by rfl) ?_ (by assumption) ?_
    · intro w hSw
      obtain ⟨⟨a0, a1, a2, a3⟩, _⟩ := rowN4 hSw.mm; obtain ⟨⟨b0, b1⟩, _⟩ := rowN2 hSw.r
      go_simp
    simp only [Act.put, List.setIfInBounds_toArray, List.set_cons_zero, List.set_cons_succ]
    refine take_do (i := 19) (v := (.bool false)) rfl (by kernel_rfl) (by kernel_rfl) (by kernel_rfl) (fun _ _ _ h => h) (by rfl) ?_ (by assumption) ?_
    · intro w hSw
      obtain ⟨⟨a0, a1, a2, a3⟩, _⟩ := rowN4 hSw.mm; obtain ⟨⟨b0, b1⟩, _⟩ := rowN2 hSw.r
      go_simp
    simp only [Act.put, List.setIfInBounds_toArray, List.set_cons_zero, List.set_cons_succ]
    refine take_do (i := 20) (v := (.bool false)) rfl (by kernel_rfl) (by kernel_rfl) (by kernel_rfl) (fun _ _ _ h => h) (by rfl) ?_ (by assumption) ?_
    · intro w hSw
      obtain ⟨⟨a0, a1, a2, a3⟩, _⟩ := rowN4 hSw.mm; obtain ⟨⟨b0, b1⟩, _⟩ := rowN2 hSw.r
      go_simp
    simp only [Act.put, List.setIfInBounds_toArray, List.set_cons_zero, List.set_cons_succ]
    refine take_do (i := 21) (v := (.pointer (some ⟨w.heap.size + 1, 1, none⟩))) rfl (by kernel_rfl) (by kernel_rfl) (by kernel_rfl) (fun _ _ _ h => h) (by rfl) ?_ (by assumption) ?_
    · intro w hSw
      obtain ⟨⟨a0, a1, a2, a3⟩, _⟩ := rowN4 hSw.mm; obtain ⟨⟨b0, b1⟩, _⟩ := rowN2 hSw.r
      go_simp
    simp only [Act.put, List.setIfInBounds_toArray, List.set_cons_zero, List.set_cons_succ]
    refine take_do (i := 22) (v := (.int .i64 rs)) rfl (by kernel_rfl) (by kernel_rfl) (by kernel_rfl) (fun _ _ _ h => h) (by rfl) ?_ (by assumption) ?_
    · intro w hSw
      obtain ⟨⟨a0, a1, a2, a3⟩, _⟩ := rowN4 hSw.mm; obtain ⟨⟨b0, b1⟩, _⟩ := rowN2 hSw.r
      go_simp
    simp only [Act.put, List.setIfInBounds_toArray, List.set_cons_zero, List.set_cons_succ]
    refine take_do (i := 23) (v := (.pointer (some ⟨w.heap.size, 0, none⟩))) rfl (by kernel_rfl) (by kernel_rfl) (by kernel_rfl) (fun _ _ _ h => h) (by rfl) ?_ (by assumption) ?_
    · intro w hSw
      obtain ⟨⟨a0, a1, a2, a3⟩, _⟩ := rowN4 hSw.mm; obtain ⟨⟨b0, b1⟩, _⟩ := rowN2 hSw.r
      go_simp
    simp only [Act.put, List.setIfInBounds_toArray, List.set_cons_zero, List.set_cons_succ]
    refine take_do (i := 24) (v := (.int .i64 m.d)) rfl (by kernel_rfl) (by kernel_rfl) (by kernel_rfl) (fun _ _ _ h => h) (by rfl) ?_ (by assumption) ?_
    · intro w hSw
      obtain ⟨⟨a0, a1, a2, a3⟩, _⟩ := rowN4 hSw.mm; obtain ⟨⟨b0, b1⟩, _⟩ := rowN2 hSw.r
      go_simp
    simp only [Act.put, List.setIfInBounds_toArray, List.set_cons_zero, List.set_cons_succ]
    refine take_call (i := 25) rfl (by kernel_rfl) (fun K2 hK => ?_)
    go_simp
    refine (HFC.out _).mono ?_
    rintro e w2 ⟨rfl, rfl⟩
    go_wp2_with fail
    refine hK.out _ _ hHeld (fun hHeld2 => ?_)
    clear hK hHeld
    have hHeld := hHeld2
    clear hHeld2
    refine take_do (i := 26) (v := (.bool true)) rfl (by kernel_rfl) (by kernel_rfl) (by kernel_rfl) (fun _ _ _ h => h) (by rfl) ?_ (by assumption) ?_
    · intro w hSw
      obtain ⟨⟨a0, a1, a2, a3⟩, _⟩ := rowN4 hSw.mm; obtain ⟨⟨b0, b1⟩, _⟩ := rowN2 hSw.r
      go_simp
    simp only [Act.put, List.setIfInBounds_toArray, List.set_cons_zero, List.set_cons_succ]
    refine take_do (i := 27) (v := (.bool true)) rfl (by kernel_rfl) (by kernel_rfl) (by kernel_rfl) (fun _ _ _ h => h) (by rfl) ?_ (by assumption) ?_
    · intro w hSw
      obtain ⟨⟨a0, a1, a2, a3⟩, _⟩ := rowN4 hSw.mm; obtain ⟨⟨b0, b1⟩, _⟩ := rowN2 hSw.r
      go_simp
    simp only [Act.put, List.setIfInBounds_toArray, List.set_cons_zero, List.set_cons_succ]
    refine wpAnyH_done (by kernel_rfl) ?_ _
    have HQ := Lib.hid hHeld
    clear hHeld
    obtain ⟨⟨o0, o1, o2, o3, o4, o5⟩, z0, z1, z2, z3, z4, z5⟩ := rowN6 HQ.out.o
    obtain ⟨Z, hZ⟩ : ∃ Z, Z = ((((((w2).setCell ⟨w.heap.size + 1 + 1, 0, none⟩ (.int .i64 0)).setCell ⟨w.heap.size + 1 + 1, 1, none⟩ (.int .i64 0)).setCell ⟨w.heap.size + 1 + 1, 2, none⟩ (.int .i64 0)).setCell ⟨w.heap.size + 1 + 1, 3, none⟩ (.int .i64 0)).setCell ⟨w.heap.size + 1 + 1, 4, none⟩ (.slice none 0 0)).setCell ⟨w.heap.size + 1 + 1, 5, none⟩ (.int .i64 1) := ⟨_, rfl⟩
    have HZR : Hid (Z.rowIs (w.heap.size + 1 + 1) 30 6 (rowN [.int .i64 0, .int .i64 0, .int .i64 0, .int .i64 0, .slice none 0 0, .int .i64 1])) := by show Z.rowIs _ _ _ _; rw [hZ]; exact mput6 HQ.out.o rfl (.int .i64 0) (.int .i64 0) (.int .i64 0) (.int .i64 0) (.slice none 0 0) (.int .i64 1)
    have HZB : Hid (Below w.heap.size w Z) := by show Below _ _ _; rw [hZ]; exact mbel6 (g := w.heap.size + 1 + 1) HQ.out.old (by omega) (.int .i64 0) (.int .i64 0) (.int .i64 0) (.int .i64 0) (.slice none 0 0) (.int .i64 1)
    have HZ := Lib.hid hZ
    clear hZ
    go_wp2_with fail
    rw [← HZ.out]
    obtain ⟨⟨p0, p1, p2, p3, p4, p5⟩, _⟩ := rowN6 HZR.out
    exact bodyPost_ret (v := muV Mt.none none 0 0 1) (by simp only [results, Tryd.results32]; simp [go_sem, p0, p1, p2, p3, p4, p5, Mt.none]) rfl ⟨Or.inl ⟨HNO.out, rfl⟩, HZB.out⟩
  have dc4 : decide (F ≤ rs) = false := by simpa using c4
  have HOK : Hid (Mt.ReadOk m rd rs) := by
    refine ⟨HRT.out, ⟨by omega, by omega⟩, ?_⟩
    by_cases e : rs = -1
    · exact Or.inl e
    · exact Or.inr ⟨HRT.out.2.2.1, by omega, by rw [← HF.out]; omega⟩
  have hu0 : 0 ≤ m.u ∧ m.u ≤ 10000 := HRT.out.1
  obtain ⟨P, hP⟩ : ∃ P, P = Mt.usual m rd := ⟨_, rfl⟩
  have hP0 : 0 ≤ P ∧ P ≤ 1000000000 := by rw [hP]; exact Mt.usual_bd HOK.out
  have hPe : m.u * (rd - m.day) = P := by rw [hP]; rfl
  have HP := Lib.hid hP
  obtain ⟨Dd, hDd⟩ : ∃ D, rd - m.day = D := ⟨_, rfl⟩
  have hD0 : 0 < Dd ∧ Dd ≤ 100000 := by omega
  rw [hDd] at hPe
  have HDD := Lib.hid hDd
  clear hP
  go_enter Tryd.func32, Tryd.ntmps32
  go_wp2_with fail
  rw [← HW.out]
  clear HW
  refine wp_region_held_drew (S := SrS w m rd rs) (by kernel_rfl) (HS0.out.below (Below.refl _ _).drew) (fun hHeld => ?_)
  clear HS0
  refine take_do (i := 0) (v := (mtV m)) rfl (by kernel_rfl) (by kernel_rfl) (by kernel_rfl) (fun _ _ _ h => h) (by rfl) ?_ (by assumption) ?_
  · intro w hSw
    obtain ⟨⟨a0, a1, a2, a3⟩, _⟩ := rowN4 hSw.mm; obtain ⟨⟨b0, b1⟩, _⟩ := rowN2 hSw.r
    go_simp
  simp only [Act.put, List.setIfInBounds_toArray, List.set_cons_zero, List.set_cons_succ]
  refine take_call (i := 1) rfl (by kernel_rfl) (fun K2 hK => ?_)
  go_simp
  refine (specRight_any m _).mono ?_
  rintro e w1 ⟨rfl, hb⟩
  rw [Mt.dB_tt HRT.out]
  go_wp2_with fail
  refine hK.out _ _ (hHeld.below hb) (fun hHeld2 => ?_)
  clear hK hHeld hb
  have hHeld := hHeld2
  clear hHeld2
  refine take_do (i := 2) (v := (.bool false)) rfl (by kernel_rfl) (by kernel_rfl) (by kernel_rfl) (fun _ _ _ h => h) (by rfl) ?_ (by assumption) ?_
  · intro w hSw
    obtain ⟨⟨a0, a1, a2, a3⟩, _⟩ := rowN4 hSw.mm; obtain ⟨⟨b0, b1⟩, _⟩ := rowN2 hSw.r
    go_simp
  simp only [Act.put, List.setIfInBounds_toArray, List.set_cons_zero, List.set_cons_succ]
  refine take_do (i := 3) (v := (.bool false)) rfl (by kernel_rfl) (by kernel_rfl) (by kernel_rfl) (fun _ _ _ h => h) (by rfl) ?_ (by assumption) ?_
  · intro w hSw
    obtain ⟨⟨a0, a1, a2, a3⟩, _⟩ := rowN4 hSw.mm; obtain ⟨⟨b0, b1⟩, _⟩ := rowN2 hSw.r
    go_simp
  simp only [Act.put, List.setIfInBounds_toArray, List.set_cons_zero, List.set_cons_succ]
  refine take_do (i := 4) (v := (.pointer (some ⟨w.heap.size + 1, 0, none⟩))) rfl (by kernel_rfl) (by kernel_rfl) (by kernel_rfl) (fun _ _ _ h => h) (by rfl) ?_ (by assumption) ?_
  · intro w hSw
    obtain ⟨⟨a0, a1, a2, a3⟩, _⟩ := rowN4 hSw.mm; obtain ⟨⟨b0, b1⟩, _⟩ := rowN2 hSw.r
    go_simp
  simp only [Act.put, List.setIfInBounds_toArray, List.set_cons_zero, List.set_cons_succ]
  refine take_do (i := 5) (v := (.int .i64 rd)) rfl (by kernel_rfl) (by kernel_rfl) (by kernel_rfl) (fun _ _ _ h => h) (by rfl) ?_ (by assumption) ?_
  · intro w hSw
    obtain ⟨⟨a0, a1, a2, a3⟩, _⟩ := rowN4 hSw.mm; obtain ⟨⟨b0, b1⟩, _⟩ := rowN2 hSw.r
    go_simp
  simp only [Act.put, List.setIfInBounds_toArray, List.set_cons_zero, List.set_cons_succ]
  refine take_do (i := 6) (v := (.pointer (some ⟨w.heap.size, 2, none⟩))) rfl (by kernel_rfl) (by kernel_rfl) (by kernel_rfl) (fun _ _ _ h => h) (by rfl) ?_ (by assumption) ?_
  · intro w hSw
    obtain ⟨⟨a0, a1, a2, a3⟩, _⟩ := rowN4 hSw.mm; obtain ⟨⟨b0, b1⟩, _⟩ := rowN2 hSw.r
    go_simp
  simp only [Act.put, List.setIfInBounds_toArray, List.set_cons_zero, List.set_cons_succ]
  refine take_do (i := 7) (v := (.int .i64 m.day)) rfl (by kernel_rfl) (by kernel_rfl) (by kernel_rfl) (fun _ _ _ h => h) (by rfl) ?_ (by assumption) ?_
  · intro w hSw
    obtain ⟨⟨a0, a1, a2, a3⟩, _⟩ := rowN4 hSw.mm; obtain ⟨⟨b0, b1⟩, _⟩ := rowN2 hSw.r
    go_simp
  simp only [Act.put, List.setIfInBounds_toArray, List.set_cons_zero, List.set_cons_succ]
  refine take_do (i := 8) (v := (.bool false)) rfl (by kernel_rfl) (by kernel_rfl) (by kernel_rfl) (fun _ _ _ h => h) (by rfl) ?_ (by assumption) ?_
  · intro w hSw
    obtain ⟨⟨a0, a1, a2, a3⟩, _⟩ := rowN4 hSw.mm; obtain ⟨⟨b0, b1⟩, _⟩ := rowN2 hSw.r
    go_simp
  simp only [Act.put, List.setIfInBounds_toArray, List.set_cons_zero, List.set_cons_succ]
  refine take_do (i := 9) (v := (.bool false)) rfl (by kernel_rfl) (by kernel_rfl) (by kernel_rfl) (fun _ _ _ h => h) (by rfl) ?_ (by assumption) ?_
  · intro w hSw
    obtain ⟨⟨a0, a1, a2, a3⟩, _⟩ := rowN4 hSw.mm; obtain ⟨⟨b0, b1⟩, _⟩ := rowN2 hSw.r
    go_simp
  simp only [Act.put, List.setIfInBounds_toArray, List.set_cons_zero, List.set_cons_succ]
  refine take_do (i := 10) (v := (.bool false)) rfl (by kernel_rfl) (by kernel_rfl) (by kernel_rfl) (fun _ _ _ h => h) (by rfl) ?_ (by assumption) ?_
  · intro w hSw
    obtain ⟨⟨a0, a1, a2, a3⟩, _⟩ := rowN4 hSw.mm; obtain ⟨⟨b0, b1⟩, _⟩ := rowN2 hSw.r
    go_simp
  simp only [Act.put, List.setIfInBounds_toArray, List.set_cons_zero, List.set_cons_succ]
  refine take_do (i := 11) (v := (.pointer (some ⟨w.heap.size + 1, 0, none⟩))) rfl (by kernel_rfl) (by kernel_rfl) (by kernel_rfl) (fun _ _ _ h => h) (by rfl) ?_ (by assumption) ?_
  · intro w hSw
    obtain ⟨⟨a0, a1, a2, a3⟩, _⟩ := rowN4 hSw.mm; obtain ⟨⟨b0, b1⟩, _⟩ := rowN2 hSw.r
    go_simp
  simp only [Act.put, List.setIfInBounds_toArray, List.set_cons_zero, List.set_cons_succ]
  refine take_do (i := 12) (v := (.int .i64 rd)) rfl (by kernel_rfl) (by kernel_rfl) (by kernel_rfl) (fun _ _ _ h => h) (by rfl) ?_ (by assumption) ?_
  · intro w hSw
    obtain ⟨⟨a0, a1, a2, a3⟩, _⟩ := rowN4 hSw.mm; obtain ⟨⟨b0, b1⟩, _⟩ := rowN2 hSw.r
    go_simp
  simp only [Act.put, List.setIfInBounds_toArray, List.set_cons_zero, List.set_cons_succ]
  refine take_do (i := 13) (v := (.bool false)) rfl (by kernel_rfl) (by kernel_rfl) (by kernel_rfl) (fun _ _ _ h => h) (by rfl) ?_ (by assumption) ?_
  · intro w hSw
    obtain ⟨⟨a0, a1, a2, a3⟩, _⟩ := rowN4 hSw.mm; obtain ⟨⟨b0, b1⟩, _⟩ := rowN2 hSw.r
    go_simp
  simp only [Act.put, List.setIfInBounds_toArray, List.set_cons_zero, List.set_cons_succ]
  refine take_do (i := 14) (v := (.bool false)) rfl (by kernel_rfl) (by kernel_rfl) (by kernel_rfl) (fun _ _ _ h => h) (by rfl) ?_ (by assumption) ?_
  · intro w hSw
    obtain ⟨⟨a0, a1, a2, a3⟩, _⟩ := rowN4 hSw.mm; obtain ⟨⟨b0, b1⟩, _⟩ := rowN2 hSw.r
    go_simp
  simp only [Act.put, List.setIfInBounds_toArray, List.set_cons_zero, List.set_cons_succ]
  refine take_do (i := 15) (v := (.bool false)) rfl (by kernel_rfl) (by kernel_rfl) (by kernel_rfl) (fun _ _ _ h => h) (by rfl) ?_ (by assumption) ?_
  · intro w hSw
    obtain ⟨⟨a0, a1, a2, a3⟩, _⟩ := rowN4 hSw.mm; obtain ⟨⟨b0, b1⟩, _⟩ := rowN2 hSw.r
    go_simp
  simp only [Act.put, List.setIfInBounds_toArray, List.set_cons_zero, List.set_cons_succ]
  refine take_do (i := 16) (v := (.pointer (some ⟨w.heap.size + 1, 1, none⟩))) rfl (by kernel_rfl) (by kernel_rfl) (by kernel_rfl) (fun _ _ _ h => h) (by rfl) ?_ (by assumption) ?_
  · intro w hSw
    obtain ⟨⟨a0, a1, a2, a3⟩, _⟩ := rowN4 hSw.mm; obtain ⟨⟨b0, b1⟩, _⟩ := rowN2 hSw.r
    go_simp
  simp only [Act.put, List.setIfInBounds_toArray, List.set_cons_zero, List.set_cons_succ]
  refine take_do (i := 17) (v := (.int .i64 rs)) rfl (by kernel_rfl) (by kernel_rfl) (by kernel_rfl) (fun _ _ _ h => h) (by rfl) ?_ (by assumption) ?_
  · intro w hSw
    obtain ⟨⟨a0, a1, a2, a3⟩, _⟩ := rowN4 hSw.mm; obtain ⟨⟨b0, b1⟩, _⟩ := rowN2 hSw.r
    go_simp
  simp only [Act.put, List.setIfInBounds_toArray, List.set_cons_zero, List.set_cons_succ]
  refine take_do (i := 18) (v := (.bool false)) rfl (by kernel_rfl) (by kernel_rfl) (by kernel_rfl) (fun _ _ _ h => h) (by rfl) ?_ (by assumption) ?_
  · intro w hSw
    obtain ⟨⟨a0, a1, a2, a3⟩, _⟩ := rowN4 hSw.mm; obtain ⟨⟨b0, b1⟩, _⟩ := rowN2 hSw.r
    go_simp
  simp only [Act.put, List.setIfInBounds_toArray, List.set_cons_zero, List.set_cons_succ]
  refine take_do (i := 19) (v := (.bool false)) rfl (by kernel_rfl) (by kernel_rfl) (by kernel_rfl) (fun _ _ _ h => h) (by rfl) ?_ (by assumption) ?_
  · intro w hSw
    obtain ⟨⟨a0, a1, a2, a3⟩, _⟩ := rowN4 hSw.mm; obtain ⟨⟨b0, b1⟩, _⟩ := rowN2 hSw.r
    go_simp
  simp only [Act.put, List.setIfInBounds_toArray, List.set_cons_zero, List.set_cons_succ]
  refine take_do (i := 20) (v := (.bool false)) rfl (by kernel_rfl) (by kernel_rfl) (by kernel_rfl) (fun _ _ _ h => h) (by rfl) ?_ (by assumption) ?_
  · intro w hSw
    obtain ⟨⟨a0, a1, a2, a3⟩, _⟩ := rowN4 hSw.mm; obtain ⟨⟨b0, b1⟩, _⟩ := rowN2 hSw.r
    go_simp
  simp only [Act.put, List.setIfInBounds_toArray, List.set_cons_zero, List.set_cons_succ]
  refine take_do (i := 21) (v := (.pointer (some ⟨w.heap.size + 1, 1, none⟩))) rfl (by kernel_rfl) (by kernel_rfl) (by kernel_rfl) (fun _ _ _ h => h) (by rfl) ?_ (by assumption) ?_
  · intro w hSw
    obtain ⟨⟨a0, a1, a2, a3⟩, _⟩ := rowN4 hSw.mm; obtain ⟨⟨b0, b1⟩, _⟩ := rowN2 hSw.r
    go_simp
  simp only [Act.put, List.setIfInBounds_toArray, List.set_cons_zero, List.set_cons_succ]
  refine take_do (i := 22) (v := (.int .i64 rs)) rfl (by kernel_rfl) (by kernel_rfl) (by kernel_rfl) (fun _ _ _ h => h) (by rfl) ?_ (by assumption) ?_
  · intro w hSw
    obtain ⟨⟨a0, a1, a2, a3⟩, _⟩ := rowN4 hSw.mm; obtain ⟨⟨b0, b1⟩, _⟩ := rowN2 hSw.r
    go_simp
  simp only [Act.put, List.setIfInBounds_toArray, List.set_cons_zero, List.set_cons_succ]
  refine take_do (i := 23) (v := (.pointer (some ⟨w.heap.size, 0, none⟩))) rfl (by kernel_rfl) (by kernel_rfl) (by kernel_rfl) (fun _ _ _ h => h) (by rfl) ?_ (by assumption) ?_
  · intro w hSw
    obtain ⟨⟨a0, a1, a2, a3⟩, _⟩ := rowN4 hSw.mm; obtain ⟨⟨b0, b1⟩, _⟩ := rowN2 hSw.r
    go_simp
  simp only [Act.put, List.setIfInBounds_toArray, List.set_cons_zero, List.set_cons_succ]
  refine take_do (i := 24) (v := (.int .i64 m.d)) rfl (by kernel_rfl) (by kernel_rfl) (by kernel_rfl) (fun _ _ _ h => h) (by rfl) ?_ (by assumption) ?_
  · intro w hSw
    obtain ⟨⟨a0, a1, a2, a3⟩, _⟩ := rowN4 hSw.mm; obtain ⟨⟨b0, b1⟩, _⟩ := rowN2 hSw.r
    go_simp
  simp only [Act.put, List.setIfInBounds_toArray, List.set_cons_zero, List.set_cons_succ]
  refine take_call (i := 25) rfl (by kernel_rfl) (fun K2 hK => ?_)
  go_simp
  refine (HFC.out _).mono ?_
  rintro e w2 ⟨rfl, rfl⟩
  go_wp2_with fail
  refine hK.out _ _ hHeld (fun hHeld2 => ?_)
  clear hK hHeld
  have hHeld := hHeld2
  clear hHeld2
  refine take_do (i := 26) (v := (.bool false)) rfl (by kernel_rfl) (by kernel_rfl) (by kernel_rfl) (fun _ _ _ h => h) (by rfl) ?_ (by assumption) ?_
  · intro w hSw
    obtain ⟨⟨a0, a1, a2, a3⟩, _⟩ := rowN4 hSw.mm; obtain ⟨⟨b0, b1⟩, _⟩ := rowN2 hSw.r
    go_simp
  simp only [Act.put, List.setIfInBounds_toArray, List.set_cons_zero, List.set_cons_succ]
  refine take_do (i := 27) (v := (.bool false)) rfl (by kernel_rfl) (by kernel_rfl) (by kernel_rfl) (fun _ _ _ h => h) (by rfl) ?_ (by assumption) ?_
  · intro w hSw
    obtain ⟨⟨a0, a1, a2, a3⟩, _⟩ := rowN4 hSw.mm; obtain ⟨⟨b0, b1⟩, _⟩ := rowN2 hSw.r
    go_simp
  simp only [Act.put, List.setIfInBounds_toArray, List.set_cons_zero, List.set_cons_succ]
  refine wpAnyH_done (by kernel_rfl) ?_ _
  have HQ := Lib.hid hHeld
  clear hHeld
  obtain ⟨⟨a0, a1, a2, a3⟩, _⟩ := rowN4 HQ.out.mm
  obtain ⟨⟨b0, b1⟩, _⟩ := rowN2 HQ.out.r
  have hol := HQ.out.o.lt
  have hml := HQ.out.mm.lt
  have hrl := HQ.out.r.lt
  obtain ⟨g, hg⟩ : ∃ g, g = w2.heap.size := ⟨_, rfl⟩
  obtain ⟨V, hV⟩ : ∃ V, V = (w2.alloc (.cells #[.int .i64 m.day, .int .i64 rd, .int .i64 P, .int .i64 4] 33)).alloc (.cells #[.int .i64 m.d, .int .i64 m.u, .int .i64 rd, .int .i64 m.s] 24) := ⟨_, rfl⟩
  have HV : Hid (SrN w m rd rs g P 4 m.u rd m.s V) := by show SrN _ _ _ _ _ _ _ _ _ _ _; rw [hV, hg]; exact HQ.out.made P 4 rd
  have HVE := Lib.hid hV
  have HGE0 := Lib.hid hg
  clear hV hg HQ
  by_cases ce : rs = -1
  · have hz : (rs == -1) = true := by simp [ce]
    have HNX : Hid (Mt.next m rd rs = ⟨m.d, m.u, rd, (m.s + P) % F⟩ ∧ Mt.water m rd rs = P ∧ Mt.kind m rd rs = 4) := by subst ce; exact ⟨by rw [HP.out, HF.out]; exact Mt.next_guess, by rw [HP.out]; exact Mt.water_guess, Mt.kind_guess⟩
    clear ce
    have e1 : (m.s + P).tmod F = (m.s + P) % F := Int.tmod_eq_emod_of_nonneg (by omega)
    have e2 : 0 ≤ (m.s + P) % F ∧ (m.s + P) % F < F := ⟨Int.emod_nonneg _ (by omega), Int.emod_lt_of_pos _ (by omega)⟩
    have e4 : ¬ F = 0 := by omega
    obtain ⟨R, hR⟩ : ∃ R, (m.s + P) % F = R := ⟨_, rfl⟩
    rw [hR] at e1 e2
    have HRR := Lib.hid hR
    have x1 : IntKind.i64.wrap (m.s + P) = m.s + P := mwrap_id (by omega) (by omega)
    have x2 : IntKind.i64.wrap R = R := mwrap_id (by omega) (by omega)
    go_wp2_with fail
    rw [← HVE.out, ← HGE0.out]
    clear HVE HGE0 a0 a1 a2 a3 b0 b1 hol hml hrl
    refine region_L (SrN w m rd rs g P 4 m.u rd m.s) 9 (by kernel_rfl) (HV.out.below (Below.refl _ _).drew) (fun hHeld => ?_)
    clear HV
    generalize V.drew = Vd at hHeld ⊢
    refine takeL_do (i := 0) (v := (.pointer (some ⟨w.heap.size, 3, none⟩))) rfl (by kernel_rfl) (by kernel_rfl) (by kernel_rfl) (by kernel_rfl) (fun _ _ _ h => h) (by rfl) ?_ (by assumption) ?_
    · intro w hSw
      obtain ⟨⟨a0, a1, a2, a3⟩, _⟩ := rowN4 hSw.mm; obtain ⟨⟨b0, b1⟩, _⟩ := rowN2 hSw.r; obtain ⟨⟨u0, u1, u2, u3⟩, _⟩ := rowN4 hSw.u; obtain ⟨⟨n0, n1, n2, n3⟩, _⟩ := rowN4 hSw.n
      go_simp
    simp only [Act.put, List.setIfInBounds_toArray, List.set_cons_zero, List.set_cons_succ]
    refine takeL_do (i := 1) (v := (.int .i64 m.s)) rfl (by kernel_rfl) (by kernel_rfl) (by kernel_rfl) (by kernel_rfl) (fun _ _ _ h => h) (by rfl) ?_ (by assumption) ?_
    · intro w hSw
      obtain ⟨⟨a0, a1, a2, a3⟩, _⟩ := rowN4 hSw.mm; obtain ⟨⟨b0, b1⟩, _⟩ := rowN2 hSw.r; obtain ⟨⟨u0, u1, u2, u3⟩, _⟩ := rowN4 hSw.u; obtain ⟨⟨n0, n1, n2, n3⟩, _⟩ := rowN4 hSw.n
      go_simp
    simp only [Act.put, List.setIfInBounds_toArray, List.set_cons_zero, List.set_cons_succ]
    refine takeL_do (i := 2) (v := (.int .i64 P)) rfl (by kernel_rfl) (by kernel_rfl) (by kernel_rfl) (by kernel_rfl) (fun _ _ _ h => h) (by rfl) ?_ (by assumption) ?_
    · intro w hSw
      obtain ⟨⟨a0, a1, a2, a3⟩, _⟩ := rowN4 hSw.mm; obtain ⟨⟨b0, b1⟩, _⟩ := rowN2 hSw.r; obtain ⟨⟨u0, u1, u2, u3⟩, _⟩ := rowN4 hSw.u; obtain ⟨⟨n0, n1, n2, n3⟩, _⟩ := rowN4 hSw.n
      go_simp
    simp only [Act.put, List.setIfInBounds_toArray, List.set_cons_zero, List.set_cons_succ]
    refine takeL_do (i := 3) (v := (.int .i64 (m.s + P))) rfl (by kernel_rfl) (by kernel_rfl) (by kernel_rfl) (by kernel_rfl) (fun _ _ _ h => h) (by rfl) ?_ (by assumption) ?_
    · intro w hSw
      obtain ⟨⟨a0, a1, a2, a3⟩, _⟩ := rowN4 hSw.mm; obtain ⟨⟨b0, b1⟩, _⟩ := rowN2 hSw.r; obtain ⟨⟨u0, u1, u2, u3⟩, _⟩ := rowN4 hSw.u; obtain ⟨⟨n0, n1, n2, n3⟩, _⟩ := rowN4 hSw.n
      go_simp
    simp only [Act.put, List.setIfInBounds_toArray, List.set_cons_zero, List.set_cons_succ]
    refine takeL_do (i := 4) (v := (.pointer (some ⟨w.heap.size, 0, none⟩))) rfl (by kernel_rfl) (by kernel_rfl) (by kernel_rfl) (by kernel_rfl) (fun _ _ _ h => h) (by rfl) ?_ (by assumption) ?_
    · intro w hSw
      obtain ⟨⟨a0, a1, a2, a3⟩, _⟩ := rowN4 hSw.mm; obtain ⟨⟨b0, b1⟩, _⟩ := rowN2 hSw.r; obtain ⟨⟨u0, u1, u2, u3⟩, _⟩ := rowN4 hSw.u; obtain ⟨⟨n0, n1, n2, n3⟩, _⟩ := rowN4 hSw.n
      go_simp
    simp only [Act.put, List.setIfInBounds_toArray, List.set_cons_zero, List.set_cons_succ]
    refine takeL_do (i := 5) (v := (.int .i64 m.d)) rfl (by kernel_rfl) (by kernel_rfl) (by kernel_rfl) (by kernel_rfl) (fun _ _ _ h => h) (by rfl) ?_ (by assumption) ?_
    · intro w hSw
      obtain ⟨⟨a0, a1, a2, a3⟩, _⟩ := rowN4 hSw.mm; obtain ⟨⟨b0, b1⟩, _⟩ := rowN2 hSw.r; obtain ⟨⟨u0, u1, u2, u3⟩, _⟩ := rowN4 hSw.u; obtain ⟨⟨n0, n1, n2, n3⟩, _⟩ := rowN4 hSw.n
      go_simp
    simp only [Act.put, List.setIfInBounds_toArray, List.set_cons_zero, List.set_cons_succ]
    refine takeL_call (i := 6) rfl (by kernel_rfl) (fun K2 hK => ?_)
    go_simp
    refine (HFC.out _).mono ?_
    rintro e w3 ⟨rfl, rfl⟩
    go_wp2_with fail
    refine hK.out _ _ hHeld (fun hHeld2 => ?_)
    clear hK hHeld
    have hHeld := hHeld2
    clear hHeld2
    refine takeL_do (i := 7) (v := (.int .i64 R)) rfl (by kernel_rfl) (by kernel_rfl) (by kernel_rfl) (by kernel_rfl) (fun _ _ _ h => h) (by rfl) ?_ (by assumption) ?_
    · intro w hSw
      obtain ⟨⟨a0, a1, a2, a3⟩, _⟩ := rowN4 hSw.mm; obtain ⟨⟨b0, b1⟩, _⟩ := rowN2 hSw.r; obtain ⟨⟨u0, u1, u2, u3⟩, _⟩ := rowN4 hSw.u; obtain ⟨⟨n0, n1, n2, n3⟩, _⟩ := rowN4 hSw.n
      go_simp
    simp only [Act.put, List.setIfInBounds_toArray, List.set_cons_zero, List.set_cons_succ]
    refine takeL_do (i := 8) (v := (.pointer (some ⟨g + 1, 3, none⟩))) rfl (by kernel_rfl) (by kernel_rfl) (by kernel_rfl) (by kernel_rfl) (fun _ _ _ h => h) (by rfl) ?_ (by assumption) ?_
    · intro w hSw
      obtain ⟨⟨a0, a1, a2, a3⟩, _⟩ := rowN4 hSw.mm; obtain ⟨⟨b0, b1⟩, _⟩ := rowN2 hSw.r; obtain ⟨⟨u0, u1, u2, u3⟩, _⟩ := rowN4 hSw.u; obtain ⟨⟨n0, n1, n2, n3⟩, _⟩ := rowN4 hSw.n
      go_simp
    simp only [Act.put, List.setIfInBounds_toArray, List.set_cons_zero, List.set_cons_succ]
    refine takeL_last rfl (by kernel_rfl) (by kernel_rfl) (fun K2 hK => ?_)
    obtain ⟨⟨n0, n1, n2, n3⟩, y0, y1, y2, y3⟩ := rowN4 hHeld.n
    have HV := Lib.hid (hHeld.setN3 R)
    clear hHeld
    go_wp2_with fail
    refine hK.out _ _ ?_
    clear hK n0 n1 n2 n3 y0 y1 y2 y3
    generalize w3.setCell ⟨g + 1, 3, none⟩ (.int .i64 R) = V2 at HV ⊢
    obtain ⟨gs, hgs⟩ : ∃ gs, gs = V2.heap.size := ⟨_, rfl⟩
    have HGE : Hid (w.heap.size + 1 + 1 < gs) := by show w.heap.size + 1 + 1 < gs; rw [hgs]; exact HV.out.o.lt
    obtain ⟨⟨u0, u1, u2, u3⟩, y0, y1, y2, y3⟩ := rowN4 HV.out.u
    obtain ⟨⟨n0, n1, n2, n3⟩, _⟩ := rowN4 HV.out.n
    obtain ⟨⟨o0, o1, o2, o3, o4, o5⟩, z0, z1, z2, z3, z4, z5⟩ := rowN6 HV.out.o
    have hol := HV.out.o.lt
    have hul := HV.out.u.lt
    have hnl := HV.out.n.lt
    have hlo := HV.out.lo
    have hlo1 : ¬ g = w.heap.size + 1 + 1 := by omega
    have hlo2 : ¬ w.heap.size + 1 + 1 = g := by omega
    obtain ⟨Z0, hZ0⟩ : ∃ Z, Z = ((((((V2).setCell ⟨w.heap.size + 1 + 1, 0, none⟩ (.int .i64 (m.d))).setCell ⟨w.heap.size + 1 + 1, 1, none⟩ (.int .i64 (m.u))).setCell ⟨w.heap.size + 1 + 1, 2, none⟩ (.int .i64 (rd))).setCell ⟨w.heap.size + 1 + 1, 3, none⟩ (.int .i64 (R))).setCell ⟨w.heap.size + 1 + 1, 4, none⟩ (.slice (some ⟨gs, 0, none⟩) 1 1)).setCell ⟨w.heap.size + 1 + 1, 5, none⟩ (.int .i64 0) := ⟨_, rfl⟩
    have hs0 : Z0.heap.size = gs := by rw [hZ0, hgs]; simp
    obtain ⟨Z, hZ⟩ : ∃ Z, Z = Z0.alloc (.cells #[.int .i64 (m.day), .int .i64 (rd), .int .i64 (P), .int .i64 (4)] 33) := ⟨_, rfl⟩
    have HZR : Hid (Z.rowIs (w.heap.size + 1 + 1) 30 6 (rowN [.int .i64 (m.d), .int .i64 (m.u), .int .i64 (rd), .int .i64 (R), .slice (some ⟨gs, 0, none⟩) 1 1, .int .i64 0])) := by show Z.rowIs _ _ _ _; rw [hZ, hZ0]; exact nrow_below (mput6 HV.out.o rfl (.int .i64 (m.d)) (.int .i64 (m.u)) (.int .i64 (rd)) (.int .i64 (R)) (.slice (some ⟨gs, 0, none⟩) 1 1) (.int .i64 0)) (nbel_alloc _ _)
    have HZB : Hid (Below w.heap.size w Z) := by show Below _ _ _; rw [hZ, hZ0]; exact (mbel6 (g := w.heap.size + 1 + 1) HV.out.old (by omega) (.int .i64 (m.d)) (.int .i64 (m.u)) (.int .i64 (rd)) (.int .i64 (R)) (.slice (some ⟨gs, 0, none⟩) 1 1) (.int .i64 0)).alloc (mbel6 (g := w.heap.size + 1 + 1) HV.out.old (by omega) (.int .i64 (m.d)) (.int .i64 (m.u)) (.int .i64 (rd)) (.int .i64 (R)) (.slice (some ⟨gs, 0, none⟩) 1 1) (.int .i64 0)).size _
    have HZG : Hid (Z.rowIs gs 33 4 (rowN [.int .i64 (m.day), .int .i64 (rd), .int .i64 (P), .int .i64 (4)])) := by show Z.rowIs _ _ _ _; rw [hZ]; exact rowN_alloc' hs0 _ _
    have HZ : Hid (Z = (((((((V2).setCell ⟨w.heap.size + 1 + 1, 0, none⟩ (.int .i64 (m.d))).setCell ⟨w.heap.size + 1 + 1, 1, none⟩ (.int .i64 (m.u))).setCell ⟨w.heap.size + 1 + 1, 2, none⟩ (.int .i64 (rd))).setCell ⟨w.heap.size + 1 + 1, 3, none⟩ (.int .i64 (R))).setCell ⟨w.heap.size + 1 + 1, 4, none⟩ (.slice (some ⟨V2.heap.size, 0, none⟩) 1 1)).setCell ⟨w.heap.size + 1 + 1, 5, none⟩ (.int .i64 0)).alloc (.cells #[.int .i64 (m.day), .int .i64 (rd), .int .i64 (P), .int .i64 (4)] 33)) := by show Z = _; rw [hZ, hZ0, hgs]
    have HGS := Lib.hid hgs
    clear hZ hZ0 hs0 hgs HV
    go_wp2_with fail
    rw [← HZ.out, ← HGS.out]
    obtain ⟨⟨p0, p1, p2, p3, p4, p5⟩, _⟩ := rowN6 HZR.out
    exact bodyPost_ret (v := .agg #[.int .i64 (m.d), .int .i64 (m.u), .int .i64 (rd), .int .i64 (R), .slice (some ⟨gs, 0, none⟩) 1 1, .int .i64 0]) (by simp only [results, Tryd.results32]; simp [go_sem, p0, p1, p2, p3, p4, p5]) rfl ⟨Or.inr ⟨HOK.out, some ⟨gs, 0, none⟩, 1, by rw [HNX.out.1, HRR.out], Or.inr ⟨gs, rfl, by have := HGE.out; omega, use_blk (by rw [HNX.out.2.1, HNX.out.2.2]; exact HZG.out)⟩⟩, HZB.out⟩
  · have hz : (rs == -1) = false := by simpa using ce
    obtain ⟨T, hT⟩ : ∃ T, T = Mt.turn m.d m.s rs := ⟨_, rfl⟩
    have hT0 : 0 ≤ T ∧ T ≤ 1000000000 := by have := Mt.water_bd HOK.out; rw [Mt.water_read ce, ← hT] at this; exact this
    have HT := Lib.hid hT
    have HCE := Lib.hid ce
    clear hT ce
    obtain ⟨V1, hV1⟩ : ∃ V1, V1 = (w2.alloc (.cells #[.int .i64 m.day, .int .i64 rd, .int .i64 P, .int .i64 4] 33)).alloc (.cells #[.int .i64 m.d, .int .i64 m.u, .int .i64 rd, .int .i64 rs] 24) := ⟨_, rfl⟩
    have HV1 : Hid (SrN w m rd rs g P 4 m.u rd rs V1) := by
      show SrN _ _ _ _ _ _ _ _ _ _ _
      rw [hV1]
      have hq := HV.out.setN3 rs
      rw [HVE.out, HGE0.out] at hq
      rw [HGE0.out]
      rw [show w2.heap.size + 1 = (w2.alloc (.cells #[.int .i64 m.day, .int .i64 rd, .int .i64 P, .int .i64 4] 33)).heap.size by simp, World.setCell_alloc_new] at hq
      exact hq
    have HVE1 := Lib.hid hV1
    clear hV1 HV HVE
    go_wp2_with fail
    rw [← HVE1.out]
    clear HVE1 a0 a1 a2 a3 b0 b1 hol hml hrl
    refine (specTurn_any _ _ _ _).mono ?_
    rintro e w3 ⟨rfl, rfl⟩
    rw [← HT.out, ← HGE0.out]
    clear HGE0
    obtain ⟨⟨u0, u1, u2, u3⟩, y0, y1, y2, y3⟩ := rowN4 HV1.out.u
    by_cases k1 : 5 * P + 100 < T
    · have HNX : Hid (Mt.kind m rd rs = 2) := Mt.kind_high HCE.out (by rw [← HT.out, ← HP.out]; exact k1)
      have HNY : Hid (Mt.next m rd rs = ⟨m.d, m.u, rd, rs⟩) := Mt.next_far HCE.out (by rw [HNX.out]; decide)
      have HNW : Hid (Mt.water m rd rs = T) := by show _ = _; rw [Mt.water_read HCE.out, ← HT.out]
      have HV : Hid (SrN w m rd rs g T 2 m.u rd rs ((w3.setCell ⟨g, 2, none⟩ (.int .i64 T)).setCell ⟨g, 3, none⟩ (.int .i64 2))) := (HV1.out.setU2 T).setU3 2
      clear u0 u1 u2 u3 y0 y1 y2 y3
      obtain ⟨gs, hgs⟩ : ∃ gs, gs = w3.heap.size := ⟨_, rfl⟩
      have HGE : Hid (w.heap.size + 1 + 1 < gs) := by show w.heap.size + 1 + 1 < gs; rw [hgs]; exact HV1.out.o.lt
      obtain ⟨⟨u0, u1, u2, u3⟩, y0, y1, y2, y3⟩ := rowN4 HV1.out.u
      obtain ⟨⟨n0, n1, n2, n3⟩, _⟩ := rowN4 HV1.out.n
      obtain ⟨⟨o0, o1, o2, o3, o4, o5⟩, z0, z1, z2, z3, z4, z5⟩ := rowN6 HV1.out.o
      have hol := HV1.out.o.lt
      have hul := HV1.out.u.lt
      have hnl := HV1.out.n.lt
      have hlo := HV1.out.lo
      have hlo1 : ¬ g = w.heap.size + 1 + 1 := by omega
      have hlo2 : ¬ w.heap.size + 1 + 1 = g := by omega
      obtain ⟨Z0, hZ0⟩ : ∃ Z, Z = ((((((((w3.setCell ⟨g, 2, none⟩ (.int .i64 T)).setCell ⟨g, 3, none⟩ (.int .i64 2))).setCell ⟨w.heap.size + 1 + 1, 0, none⟩ (.int .i64 (m.d))).setCell ⟨w.heap.size + 1 + 1, 1, none⟩ (.int .i64 (m.u))).setCell ⟨w.heap.size + 1 + 1, 2, none⟩ (.int .i64 (rd))).setCell ⟨w.heap.size + 1 + 1, 3, none⟩ (.int .i64 (rs))).setCell ⟨w.heap.size + 1 + 1, 4, none⟩ (.slice (some ⟨gs, 0, none⟩) 1 1)).setCell ⟨w.heap.size + 1 + 1, 5, none⟩ (.int .i64 0) := ⟨_, rfl⟩
      have hs0 : Z0.heap.size = gs := by rw [hZ0, hgs]; simp
      obtain ⟨Z, hZ⟩ : ∃ Z, Z = Z0.alloc (.cells #[.int .i64 (m.day), .int .i64 (rd), .int .i64 (T), .int .i64 (2)] 33) := ⟨_, rfl⟩
      have HZR : Hid (Z.rowIs (w.heap.size + 1 + 1) 30 6 (rowN [.int .i64 (m.d), .int .i64 (m.u), .int .i64 (rd), .int .i64 (rs), .slice (some ⟨gs, 0, none⟩) 1 1, .int .i64 0])) := by show Z.rowIs _ _ _ _; rw [hZ, hZ0]; exact nrow_below (mput6 HV.out.o rfl (.int .i64 (m.d)) (.int .i64 (m.u)) (.int .i64 (rd)) (.int .i64 (rs)) (.slice (some ⟨gs, 0, none⟩) 1 1) (.int .i64 0)) (nbel_alloc _ _)
      have HZB : Hid (Below w.heap.size w Z) := by show Below _ _ _; rw [hZ, hZ0]; exact (mbel6 (g := w.heap.size + 1 + 1) HV.out.old (by omega) (.int .i64 (m.d)) (.int .i64 (m.u)) (.int .i64 (rd)) (.int .i64 (rs)) (.slice (some ⟨gs, 0, none⟩) 1 1) (.int .i64 0)).alloc (mbel6 (g := w.heap.size + 1 + 1) HV.out.old (by omega) (.int .i64 (m.d)) (.int .i64 (m.u)) (.int .i64 (rd)) (.int .i64 (rs)) (.slice (some ⟨gs, 0, none⟩) 1 1) (.int .i64 0)).size _
      have HZG : Hid (Z.rowIs gs 33 4 (rowN [.int .i64 (m.day), .int .i64 (rd), .int .i64 (T), .int .i64 (2)])) := by show Z.rowIs _ _ _ _; rw [hZ]; exact rowN_alloc' hs0 _ _
      have HZ : Hid (Z = (((((((((w3.setCell ⟨g, 2, none⟩ (.int .i64 T)).setCell ⟨g, 3, none⟩ (.int .i64 2))).setCell ⟨w.heap.size + 1 + 1, 0, none⟩ (.int .i64 (m.d))).setCell ⟨w.heap.size + 1 + 1, 1, none⟩ (.int .i64 (m.u))).setCell ⟨w.heap.size + 1 + 1, 2, none⟩ (.int .i64 (rd))).setCell ⟨w.heap.size + 1 + 1, 3, none⟩ (.int .i64 (rs))).setCell ⟨w.heap.size + 1 + 1, 4, none⟩ (.slice (some ⟨w3.heap.size, 0, none⟩) 1 1)).setCell ⟨w.heap.size + 1 + 1, 5, none⟩ (.int .i64 0)).alloc (.cells #[.int .i64 (m.day), .int .i64 (rd), .int .i64 (T), .int .i64 (2)] 33)) := by show Z = _; rw [hZ, hZ0, hgs]
      have HGS := Lib.hid hgs
      clear hZ hZ0 hs0 hgs HV
      go_wp2_with fail
      rw [← HZ.out, ← HGS.out]
      obtain ⟨⟨p0, p1, p2, p3, p4, p5⟩, _⟩ := rowN6 HZR.out
      exact bodyPost_ret (v := .agg #[.int .i64 (m.d), .int .i64 (m.u), .int .i64 (rd), .int .i64 (rs), .slice (some ⟨gs, 0, none⟩) 1 1, .int .i64 0]) (by simp only [results, Tryd.results32]; simp [go_sem, p0, p1, p2, p3, p4, p5]) rfl ⟨Or.inr ⟨HOK.out, some ⟨gs, 0, none⟩, 1, by rw [HNY.out], Or.inr ⟨gs, rfl, by have := HGE.out; omega, use_blk (by rw [HNW.out, HNX.out]; exact HZG.out)⟩⟩, HZB.out⟩
    by_cases k2 : 10 * T < P
    · have HNX : Hid (Mt.kind m rd rs = 3) := Mt.kind_low HCE.out (by rw [← HT.out, ← HP.out]; exact k1) (by rw [← HT.out, ← HP.out]; exact k2)
      have HNY : Hid (Mt.next m rd rs = ⟨m.d, m.u, rd, rs⟩) := Mt.next_far HCE.out (by rw [HNX.out]; decide)
      have HNW : Hid (Mt.water m rd rs = T) := by show _ = _; rw [Mt.water_read HCE.out, ← HT.out]
      have HV : Hid (SrN w m rd rs g T 3 m.u rd rs ((w3.setCell ⟨g, 2, none⟩ (.int .i64 T)).setCell ⟨g, 3, none⟩ (.int .i64 3))) := (HV1.out.setU2 T).setU3 3
      clear u0 u1 u2 u3 y0 y1 y2 y3
      obtain ⟨gs, hgs⟩ : ∃ gs, gs = w3.heap.size := ⟨_, rfl⟩
      have HGE : Hid (w.heap.size + 1 + 1 < gs) := by show w.heap.size + 1 + 1 < gs; rw [hgs]; exact HV1.out.o.lt
      obtain ⟨⟨u0, u1, u2, u3⟩, y0, y1, y2, y3⟩ := rowN4 HV1.out.u
      obtain ⟨⟨n0, n1, n2, n3⟩, _⟩ := rowN4 HV1.out.n
      obtain ⟨⟨o0, o1, o2, o3, o4, o5⟩, z0, z1, z2, z3, z4, z5⟩ := rowN6 HV1.out.o
      have hol := HV1.out.o.lt
      have hul := HV1.out.u.lt
      have hnl := HV1.out.n.lt
      have hlo := HV1.out.lo
      have hlo1 : ¬ g = w.heap.size + 1 + 1 := by omega
      have hlo2 : ¬ w.heap.size + 1 + 1 = g := by omega
      obtain ⟨Z0, hZ0⟩ : ∃ Z, Z = ((((((((w3.setCell ⟨g, 2, none⟩ (.int .i64 T)).setCell ⟨g, 3, none⟩ (.int .i64 3))).setCell ⟨w.heap.size + 1 + 1, 0, none⟩ (.int .i64 (m.d))).setCell ⟨w.heap.size + 1 + 1, 1, none⟩ (.int .i64 (m.u))).setCell ⟨w.heap.size + 1 + 1, 2, none⟩ (.int .i64 (rd))).setCell ⟨w.heap.size + 1 + 1, 3, none⟩ (.int .i64 (rs))).setCell ⟨w.heap.size + 1 + 1, 4, none⟩ (.slice (some ⟨gs, 0, none⟩) 1 1)).setCell ⟨w.heap.size + 1 + 1, 5, none⟩ (.int .i64 0) := ⟨_, rfl⟩
      have hs0 : Z0.heap.size = gs := by rw [hZ0, hgs]; simp
      obtain ⟨Z, hZ⟩ : ∃ Z, Z = Z0.alloc (.cells #[.int .i64 (m.day), .int .i64 (rd), .int .i64 (T), .int .i64 (3)] 33) := ⟨_, rfl⟩
      have HZR : Hid (Z.rowIs (w.heap.size + 1 + 1) 30 6 (rowN [.int .i64 (m.d), .int .i64 (m.u), .int .i64 (rd), .int .i64 (rs), .slice (some ⟨gs, 0, none⟩) 1 1, .int .i64 0])) := by show Z.rowIs _ _ _ _; rw [hZ, hZ0]; exact nrow_below (mput6 HV.out.o rfl (.int .i64 (m.d)) (.int .i64 (m.u)) (.int .i64 (rd)) (.int .i64 (rs)) (.slice (some ⟨gs, 0, none⟩) 1 1) (.int .i64 0)) (nbel_alloc _ _)
      have HZB : Hid (Below w.heap.size w Z) := by show Below _ _ _; rw [hZ, hZ0]; exact (mbel6 (g := w.heap.size + 1 + 1) HV.out.old (by omega) (.int .i64 (m.d)) (.int .i64 (m.u)) (.int .i64 (rd)) (.int .i64 (rs)) (.slice (some ⟨gs, 0, none⟩) 1 1) (.int .i64 0)).alloc (mbel6 (g := w.heap.size + 1 + 1) HV.out.old (by omega) (.int .i64 (m.d)) (.int .i64 (m.u)) (.int .i64 (rd)) (.int .i64 (rs)) (.slice (some ⟨gs, 0, none⟩) 1 1) (.int .i64 0)).size _
      have HZG : Hid (Z.rowIs gs 33 4 (rowN [.int .i64 (m.day), .int .i64 (rd), .int .i64 (T), .int .i64 (3)])) := by show Z.rowIs _ _ _ _; rw [hZ]; exact rowN_alloc' hs0 _ _
      have HZ : Hid (Z = (((((((((w3.setCell ⟨g, 2, none⟩ (.int .i64 T)).setCell ⟨g, 3, none⟩ (.int .i64 3))).setCell ⟨w.heap.size + 1 + 1, 0, none⟩ (.int .i64 (m.d))).setCell ⟨w.heap.size + 1 + 1, 1, none⟩ (.int .i64 (m.u))).setCell ⟨w.heap.size + 1 + 1, 2, none⟩ (.int .i64 (rd))).setCell ⟨w.heap.size + 1 + 1, 3, none⟩ (.int .i64 (rs))).setCell ⟨w.heap.size + 1 + 1, 4, none⟩ (.slice (some ⟨w3.heap.size, 0, none⟩) 1 1)).setCell ⟨w.heap.size + 1 + 1, 5, none⟩ (.int .i64 0)).alloc (.cells #[.int .i64 (m.day), .int .i64 (rd), .int .i64 (T), .int .i64 (3)] 33)) := by show Z = _; rw [hZ, hZ0, hgs]
      have HGS := Lib.hid hgs
      clear hZ hZ0 hs0 hgs HV
      go_wp2_with fail
      rw [← HZ.out, ← HGS.out]
      obtain ⟨⟨p0, p1, p2, p3, p4, p5⟩, _⟩ := rowN6 HZR.out
      exact bodyPost_ret (v := .agg #[.int .i64 (m.d), .int .i64 (m.u), .int .i64 (rd), .int .i64 (rs), .slice (some ⟨gs, 0, none⟩) 1 1, .int .i64 0]) (by simp only [results, Tryd.results32]; simp [go_sem, p0, p1, p2, p3, p4, p5]) rfl ⟨Or.inr ⟨HOK.out, some ⟨gs, 0, none⟩, 1, by rw [HNY.out], Or.inr ⟨gs, rfl, by have := HGE.out; omega, use_blk (by rw [HNW.out, HNX.out]; exact HZG.out)⟩⟩, HZB.out⟩
    have HNX : Hid (Mt.kind m rd rs = 1) := Mt.kind_good HCE.out (by rw [← HT.out, ← HP.out]; exact k1) (by rw [← HT.out, ← HP.out]; exact k2)
    have HNW : Hid (Mt.water m rd rs = T) := by show _ = _; rw [Mt.water_read HCE.out, ← HT.out]
    obtain ⟨V3, hV3⟩ : ∃ V3, V3 = (w3.setCell ⟨g, 2, none⟩ (.int .i64 T)).setCell ⟨g, 3, none⟩ (.int .i64 1) := ⟨_, rfl⟩
    have HV3 : Hid (SrN w m rd rs g T 1 m.u rd rs V3) := by show SrN _ _ _ _ _ _ _ _ _ _ _; rw [hV3]; exact (HV1.out.setU2 T).setU3 1
    have HE3 := Lib.hid hV3
    have hul := HV1.out.u.lt
    clear hV3
    obtain ⟨q, hq⟩ : ∃ q, T / Dd = q := ⟨_, rfl⟩
    have hq0 : 0 ≤ q ∧ q ≤ 1000000000 := by rw [← hq]; exact ⟨Int.ediv_nonneg hT0.1 (by omega), Int.le_trans (Int.ediv_le_self _ hT0.1) hT0.2⟩
    have e1 : T.tdiv Dd = q := by rw [← hq]; exact Int.tdiv_eq_ediv_of_nonneg hT0.1
    have e3 : ¬ Dd = 0 := by omega
    obtain ⟨X, hX⟩ : ∃ X, (3 * m.u + q) / 4 = X := ⟨_, rfl⟩
    have hX0 : 0 ≤ X ∧ X ≤ 1000000000 := by omega
    have e4 : (3 * m.u + q).tdiv 4 = X := by rw [← hX]; exact Int.tdiv_eq_ediv_of_nonneg (by omega)
    obtain ⟨Y, hY⟩ : ∃ Y, min 10000 X = Y := ⟨_, rfl⟩
    have HY := Lib.hid hY
    have HNY : Hid (Mt.next m rd rs = ⟨m.d, Y, rd, rs⟩) := by
      show _ = _
      rw [Mt.next_good HCE.out HNX.out, ← HT.out, HDD.out, hq, hX, ← hY, Int.min_comm]
    have x1 : IntKind.i64.wrap (3 * m.u) = 3 * m.u := mwrap_id (by omega) (by omega)
    have x2 : IntKind.i64.wrap q = q := mwrap_id (by omega) (by omega)
    have x3 : IntKind.i64.wrap (3 * m.u + q) = 3 * m.u + q := mwrap_id (by omega) (by omega)
    have x4 : IntKind.i64.wrap X = X := mwrap_id (by omega) (by omega)
    clear hY
    go_wp2_with fail
    rw [← HE3.out]
    clear HE3 u0 u1 u2 u3 y0 y1 y2 y3 hul HV1
    refine region_L (SrN w m rd rs g T 1 m.u rd rs) 11 (by kernel_rfl) (HV3.out.below (Below.refl _ _).drew) (fun hHeld => ?_)
    clear HV3
    generalize V3.drew = Vd at hHeld ⊢
    refine takeL_do (i := 0) (v := (.pointer (some ⟨w.heap.size, 1, none⟩))) rfl (by kernel_rfl) (by kernel_rfl) (by kernel_rfl) (by kernel_rfl) (fun _ _ _ h => h) (by rfl) ?_ (by assumption) ?_
    · intro w hSw
      obtain ⟨⟨a0, a1, a2, a3⟩, _⟩ := rowN4 hSw.mm; obtain ⟨⟨b0, b1⟩, _⟩ := rowN2 hSw.r; obtain ⟨⟨u0, u1, u2, u3⟩, _⟩ := rowN4 hSw.u; obtain ⟨⟨n0, n1, n2, n3⟩, _⟩ := rowN4 hSw.n
      go_simp
    simp only [Act.put, List.setIfInBounds_toArray, List.set_cons_zero, List.set_cons_succ]
    refine takeL_do (i := 1) (v := (.int .i64 m.u)) rfl (by kernel_rfl) (by kernel_rfl) (by kernel_rfl) (by kernel_rfl) (fun _ _ _ h => h) (by rfl) ?_ (by assumption) ?_
    · intro w hSw
      obtain ⟨⟨a0, a1, a2, a3⟩, _⟩ := rowN4 hSw.mm; obtain ⟨⟨b0, b1⟩, _⟩ := rowN2 hSw.r; obtain ⟨⟨u0, u1, u2, u3⟩, _⟩ := rowN4 hSw.u; obtain ⟨⟨n0, n1, n2, n3⟩, _⟩ := rowN4 hSw.n
      go_simp
    simp only [Act.put, List.setIfInBounds_toArray, List.set_cons_zero, List.set_cons_succ]
    refine takeL_do (i := 2) (v := (.int .i64 (3 * m.u))) rfl (by kernel_rfl) (by kernel_rfl) (by kernel_rfl) (by kernel_rfl) (fun _ _ _ h => h) (by rfl) ?_ (by assumption) ?_
    · intro w hSw
      obtain ⟨⟨a0, a1, a2, a3⟩, _⟩ := rowN4 hSw.mm; obtain ⟨⟨b0, b1⟩, _⟩ := rowN2 hSw.r; obtain ⟨⟨u0, u1, u2, u3⟩, _⟩ := rowN4 hSw.u; obtain ⟨⟨n0, n1, n2, n3⟩, _⟩ := rowN4 hSw.n
      go_simp
    simp only [Act.put, List.setIfInBounds_toArray, List.set_cons_zero, List.set_cons_succ]
    refine takeL_do (i := 3) (v := (.pointer (some ⟨g, 2, none⟩))) rfl (by kernel_rfl) (by kernel_rfl) (by kernel_rfl) (by kernel_rfl) (fun _ _ _ h => h) (by rfl) ?_ (by assumption) ?_
    · intro w hSw
      obtain ⟨⟨a0, a1, a2, a3⟩, _⟩ := rowN4 hSw.mm; obtain ⟨⟨b0, b1⟩, _⟩ := rowN2 hSw.r; obtain ⟨⟨u0, u1, u2, u3⟩, _⟩ := rowN4 hSw.u; obtain ⟨⟨n0, n1, n2, n3⟩, _⟩ := rowN4 hSw.n
      go_simp
    simp only [Act.put, List.setIfInBounds_toArray, List.set_cons_zero, List.set_cons_succ]
    refine takeL_do (i := 4) (v := (.int .i64 T)) rfl (by kernel_rfl) (by kernel_rfl) (by kernel_rfl) (by kernel_rfl) (fun _ _ _ h => h) (by rfl) ?_ (by assumption) ?_
    · intro w hSw
      obtain ⟨⟨a0, a1, a2, a3⟩, _⟩ := rowN4 hSw.mm; obtain ⟨⟨b0, b1⟩, _⟩ := rowN2 hSw.r; obtain ⟨⟨u0, u1, u2, u3⟩, _⟩ := rowN4 hSw.u; obtain ⟨⟨n0, n1, n2, n3⟩, _⟩ := rowN4 hSw.n
      go_simp
    simp only [Act.put, List.setIfInBounds_toArray, List.set_cons_zero, List.set_cons_succ]
    refine takeL_do (i := 5) (v := (.int .i64 Dd)) rfl (by kernel_rfl) (by kernel_rfl) (by kernel_rfl) (by kernel_rfl) (fun _ _ _ h => h) (by rfl) ?_ (by assumption) ?_
    · intro w hSw
      obtain ⟨⟨a0, a1, a2, a3⟩, _⟩ := rowN4 hSw.mm; obtain ⟨⟨b0, b1⟩, _⟩ := rowN2 hSw.r; obtain ⟨⟨u0, u1, u2, u3⟩, _⟩ := rowN4 hSw.u; obtain ⟨⟨n0, n1, n2, n3⟩, _⟩ := rowN4 hSw.n
      go_simp
    simp only [Act.put, List.setIfInBounds_toArray, List.set_cons_zero, List.set_cons_succ]
    refine takeL_do (i := 6) (v := (.int .i64 q)) rfl (by kernel_rfl) (by kernel_rfl) (by kernel_rfl) (by kernel_rfl) (fun _ _ _ h => h) (by rfl) ?_ (by assumption) ?_
    · intro w hSw
      obtain ⟨⟨a0, a1, a2, a3⟩, _⟩ := rowN4 hSw.mm; obtain ⟨⟨b0, b1⟩, _⟩ := rowN2 hSw.r; obtain ⟨⟨u0, u1, u2, u3⟩, _⟩ := rowN4 hSw.u; obtain ⟨⟨n0, n1, n2, n3⟩, _⟩ := rowN4 hSw.n
      go_simp
    simp only [Act.put, List.setIfInBounds_toArray, List.set_cons_zero, List.set_cons_succ]
    refine takeL_do (i := 7) (v := (.int .i64 (3 * m.u + q))) rfl (by kernel_rfl) (by kernel_rfl) (by kernel_rfl) (by kernel_rfl) (fun _ _ _ h => h) (by rfl) ?_ (by assumption) ?_
    · intro w hSw
      obtain ⟨⟨a0, a1, a2, a3⟩, _⟩ := rowN4 hSw.mm; obtain ⟨⟨b0, b1⟩, _⟩ := rowN2 hSw.r; obtain ⟨⟨u0, u1, u2, u3⟩, _⟩ := rowN4 hSw.u; obtain ⟨⟨n0, n1, n2, n3⟩, _⟩ := rowN4 hSw.n
      go_simp
    simp only [Act.put, List.setIfInBounds_toArray, List.set_cons_zero, List.set_cons_succ]
    refine takeL_do (i := 8) (v := (.int .i64 X)) rfl (by kernel_rfl) (by kernel_rfl) (by kernel_rfl) (by kernel_rfl) (fun _ _ _ h => h) (by rfl) ?_ (by assumption) ?_
    · intro w hSw
      obtain ⟨⟨a0, a1, a2, a3⟩, _⟩ := rowN4 hSw.mm; obtain ⟨⟨b0, b1⟩, _⟩ := rowN2 hSw.r; obtain ⟨⟨u0, u1, u2, u3⟩, _⟩ := rowN4 hSw.u; obtain ⟨⟨n0, n1, n2, n3⟩, _⟩ := rowN4 hSw.n
      go_simp
    simp only [Act.put, List.setIfInBounds_toArray, List.set_cons_zero, List.set_cons_succ]
    refine takeL_call (i := 9) rfl (by kernel_rfl) (fun K2 hK => ?_)
    go_simp
    refine (mtMin_any _ _ _).mono ?_
    rintro e w4 ⟨rfl, rfl⟩
    rw [HY.out]
    go_wp2_with fail
    refine hK.out _ _ hHeld (fun hHeld2 => ?_)
    clear hK hHeld
    have hHeld := hHeld2
    clear hHeld2
    refine takeL_do (i := 10) (v := (.pointer (some ⟨g + 1, 1, none⟩))) rfl (by kernel_rfl) (by kernel_rfl) (by kernel_rfl) (by kernel_rfl) (fun _ _ _ h => h) (by rfl) ?_ (by assumption) ?_
    · intro w hSw
      obtain ⟨⟨a0, a1, a2, a3⟩, _⟩ := rowN4 hSw.mm; obtain ⟨⟨b0, b1⟩, _⟩ := rowN2 hSw.r; obtain ⟨⟨u0, u1, u2, u3⟩, _⟩ := rowN4 hSw.u; obtain ⟨⟨n0, n1, n2, n3⟩, _⟩ := rowN4 hSw.n
      go_simp
    simp only [Act.put, List.setIfInBounds_toArray, List.set_cons_zero, List.set_cons_succ]
    refine takeL_last rfl (by kernel_rfl) (by kernel_rfl) (fun K2 hK => ?_)
    obtain ⟨⟨n0, n1, n2, n3⟩, y0, y1, y2, y3⟩ := rowN4 hHeld.n
    have HV := Lib.hid (hHeld.setN1 Y)
    clear hHeld
    go_wp2_with fail
    refine hK.out _ _ ?_
    clear hK n0 n1 n2 n3 y0 y1 y2 y3
    generalize w4.setCell ⟨g + 1, 1, none⟩ (.int .i64 Y) = V2 at HV ⊢
    obtain ⟨gs, hgs⟩ : ∃ gs, gs = V2.heap.size := ⟨_, rfl⟩
    have HGE : Hid (w.heap.size + 1 + 1 < gs) := by show w.heap.size + 1 + 1 < gs; rw [hgs]; exact HV.out.o.lt
    obtain ⟨⟨u0, u1, u2, u3⟩, y0, y1, y2, y3⟩ := rowN4 HV.out.u
    obtain ⟨⟨n0, n1, n2, n3⟩, _⟩ := rowN4 HV.out.n
    obtain ⟨⟨o0, o1, o2, o3, o4, o5⟩, z0, z1, z2, z3, z4, z5⟩ := rowN6 HV.out.o
    have hol := HV.out.o.lt
    have hul := HV.out.u.lt
    have hnl := HV.out.n.lt
    have hlo := HV.out.lo
    have hlo1 : ¬ g = w.heap.size + 1 + 1 := by omega
    have hlo2 : ¬ w.heap.size + 1 + 1 = g := by omega
    obtain ⟨Z0, hZ0⟩ : ∃ Z, Z = ((((((V2).setCell ⟨w.heap.size + 1 + 1, 0, none⟩ (.int .i64 (m.d))).setCell ⟨w.heap.size + 1 + 1, 1, none⟩ (.int .i64 (Y))).setCell ⟨w.heap.size + 1 + 1, 2, none⟩ (.int .i64 (rd))).setCell ⟨w.heap.size + 1 + 1, 3, none⟩ (.int .i64 (rs))).setCell ⟨w.heap.size + 1 + 1, 4, none⟩ (.slice (some ⟨gs, 0, none⟩) 1 1)).setCell ⟨w.heap.size + 1 + 1, 5, none⟩ (.int .i64 0) := ⟨_, rfl⟩
    have hs0 : Z0.heap.size = gs := by rw [hZ0, hgs]; simp
    obtain ⟨Z, hZ⟩ : ∃ Z, Z = Z0.alloc (.cells #[.int .i64 (m.day), .int .i64 (rd), .int .i64 (T), .int .i64 (1)] 33) := ⟨_, rfl⟩
    have HZR : Hid (Z.rowIs (w.heap.size + 1 + 1) 30 6 (rowN [.int .i64 (m.d), .int .i64 (Y), .int .i64 (rd), .int .i64 (rs), .slice (some ⟨gs, 0, none⟩) 1 1, .int .i64 0])) := by show Z.rowIs _ _ _ _; rw [hZ, hZ0]; exact nrow_below (mput6 HV.out.o rfl (.int .i64 (m.d)) (.int .i64 (Y)) (.int .i64 (rd)) (.int .i64 (rs)) (.slice (some ⟨gs, 0, none⟩) 1 1) (.int .i64 0)) (nbel_alloc _ _)
    have HZB : Hid (Below w.heap.size w Z) := by show Below _ _ _; rw [hZ, hZ0]; exact (mbel6 (g := w.heap.size + 1 + 1) HV.out.old (by omega) (.int .i64 (m.d)) (.int .i64 (Y)) (.int .i64 (rd)) (.int .i64 (rs)) (.slice (some ⟨gs, 0, none⟩) 1 1) (.int .i64 0)).alloc (mbel6 (g := w.heap.size + 1 + 1) HV.out.old (by omega) (.int .i64 (m.d)) (.int .i64 (Y)) (.int .i64 (rd)) (.int .i64 (rs)) (.slice (some ⟨gs, 0, none⟩) 1 1) (.int .i64 0)).size _
    have HZG : Hid (Z.rowIs gs 33 4 (rowN [.int .i64 (m.day), .int .i64 (rd), .int .i64 (T), .int .i64 (1)])) := by show Z.rowIs _ _ _ _; rw [hZ]; exact rowN_alloc' hs0 _ _
    have HZ : Hid (Z = (((((((V2).setCell ⟨w.heap.size + 1 + 1, 0, none⟩ (.int .i64 (m.d))).setCell ⟨w.heap.size + 1 + 1, 1, none⟩ (.int .i64 (Y))).setCell ⟨w.heap.size + 1 + 1, 2, none⟩ (.int .i64 (rd))).setCell ⟨w.heap.size + 1 + 1, 3, none⟩ (.int .i64 (rs))).setCell ⟨w.heap.size + 1 + 1, 4, none⟩ (.slice (some ⟨V2.heap.size, 0, none⟩) 1 1)).setCell ⟨w.heap.size + 1 + 1, 5, none⟩ (.int .i64 0)).alloc (.cells #[.int .i64 (m.day), .int .i64 (rd), .int .i64 (T), .int .i64 (1)] 33)) := by show Z = _; rw [hZ, hZ0, hgs]
    have HGS := Lib.hid hgs
    clear hZ hZ0 hs0 hgs HV
    go_wp2_with fail
    rw [← HZ.out, ← HGS.out]
    obtain ⟨⟨p0, p1, p2, p3, p4, p5⟩, _⟩ := rowN6 HZR.out
    exact bodyPost_ret (v := .agg #[.int .i64 (m.d), .int .i64 (Y), .int .i64 (rd), .int .i64 (rs), .slice (some ⟨gs, 0, none⟩) 1 1, .int .i64 0]) (by simp only [results, Tryd.results32]; simp [go_sem, p0, p1, p2, p3, p4, p5]) rfl ⟨Or.inr ⟨HOK.out, some ⟨gs, 0, none⟩, 1, by rw [HNY.out], Or.inr ⟨gs, rfl, by have := HGE.out; omega, use_blk (by rw [HNW.out, HNX.out]; exact HZG.out)⟩⟩, HZB.out⟩
end Go.Proofs.YtmejmpdljckfgaaDoor
