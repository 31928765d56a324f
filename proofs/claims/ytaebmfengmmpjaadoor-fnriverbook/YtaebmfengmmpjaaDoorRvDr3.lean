/-
  The contracts of the draws of a rain and of a step.
-/
import Derived.Test.YtaebmfengmmpjaaDoorRvDr2
namespace Go.Proofs.YtaebmfengmmpjaaDoor
open Go.RowKit Go.Deep

theorem il_form {w : World} {sb : Nat} {v : Value} {zs : List Int} {W : World} (h : IL w sb v zs W) (hn : 1 ≤ zs.length) : ∃ g cap, v = .slice (some ⟨g, 0, none⟩) zs.length cap ∧ w.heap.size ≤ g ∧ InBlk g zs.length (inList zs) W := by
  rcases own_ints h.1 with ⟨_, e⟩ | ⟨g, cap, e1, e2, e3⟩
  · rw [e] at hn; simp at hn
  · exact ⟨g, cap, e1, e2, e3⟩

set_option maxRecDepth 100000 in
set_option maxHeartbeats 4000000 in
theorem rain_any (sb N : Nat) (hN1 : 1 ≤ N) (hN : N ≤ 100) (w : World) (h : Src sb w) :
    Calls Tryd.prog 14 #[.pointer (some ⟨sb, 0, none⟩), .int .i64 N] w fun e w' => ∃ v, e = .returned v ∧ ∃ zs : List Int, 1 ≤ zs.length ∧ zs.length ≤ 101 ∧ IL w sb v zs w' := by
  have H : Hid (Src sb w) := h
  obtain ⟨i0, hi0, hz0, hz1, hz2⟩ := info_parts info_i64
  have hNz : 0 < (N : Int) := by omega
  clear h
  go_enter Tryd.func14, Tryd.ntmps14
  go_wp2_with fail
  refine (list_any sb N (by omega) _ H.out).mono ?_
  rintro e w1 ⟨v, rfl, zs, hzl, hL⟩
  subst hzl
  obtain ⟨g, cap, rfl, hg, _⟩ := il_form hL (by omega)
  have L1 := Lib.hid hL
  clear hL
  go_wp2_with fail
  refine (one_any sb 20 _ L1.out.2.1.1 (by omega)).mono ?_
  rintro e w2 ⟨⟨b1, rfl⟩, hD⟩
  have L2 := Lib.hid (L1.out.draw hD)
  clear hD L1
  have key : ∀ (P : Prop) (ys : List Int) (W : World), True := fun _ _ _ => trivial
  clear key
  cases b1
  · go_wp2_with fail
    refine (one_any sb 30 _ L2.out.2.1.1 (by omega)).mono ?_
    rintro e w3 ⟨⟨b2, rfl⟩, hD⟩
    have L3 := Lib.hid (L2.out.draw hD)
    clear hD L2
    cases b2
    · go_wp2_with fail
      go_ret
      exact ⟨_, rfl, zs, by omega, by omega, L3.out⟩
    · have zw := L3.out.2.1.2.size
      go_wp2_with (at_builtin; refine wpList_append_own _ rfl _ _ 27 rfl w.heap.size 2 i0 (.int .i64 0) 1 8 Tryd.underlying27 hi0 hz0 hz1 hz2 rfl (by decide) _ _ _ rfl (L3.out.1.alloc _) ⟨w3.heap.size, 0, none⟩ 1 1 [.int .i64 1] rfl rfl ?c1 ?c2 ?c3 ?c4 ?c5 ?_)
      try (case c1 => (intro j u hj; match j, hj with
        | 0, hj => (simp at hj; subst hj; simp [Addr.add])))
      try (case c2 => first | rfl | (intro u hu; simp at hu; subst hu; rfl))
      try (case c3 => (unfold maxLen; omega))
      try (case c4 => omega)
      try (case c5 => first | omega | (simp; omega))
      intro v' w4 hown hgrow hnil
      have L4 : Hid (IL w sb v' (zs ++ [1]) w4) := L3.out.push hgrow hown
      clear hown hgrow hnil L3
      go_wp2_with fail
      go_ret
      exact ⟨_, rfl, zs ++ [1], by simp, by simp; omega, L4.out⟩
  · go_wp2_with fail
    refine (n_any sb (zs.length : Int) _ L2.out.2.1.1 (by omega)).mono ?_
    rintro e w3 ⟨⟨z, rfl, z0, z1, z2⟩, hD⟩
    have z3 : z < (zs.length : Int) := by
      by_cases k : 1 < (zs.length : Int)
      · exact z1 k
      · have := z2 (by omega); omega
    have L3 := Lib.hid (L2.out.draw hD)
    clear hD L2 z1 z2
    have hgg : (w3.alloc (.cells #[.int .i64 1000000, .int .i64 1000001, .int .i64 (-1)] 2)).heap[w3.heap.size]? = some (.cells #[.int .i64 1000000, .int .i64 1000001, .int .i64 (-1)] 2) := blk_alloc_new _ _
    have hne : w3.heap.size ≠ sb := by have := L3.out.2.1.2.size; have := L3.out.2.2; omega
    go_wp2_with fail
    refine (n_any sb 3 _ (L3.out.alloc _).2.1.1 (by omega)).mono ?_
    rintro e w4 ⟨⟨y, rfl, y0, y1, _⟩, hD⟩
    have y2 := y1 (by omega)
    obtain ⟨x, hx⟩ := four (z := y) (n := 3) #[.int .i64 1000000, .int .i64 1000001, .int .i64 (-1)] 2 (fun j hj => by
      have hv : j = 0 ∨ j = 1 ∨ j = 2 := by simp at hj; omega
      rcases hv with rfl | rfl | rfl <;> exact ⟨_, rfl⟩) hgg rfl hD hne y0 (by omega)
    have L4 := Lib.hid ((L3.out.alloc (.cells #[.int .i64 1000000, .int .i64 1000001, .int .i64 (-1)] 2)).draw hD)
    clear hD L3 y1 hgg hne
    obtain ⟨Z, rfl⟩ : ∃ Z : Nat, z = (Z : Int) := ⟨z.toNat, by omega⟩
    have hZ : Z < zs.length := by omega
    have L5 := Lib.hid (L4.out.set (i := Z) (x := x))
    obtain ⟨g', cap', e', _, hblk⟩ := il_form L4.out (by omega)
    cases e'
    have c0 := hblk.cell hZ
    have f0 := hblk.frozen Z
    have zg := hblk.lt
    have hZz : (Z : Int) < (zs.length : Int) := by omega
    clear L4 hblk
    go_upto_region 4 with fail
    clear hx c0 f0 zg
    obtain ⟨ys, hys⟩ : ∃ ys : List Int, ys = zs.set Z x := ⟨_, rfl⟩
    have HY : Hid (ys.length = zs.length) := Lib.hid (by rw [hys]; simp)
    rw [← hys] at L5
    clear hys
    generalize w4.setCell ⟨g, Z, none⟩ (.int .i64 x) = W5 at *
    go_wp2_with fail
    refine (one_any sb 30 _ L5.out.2.1.1 (by omega)).mono ?_
    rintro e w6 ⟨⟨b2, rfl⟩, hD⟩
    have L6 := Lib.hid (L5.out.draw hD)
    clear hD L5
    cases b2
    · go_wp2_with fail
      go_ret
      exact ⟨_, rfl, ys, by have := HY.out; omega, by have := HY.out; omega, L6.out⟩
    · have zw := L6.out.2.1.2.size
      go_wp2_with (at_builtin; refine wpList_append_own _ rfl _ _ 27 rfl w.heap.size 2 i0 (.int .i64 0) 1 8 Tryd.underlying27 hi0 hz0 hz1 hz2 rfl (by decide) _ _ _ rfl (L6.out.1.alloc _) ⟨w6.heap.size, 0, none⟩ 1 1 [.int .i64 1] rfl rfl ?d1 ?d2 ?d3 ?d4 ?d5 ?_)
      try (case d1 => (intro j u hj; match j, hj with
        | 0, hj => (simp at hj; subst hj; simp [Addr.add])))
      try (case d2 => first | rfl | (intro u hu; simp at hu; subst hu; rfl))
      try (case d3 => (have := HY.out; unfold maxLen; omega))
      try (case d4 => (have := HY.out; omega))
      try (case d5 => first | omega | (simp; omega))
      intro v' w7 hown hgrow hnil
      have L7 : Hid (IL w sb v' (ys ++ [1]) w7) := L6.out.push hgrow hown
      clear hown hgrow hnil L6
      go_wp2_with fail
      go_ret
      exact ⟨_, rfl, ys ++ [1], by simp, by have := HY.out; simp; omega, L7.out⟩

/-- A river and a rain that were drawn: blocks of their own. -/
def Drawn (B n m gl gr : Nat) (rs : Nat → Rv.Rc) (f : Nat → Int) (W : World) : Prop := (1 ≤ n ∧ n ≤ 100) ∧ (1 ≤ m ∧ m ≤ 101) ∧ (B ≤ gl ∧ B ≤ gr) ∧ RcBlk gl n rs W ∧ InBlk gr m f W
theorem Drawn.below {B n m gl gr : Nat} {rs : Nat → Rv.Rc} {f : Nat → Int} {W W' : World} (h : Drawn B n m gl gr rs f W) (hb : Below W.heap.size W W') : Drawn B n m gl gr rs f W' := ⟨h.1, h.2.1, h.2.2.1, h.2.2.2.1.block (hb.block _ h.2.2.2.1.lt), h.2.2.2.2.block (hb.block _ h.2.2.2.2.lt)⟩

end Go.Proofs.YtaebmfengmmpjaaDoor
