/-
  The contracts of the draws of a rain and of a step.
-/
import Derived.Test.YtdpghhmcibiplaaDoorRvDr2
namespace Go.Proofs.YtdpghhmcibiplaaDoor
open Go.RowKit Go.Deep

theorem il_form {w : World} {sb : Nat} {v : Value} {zs : List Int} {W : World} (h : IL w sb v zs W) (hn : 1 ≤ zs.length) : ∃ g cap, v = .slice (some ⟨g, 0, none⟩) zs.length cap ∧ w.heap.size ≤ g ∧ InBlk g zs.length (inList zs) W := by
  rcases own_ints h.1 with ⟨_, e⟩ | ⟨g, cap, e1, e2, e3⟩
  · rw [e] at hn; simp at hn
  · exact ⟨g, cap, e1, e2, e3⟩

set_option maxRecDepth 100000 in
set_option maxHeartbeats 4000000 in
theorem rain_any (sb N : Nat) (hN1 : 1 ≤ N) (hN : N ≤ 100) (w : World) (h : Src sb w) :
    Calls Tryd.prog 67 #[.pointer (some ⟨sb, 0, none⟩), .int .i64 N] w fun e w' => ∃ v, e = .returned v ∧ ∃ zs : List Int, 1 ≤ zs.length ∧ zs.length ≤ 101 ∧ IL w sb v zs w' := by
  have H : Hid (Src sb w) := h
  obtain ⟨i0, hi0, hz0, hz1, hz2⟩ := info_parts info_i64
  have hNz : 0 < (N : Int) := by omega
  clear h
  go_enter Tryd.func67, Tryd.ntmps67
  go_wp2_with fail
  refine (list_any sb N (by omega) _ H.out).mono ?_
  rintro e w1 ⟨v, rfl, zs, hzl, hL⟩
  subst hzl
  obtain ⟨g, cap, rfl, hg, _⟩ := il_form hL (by omega)
  have L1 := Lib.hid hL
  clear hL
  go_wp2_with fail
  refine (one_any sb 20 _ L1.out.2.1.1 (by omega)).mono ?_
  rintro e w2 ⟨⟨b1, rfl⟩, hD⟩
  have L2 := Lib.hid (L1.out.draw hD)
  clear hD L1
  have key : ∀ (P : Prop) (ys : List Int) (W : World), True := fun _ _ _ => trivial
  clear key
  cases b1
  · go_wp2_with fail
    refine (one_any sb 30 _ L2.out.2.1.1 (by omega)).mono ?_
    rintro e w3 ⟨⟨b2, rfl⟩, hD⟩
    have L3 := Lib.hid (L2.out.draw hD)
    clear hD L2
    cases b2
    · go_wp2_with fail
      go_ret
      exact ⟨_, rfl, zs, by omega, by omega, L3.out⟩
    · have zw := L3.out.2.1.2.size
      go_wp2_with (at_builtin; refine wpList_append_own _ rfl _ _ 23 rfl w.heap.size 2 i0 (.int .i64 0) 1 8 Tryd.underlying23 hi0 hz0 hz1 hz2 rfl (by decide) _ _ _ rfl (L3.out.1.alloc _) ⟨w3.heap.size, 0, none⟩ 1 1 [.int .i64 1] rfl rfl ?c1 ?c2 ?c3 ?c4 ?c5 ?_)
      try (case c1 => (intro j u hj; match j, hj with
        | 0, hj => (simp at hj; subst hj; simp [Addr.add])))
      try (case c2 => first | rfl | (intro u hu; simp at hu; subst hu; rfl))
      try (case c3 => (unfold maxLen; omega))
      try (case c4 => omega)
      try (case c5 => first | omega | (simp; omega))
      intro v' w4 hown hgrow hnil
      have L4 : Hid (IL w sb v' (zs ++ [1]) w4) := L3.out.push hgrow hown
      clear hown hgrow hnil L3
      go_wp2_with fail
      go_ret
      exact ⟨_, rfl, zs ++ [1], by simp, by simp; omega, L4.out⟩
  · go_wp2_with fail
    refine (n_any sb (zs.length : Int) _ L2.out.2.1.1 (by omega)).mono ?_
    rintro e w3 ⟨⟨z, rfl, z0, z1, z2⟩, hD⟩
    have z3 : z < (zs.length : Int) := by
      by_cases k : 1 < (zs.length : Int)
      · exact z1 k
      · have := z2 (by omega); omega
    have L3 := Lib.hid (L2.out.draw hD)
    clear hD L2 z1 z2
    have hgg : (w3.alloc (.cells #[.int .i64 1000000, .int .i64 1000001, .int .i64 (-1)] 2)).heap[w3.heap.size]? = some (.cells #[.int .i64 1000000, .int .i64 1000001, .int .i64 (-1)] 2) := blk_alloc_new _ _
    have hne : w3.heap.size ≠ sb := by have := L3.out.2.1.2.size; have := L3.out.2.2; omega
    go_wp2_with fail
    refine (n_any sb 3 _ (L3.out.alloc _).2.1.1 (by omega)).mono ?_
    rintro e w4 ⟨⟨y, rfl, y0, y1, _⟩, hD⟩
    have y2 := y1 (by omega)
    obtain ⟨x, hx⟩ := four (z := y) (n := 3) #[.int .i64 1000000, .int .i64 1000001, .int .i64 (-1)] 2 (fun j hj => by
      have hv : j = 0 ∨ j = 1 ∨ j = 2 := by simp at hj; omega
      rcases hv with rfl | rfl | rfl <;> exact ⟨_, rfl⟩) hgg rfl hD hne y0 (by omega)
    have L4 := Lib.hid ((L3.out.alloc (.cells #[.int .i64 1000000, .int .i64 1000001, .int .i64 (-1)] 2)).draw hD)
    clear hD L3 y1 hgg hne
    obtain ⟨Z, rfl⟩ : ∃ Z : Nat, z = (Z : Int) := ⟨z.toNat, by omega⟩
    have hZ : Z < zs.length := by omega
    have L5 := Lib.hid (L4.out.set (i := Z) (x := x))
    obtain ⟨g', cap', e', _, hblk⟩ := il_form L4.out (by omega)
    cases e'
    have c0 := hblk.cell hZ
    have f0 := hblk.frozen Z
    have zg := hblk.lt
    have hZz : (Z : Int) < (zs.length : Int) := by omega
    clear L4 hblk
    go_upto_region 4 with fail
    clear hx c0 f0 zg
    obtain ⟨ys, hys⟩ : ∃ ys : List Int, ys = zs.set Z x := ⟨_, rfl⟩
    have HY : Hid (ys.length = zs.length) := Lib.hid (by rw [hys]; simp)
    rw [← hys] at L5
    clear hys
    generalize w4.setCell ⟨g, Z, none⟩ (.int .i64 x) = W5 at *
    go_wp2_with fail
    refine (one_any sb 30 _ L5.out.2.1.1 (by omega)).mono ?_
    rintro e w6 ⟨⟨b2, rfl⟩, hD⟩
    have L6 := Lib.hid (L5.out.draw hD)
    clear hD L5
    cases b2
    · go_wp2_with fail
      go_ret
      exact ⟨_, rfl, ys, by have := HY.out; omega, by have := HY.out; omega, L6.out⟩
    · have zw := L6.out.2.1.2.size
      go_wp2_with (at_builtin; refine wpList_append_own _ rfl _ _ 23 rfl w.heap.size 2 i0 (.int .i64 0) 1 8 Tryd.underlying23 hi0 hz0 hz1 hz2 rfl (by decide) _ _ _ rfl (L6.out.1.alloc _) ⟨w6.heap.size, 0, none⟩ 1 1 [.int .i64 1] rfl rfl ?d1 ?d2 ?d3 ?d4 ?d5 ?_)
      try (case d1 => (intro j u hj; match j, hj with
        | 0, hj => (simp at hj; subst hj; simp [Addr.add])))
      try (case d2 => first | rfl | (intro u hu; simp at hu; subst hu; rfl))
      try (case d3 => (have := HY.out; unfold maxLen; omega))
      try (case d4 => (have := HY.out; omega))
      try (case d5 => first | omega | (simp; omega))
      intro v' w7 hown hgrow hnil
      have L7 : Hid (IL w sb v' (ys ++ [1]) w7) := L6.out.push hgrow hown
      clear hown hgrow hnil L6
      go_wp2_with fail
      go_ret
      exact ⟨_, rfl, ys ++ [1], by simp, by have := HY.out; simp; omega, L7.out⟩

/-- A river and a rain that were drawn: blocks of their own. -/
def Drawn (B n m gl gr : Nat) (rs : Nat → Rv.Rc) (f : Nat → Int) (W : World) : Prop := (1 ≤ n ∧ n ≤ 100) ∧ (1 ≤ m ∧ m ≤ 101) ∧ (B ≤ gl ∧ B ≤ gr) ∧ RcBlk gl n rs W ∧ InBlk gr m f W
theorem Drawn.below {B n m gl gr : Nat} {rs : Nat → Rv.Rc} {f : Nat → Int} {W W' : World} (h : Drawn B n m gl gr rs f W) (hb : Below W.heap.size W W') : Drawn B n m gl gr rs f W' := ⟨h.1, h.2.1, h.2.2.1, h.2.2.2.1.block (hb.block _ h.2.2.2.1.lt), h.2.2.2.2.block (hb.block _ h.2.2.2.2.lt)⟩

set_option maxRecDepth 100000 in
set_option maxHeartbeats 4000000 in
theorem drawStep_any (a : Option Addr) (len cap : Nat) (w : World) (h : Bytes a len w) (hl : len ≤ 4194304) :
    Calls Tryd.prog 27 #[.slice a len cap] w fun e w' => (∃ n m gl gr cl cr rs f, e = .returned (.tuple #[.slice (some ⟨gl, 0, none⟩) n cl, .slice (some ⟨gr, 0, none⟩) m cr]) ∧ Drawn w.heap.size n m gl gr rs f w') ∧ Below w.heap.size w w' := by
  have H := Lib.hid h
  clear h
  go_enter Tryd.func27, Tryd.ntmps27
  go_wp2_with fail
  refine (source_any a len cap _ H.out hl).mono ?_
  rintro e w1 ⟨rfl, hS, hb⟩
  have S1 := Lib.hid hS
  have B1 := Lib.hid hb
  clear hS hb
  go_wp2_with fail
  refine (river_any w.heap.size _ S1.out).mono ?_
  rintro e w2 ⟨v, rfl, zs, hz1, hz2, hR⟩
  obtain ⟨gl, cl, rfl, hgl, hblk⟩ : ∃ g cap, v = .slice (some ⟨g, 0, none⟩) zs.length cap ∧ w1.heap.size ≤ g ∧ RcBlk g zs.length (rcList zs) w2 := by
    rcases own_rcs hR.1 with ⟨_, e⟩ | ⟨g, cap, e1, e2, e3⟩
    · rw [e] at hz1; simp at hz1
    · exact ⟨g, cap, e1, e2, e3⟩
  have S2 := Lib.hid hR.2.1.1
  have zz : w.heap.size < w1.heap.size := hR.2.2
  have B2 : Hid (Below w.heap.size w w2) := B1.out.trans (hR.2.1.2.below (Nat.le_refl _) (Nat.le_of_lt zz))
  have K2 := Lib.hid hblk
  clear hR hblk S1 B1
  generalize zs.length = n at *
  generalize rcList zs = rs at *
  go_wp2_with fail
  refine (rain_any w.heap.size n hz1 hz2 _ S2.out).mono ?_
  rintro e w3 ⟨v, rfl, ys, hy1, hy2, hI⟩
  obtain ⟨gr, cr, rfl, hgr, hblk⟩ := il_form hI hy1
  have z2 := B2.out.size
  have zl := K2.out.lt
  have B3 : Hid (Below w.heap.size w w3) := B2.out.trans (hI.2.1.2.below (Nat.le_refl _) z2)
  have K3 : Hid (RcBlk gl n rs w3) := K2.out.block (hI.2.1.2.2.2.2.2 gl zl (by omega))
  have J3 := Lib.hid hblk
  clear hI hblk B2 K2 S2
  generalize ys.length = m at *
  generalize inList ys = f at *
  have HD : Hid (Drawn w.heap.size n m gl gr rs f w3) := ⟨⟨hz1, hz2⟩, ⟨hy1, hy2⟩, ⟨by omega, by omega⟩, K3.out, J3.out⟩
  clear K3 J3
  go_wp2_with fail
  exact bodyPost_ret (v := .tuple #[.slice (some ⟨gl, 0, none⟩) n cl, .slice (some ⟨gr, 0, none⟩) m cr]) (by simp [results, Tryd.results27, go_sem]) rfl ⟨⟨n, m, gl, gr, cl, cr, rs, f, rfl, HD.out⟩, B3.out⟩
end Go.Proofs.YtdpghhmcibiplaaDoor
