/-
  The contracts of the draws of numbers between, and of lists of them.
-/
import Derived.Test.YtokbhkcpkilcmaaDoorSource
import Derived.Test.YtokbhkcpkilcmaaDoorSwOwn
namespace Go.Proofs.YtokbhkcpkilcmaaDoor
open Go.RowKit Go.Deep

theorem Src.keep {sb : Nat} {w w' : World} (h : Src sb w) (hb : ∀ k, k ≤ sb → w'.heap[k]? = w.heap[k]?) : Src sb w' := by
  obtain ⟨a, len, cap, at_, mix, size, ⟨c0, c1, c2, c3, f0, f1, f2, f3⟩, h1, h2, h3, h4, h5, h6⟩ := h
  have ce : ∀ o, w'.cell? ⟨sb, o, none⟩ = w.cell? ⟨sb, o, none⟩ := fun o => World.cell?_of_block (hb sb (Nat.le_refl _))
  have fe : ∀ o, w'.frozen? ⟨sb, o, none⟩ = w.frozen? ⟨sb, o, none⟩ := fun o => World.frozen?_of_block (hb sb (Nat.le_refl _))
  refine ⟨a, len, cap, at_, mix, size, ⟨(ce 0).trans c0, (ce 1).trans c1, (ce 2).trans c2, (ce 3).trans c3, (fe 0).trans f0, (fe 1).trans f1, (fe 2).trans f2, (fe 3).trans f3⟩, h1, h2, h3, h4, h5, fun i hi => ?_⟩
  obtain ⟨cb, co, z, e, hne, hc, z0, z1⟩ := h6 i hi
  exact ⟨cb, co, z, e, hne, (World.cell?_of_block (a := ⟨cb, co + i, none⟩) (hb cb (by omega))).trans hc, z0, z1⟩

set_option maxHeartbeats 1000000 in
theorem between_any (sb : Nat) (K : Int) (hK0 : 0 ≤ K) (hK : K ≤ 1000) (w : World) (h : Src sb w) :
    Calls Tryd.prog 60 #[.pointer (some ⟨sb, 0, none⟩), .int .i64 0, .int .i64 K] w fun e w' => (∃ v, e = .returned (.int .i64 v)) ∧ Drew sb w w' := by
  have H : Hid (Src sb w) := h
  clear h
  go_enter Tryd.func60, Tryd.ntmps60
  go_wp2_with fail
  refine (n_any sb _ _ H.out (by omega)).mono ?_
  rintro e w' ⟨⟨v, rfl, v0, v1, _⟩, hD⟩
  have HD : Hid (Drew sb w w') := hD
  clear hD
  have v2 : v ≤ K := by
    by_cases k : 1 < K - 0 + 1
    · have := v1 (by omega); omega
    · omega
  clear v1
  go_wp2_with fail
  go_ret
  exact ⟨⟨_, rfl⟩, HD.out⟩

/-- What the drawing of a list keeps: the list so far, the source, the old memory. -/
def IL (w : World) (sb : Nat) (v : Value) (zs : List Int) (W : World) : Prop := W.ownsRow w.heap.size 2 1 v zs.length (zs.map (Value.int .i64)) ∧ Drew sb w W ∧ sb < w.heap.size
theorem IL.draw {w : World} {sb : Nat} {v : Value} {zs : List Int} {W W' : World} (h : IL w sb v zs W) (hd : Drew sb W W') : IL w sb v zs W' :=
  ⟨own_far h.1 (fun k hk hl => hd.2.2.2.2.2 k hl (by have := (h.1.lt k hk).1; have := h.2.2; omega)), ⟨hd.1, h.2.1.2.trans hd.2⟩, h.2.2⟩
theorem IL.push {w : World} {sb : Nat} {v v' : Value} {zs : List Int} {x : Int} {W W' : World} {o : Obj} (h : IL w sb v zs W) (hg : (W.alloc o).grownBy W' v.ownBlock)
    (hown : W'.ownsRow w.heap.size 2 1 v' (zs.length + 1) (zs.map (Value.int .i64) ++ [.int .i64 x])) : IL w sb v' (zs ++ [x]) W' := by
  have hz := h.2.1.2.size
  have hrow : ∀ k, v.ownBlock = some k → w.heap.size ≤ k := fun k e => (h.1.lt k e).1
  have hk : ∀ k, k < w.heap.size → W'.heap[k]? = W.heap[k]? := fun k hk => by
    rw [hg.block k (by simp; omega) (fun e => by have := hrow k e.symm; omega)]
    exact blk_alloc_lt _ _ _ (by omega)
  refine ⟨by simpa using hown, ⟨h.2.1.1.keep (fun k hk2 => hk k (by have := h.2.2; omega)), ?_⟩, h.2.2⟩
  exact ⟨hg.os.trans h.2.1.2.1, hg.tape.trans h.2.1.2.2.1, hg.output.trans h.2.1.2.2.2.1, by have := hg.size; simp at this; omega, fun k hk1 hk2 => (hk k hk1).trans (h.2.1.2.2.2.2.2 k hk1 hk2)⟩
theorem il_start {w : World} {sb : Nat} (h : Src sb w) : IL w sb (.slice (some ⟨w.heap.size, 0, none⟩) 0 0) [] (w.alloc (.cells #[] 2)) :=
  ⟨World.ownsRow_made w #[] 0 (Nat.le_refl _) (Nat.zero_le _) rfl, ⟨h.below ((Below.refl _ _).alloc (Nat.le_refl _) _), Chg.of_below ((Below.refl _ _).alloc (Nat.le_refl _) _)⟩, h.lt⟩

set_option maxRecDepth 100000 in
set_option maxHeartbeats 2000000 in
theorem list_any (sb N : Nat) (hN : N ≤ 1000) (K : Int) (hK0 : 0 ≤ K) (hK : K ≤ 1000) (w : World) (h : Src sb w) :
    Calls Tryd.prog 48 #[.pointer (some ⟨sb, 0, none⟩), .int .i64 N, .int .i64 0, .int .i64 K] w fun e w' => ∃ v, e = .returned v ∧ ∃ zs : List Int, zs.length = N ∧ IL w sb v zs w' := by
  have H : Hid (Src sb w) := h
  have hlt := h.lt
  clear h
  obtain ⟨i0, hi, hz0, hz1, hz2⟩ := info_parts info_i64
  go_enter Tryd.func48, Tryd.ntmps48
  go_wp2_with fail
  go_loopw [1, 9] (fun nv ov wr => ∃ (m : Nat) (zs : List Int), nv = .int .i64 m ∧ m ≤ 1000 ∧ Hid (m + zs.length = N) ∧ Hid (IL w sb ov zs wr)) (fun nv _ _ => (intOf nv).toNat)
  case atStart => exact ⟨N, [], rfl, hN, by show _ = _; simp, il_start H.out⟩
  case round =>
    obtain ⟨m, zs, rfl, m1, hm, hF⟩ := hrel
    obtain ⟨av, cv, rfl⟩ := own_shape hF.out.1
    by_cases hlt2 : 0 < m
    · have hltz : 0 < (m : Int) := by omega
      go_wp2_with fail
      refine (between_any sb K hK0 hK _ hF.out.2.1.1).mono ?_
      rintro e w1 ⟨⟨x, rfl⟩, hD⟩
      have HF1 : Hid (IL w sb _ zs w1) := hF.out.draw hD
      clear hD hF
      go_wp2_with (at_builtin; refine wpList_append_own _ rfl _ _ 23 rfl w.heap.size 2 i0 (.int .i64 0) 1 8 Tryd.underlying23 hi hz0 hz1 hz2 rfl (by decide) _ _ _ rfl (HF1.out.1.alloc _) ⟨w1.heap.size, 0, none⟩ 1 1 [.int .i64 x] rfl rfl ?c1 ?c2 ?c3 ?c4 ?c5 ?_)
      try (case c1 => (intro j u hj; match j, hj with
        | 0, hj => (simp at hj; subst hj; simp [Addr.add])))
      try (case c2 => first | rfl | (intro u hu; simp at hu; subst hu; rfl))
      try (case c3 => (have := hm.out; unfold maxLen; omega))
      try (case c4 => (have := hm.out; omega))
      try (case c5 => (have := HF1.out.2.1.2.size; first | omega | (simp; omega)))
      intro v' w2 hown hgrow hnil
      have HF2 : Hid (IL w sb v' (zs ++ [x]) w2) := HF1.out.push hgrow hown
      clear hown hgrow hnil HF1
      go_wp2_with fail
      go_roundw
      case rel => exact ⟨m - 1, zs ++ [x], by go_num, by omega, by show _ = _; have := hm.out; simp; omega, HF2⟩
      case measure => simp [intOf]; omega
    · obtain rfl : m = 0 := by omega
      go_wp2_with fail
      go_ret
      exact ⟨_, rfl, zs, by have := hm.out; omega, hF.out⟩

/-- One number of an owned list is another one. -/
theorem own_set {B g cap i : Nat} {zs : List Int} {x : Int} {W : World} (h : W.ownsRow B 2 1 (.slice (some ⟨g, 0, none⟩) zs.length cap) zs.length (zs.map (Value.int .i64))) :
    (W.setCell ⟨g, i, none⟩ (.int .i64 x)).ownsRow B 2 1 (.slice (some ⟨g, 0, none⟩) zs.length cap) (zs.set i x).length ((zs.set i x).map (Value.int .i64)) := by
  obtain ⟨h1, h2⟩ := h
  refine ⟨by simp, ?_⟩
  rcases h2 with ⟨h2, _⟩ | ⟨g', cap', cur, e1, e2, e3, e4, e5, e6, e7⟩
  · cases h2
  · cases e1
    refine Or.inr ⟨g, cap, cur.setIfInBounds i (.int .i64 x), by simp, e2, ?_, by simpa using e4, e5, by simpa using e6, ?_⟩
    · simp [World.setCell, Array.getElem?_modify, e3]
    · rw [Array.toList_setIfInBounds, List.length_set, List.take_set, e7, List.map_set]

theorem IL.set {w : World} {sb g cap i : Nat} {zs : List Int} {x : Int} {W : World} (h : IL w sb (.slice (some ⟨g, 0, none⟩) zs.length cap) zs W) : IL w sb (.slice (some ⟨g, 0, none⟩) zs.length cap) (zs.set i x) (W.setCell ⟨g, i, none⟩ (.int .i64 x)) := by
  have hg : w.heap.size ≤ g := (h.1.lt g rfl).1
  refine ⟨own_set h.1, ⟨h.2.1.1.keep (fun k hk => blk_setCell_other _ _ _ _ (by show k ≠ g; have := h.2.2; omega)), ?_⟩, h.2.2⟩
  exact ⟨h.2.1.2.1, h.2.1.2.2.1, h.2.1.2.2.2.1, by have := h.2.1.2.size; simpa using this, fun k hk1 hk2 => (blk_setCell_other _ _ _ _ (by show k ≠ g; omega)).trans (h.2.1.2.2.2.2.2 k hk1 hk2)⟩
theorem IL.alloc {w : World} {sb : Nat} {v : Value} {zs : List Int} {W : World} (h : IL w sb v zs W) (o : Obj) : IL w sb v zs (W.alloc o) := by
  have hb : Below W.heap.size W (W.alloc o) := (Below.refl _ _).alloc (Nat.le_refl _) _
  exact ⟨h.1.alloc _, ⟨h.2.1.1.below hb, h.2.1.2.trans (Chg.of_below hb)⟩, h.2.2⟩
/-- One of four numbers. -/
theorem four {W W' : World} {sb g : Nat} {z : Int} {n : Nat} (c : Array Value) (T : TypeId) (hc : ∀ i, i < c.size → ∃ x : Int, c[i]? = some (.int .i64 x)) (hg : W.heap[g]? = some (.cells c T)) (hs : c.size = n) (hd : Drew sb W W') (hne : g ≠ sb) (z0 : 0 ≤ z) (z1 : z < n) : ∃ x : Int, W'.cell? ⟨g, z.toNat, none⟩ = some (.int .i64 x) := by
  have hlt : g < W.heap.size := (Array.getElem?_eq_some_iff.1 hg).1
  obtain ⟨x, hx⟩ := hc z.toNat (by omega)
  refine ⟨x, ?_⟩
  rw [hd.2.cell (p := ⟨g, z.toNat, none⟩) hlt hne]
  simp [World.cell?, hg, hx]

theorem il_form {w : World} {sb : Nat} {v : Value} {zs : List Int} {W : World} (h : IL w sb v zs W) (hn : 1 ≤ zs.length) : ∃ g cap, v = .slice (some ⟨g, 0, none⟩) zs.length cap ∧ w.heap.size ≤ g ∧ InBlk g zs.length (inList zs) W := by
  rcases own_ints h.1 with ⟨_, e⟩ | ⟨g, cap, e1, e2, e3⟩
  · rw [e] at hn; simp at hn
  · exact ⟨g, cap, e1, e2, e3⟩

set_option maxRecDepth 100000 in
set_option maxHeartbeats 4000000 in
theorem rain_any (sb N : Nat) (hN1 : 1 ≤ N) (hN : N ≤ 100) (w : World) (h : Src sb w) :
    Calls Tryd.prog 49 #[.pointer (some ⟨sb, 0, none⟩), .int .i64 N] w fun e w' => ∃ v, e = .returned v ∧ ∃ zs : List Int, 1 ≤ zs.length ∧ zs.length ≤ 101 ∧ IL w sb v zs w' := by
  have H : Hid (Src sb w) := h
  obtain ⟨i0, hi0, hz0, hz1, hz2⟩ := info_parts info_i64
  have hNz : 0 < (N : Int) := by omega
  clear h
  go_enter Tryd.func49, Tryd.ntmps49
  go_wp2_with fail
  refine (list_any sb N (by omega) 400 (by omega) (by omega) _ H.out).mono ?_
  rintro e w1 ⟨v, rfl, zs, hzl, hL⟩
  subst hzl
  obtain ⟨g, cap, rfl, hg, _⟩ := il_form hL (by omega)
  have L1 := Lib.hid hL
  clear hL
  go_wp2_with fail
  refine (one_any sb 20 _ L1.out.2.1.1 (by omega)).mono ?_
  rintro e w2 ⟨⟨b1, rfl⟩, hD⟩
  have L2 := Lib.hid (L1.out.draw hD)
  clear hD L1
  have key : ∀ (P : Prop) (ys : List Int) (W : World), True := fun _ _ _ => trivial
  clear key
  cases b1
  · go_wp2_with fail
    refine (one_any sb 30 _ L2.out.2.1.1 (by omega)).mono ?_
    rintro e w3 ⟨⟨b2, rfl⟩, hD⟩
    have L3 := Lib.hid (L2.out.draw hD)
    clear hD L2
    cases b2
    · go_wp2_with fail
      go_ret
      exact ⟨_, rfl, zs, by omega, by omega, L3.out⟩
    · have zw := L3.out.2.1.2.size
      go_wp2_with (at_builtin; refine wpList_append_own _ rfl _ _ 23 rfl w.heap.size 2 i0 (.int .i64 0) 1 8 Tryd.underlying23 hi0 hz0 hz1 hz2 rfl (by decide) _ _ _ rfl (L3.out.1.alloc _) ⟨w3.heap.size, 0, none⟩ 1 1 [.int .i64 1] rfl rfl ?c1 ?c2 ?c3 ?c4 ?c5 ?_)
      try (case c1 => (intro j u hj; match j, hj with
        | 0, hj => (simp at hj; subst hj; simp [Addr.add])))
      try (case c2 => first | rfl | (intro u hu; simp at hu; subst hu; rfl))
      try (case c3 => (unfold maxLen; omega))
      try (case c4 => omega)
      try (case c5 => first | omega | (simp; omega))
      intro v' w4 hown hgrow hnil
      have L4 : Hid (IL w sb v' (zs ++ [1]) w4) := L3.out.push hgrow hown
      clear hown hgrow hnil L3
      go_wp2_with fail
      go_ret
      exact ⟨_, rfl, zs ++ [1], by simp, by simp; omega, L4.out⟩
  · go_wp2_with fail
    refine (n_any sb (zs.length : Int) _ L2.out.2.1.1 (by omega)).mono ?_
    rintro e w3 ⟨⟨z, rfl, z0, z1, z2⟩, hD⟩
    have z3 : z < (zs.length : Int) := by
      by_cases k : 1 < (zs.length : Int)
      · exact z1 k
      · have := z2 (by omega); omega
    have L3 := Lib.hid (L2.out.draw hD)
    clear hD L2 z1 z2
    have hgg : (w3.alloc (.cells #[.int .i64 1000000, .int .i64 1000001, .int .i64 (-1)] 2)).heap[w3.heap.size]? = some (.cells #[.int .i64 1000000, .int .i64 1000001, .int .i64 (-1)] 2) := blk_alloc_new _ _
    have hne : w3.heap.size ≠ sb := by have := L3.out.2.1.2.size; have := L3.out.2.2; omega
    go_wp2_with fail
    refine (n_any sb 3 _ (L3.out.alloc _).2.1.1 (by omega)).mono ?_
    rintro e w4 ⟨⟨y, rfl, y0, y1, _⟩, hD⟩
    have y2 := y1 (by omega)
    obtain ⟨x, hx⟩ := four (z := y) (n := 3) #[.int .i64 1000000, .int .i64 1000001, .int .i64 (-1)] 2 (fun j hj => by
      have hv : j = 0 ∨ j = 1 ∨ j = 2 := by simp at hj; omega
      rcases hv with rfl | rfl | rfl <;> exact ⟨_, rfl⟩) hgg rfl hD hne y0 (by omega)
    have L4 := Lib.hid ((L3.out.alloc (.cells #[.int .i64 1000000, .int .i64 1000001, .int .i64 (-1)] 2)).draw hD)
    clear hD L3 y1 hgg hne
    obtain ⟨Z, rfl⟩ : ∃ Z : Nat, z = (Z : Int) := ⟨z.toNat, by omega⟩
    have hZ : Z < zs.length := by omega
    have L5 := Lib.hid (L4.out.set (i := Z) (x := x))
    obtain ⟨g', cap', e', _, hblk⟩ := il_form L4.out (by omega)
    cases e'
    have c0 := hblk.cell hZ
    have f0 := hblk.frozen Z
    have zg := hblk.lt
    have hZz : (Z : Int) < (zs.length : Int) := by omega
    clear L4 hblk
    go_upto_region 4 with fail
    clear hx c0 f0 zg
    obtain ⟨ys, hys⟩ : ∃ ys : List Int, ys = zs.set Z x := ⟨_, rfl⟩
    have HY : Hid (ys.length = zs.length) := Lib.hid (by rw [hys]; simp)
    rw [← hys] at L5
    clear hys
    generalize w4.setCell ⟨g, Z, none⟩ (.int .i64 x) = W5 at *
    go_wp2_with fail
    refine (one_any sb 30 _ L5.out.2.1.1 (by omega)).mono ?_
    rintro e w6 ⟨⟨b2, rfl⟩, hD⟩
    have L6 := Lib.hid (L5.out.draw hD)
    clear hD L5
    cases b2
    · go_wp2_with fail
      go_ret
      exact ⟨_, rfl, ys, by have := HY.out; omega, by have := HY.out; omega, L6.out⟩
    · have zw := L6.out.2.1.2.size
      go_wp2_with (at_builtin; refine wpList_append_own _ rfl _ _ 23 rfl w.heap.size 2 i0 (.int .i64 0) 1 8 Tryd.underlying23 hi0 hz0 hz1 hz2 rfl (by decide) _ _ _ rfl (L6.out.1.alloc _) ⟨w6.heap.size, 0, none⟩ 1 1 [.int .i64 1] rfl rfl ?d1 ?d2 ?d3 ?d4 ?d5 ?_)
      try (case d1 => (intro j u hj; match j, hj with
        | 0, hj => (simp at hj; subst hj; simp [Addr.add])))
      try (case d2 => first | rfl | (intro u hu; simp at hu; subst hu; rfl))
      try (case d3 => (have := HY.out; unfold maxLen; omega))
      try (case d4 => (have := HY.out; omega))
      try (case d5 => first | omega | (simp; omega))
      intro v' w7 hown hgrow hnil
      have L7 : Hid (IL w sb v' (ys ++ [1]) w7) := L6.out.push hgrow hown
      clear hown hgrow hnil L6
      go_wp2_with fail
      go_ret
      exact ⟨_, rfl, ys ++ [1], by simp, by have := HY.out; simp; omega, L7.out⟩

/-- A river and a rain that were drawn: blocks of their own. -/
def Drawn (B n m gl gr : Nat) (rs : Nat → Sw.Rc) (f : Nat → Int) (W : World) : Prop := (1 ≤ n ∧ n ≤ 100) ∧ (1 ≤ m ∧ m ≤ 101) ∧ (B ≤ gl ∧ B ≤ gr) ∧ RcBlk gl n rs W ∧ InBlk gr m f W
theorem Drawn.below {B n m gl gr : Nat} {rs : Nat → Sw.Rc} {f : Nat → Int} {W W' : World} (h : Drawn B n m gl gr rs f W) (hb : Below W.heap.size W W') : Drawn B n m gl gr rs f W' := ⟨h.1, h.2.1, h.2.2.1, h.2.2.2.1.block (hb.block _ h.2.2.2.1.lt), h.2.2.2.2.block (hb.block _ h.2.2.2.2.lt)⟩
end Go.Proofs.YtokbhkcpkilcmaaDoor
