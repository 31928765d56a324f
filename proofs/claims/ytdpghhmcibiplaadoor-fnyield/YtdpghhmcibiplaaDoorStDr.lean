/-
  The contracts of the draws of flows: a number, a list of them.
-/
import Derived.Test.YtdpghhmcibiplaaDoorStMem
import Derived.Test.YtdpghhmcibiplaaDoorSource
namespace Go.Proofs.YtdpghhmcibiplaaDoor
open Go.RowKit Go.Deep

theorem ownFar {w w' : World} {B : Nat} {e : TypeId} {s : Nat} {v : Value} {n : Nat} {xs : List Value} (h : w.ownsRow B e s v n xs) (hb : ∀ k, v.ownBlock = some k → k < w.heap.size → w'.heap[k]? = w.heap[k]?) : w'.ownsRow B e s v n xs := by
  refine ⟨h.1, ?_⟩
  rcases h.2 with h2 | ⟨g, cap, cur, e1, e2, e3, e4⟩
  · exact Or.inl h2
  · refine Or.inr ⟨g, cap, cur, e1, e2, ?_, e4⟩
    have hl := (h.lt g (by rw [e1]; rfl)).2
    rw [hb g (by rw [e1]; rfl) hl]; exact e3
theorem ownShape {w : World} {B : Nat} {e : TypeId} {s : Nat} {v : Value} {n : Nat} {xs : List Value} (h : w.ownsRow B e s v n xs) : ∃ a k, v = .slice a n k := by
  rcases h.2 with ⟨h1, h2⟩ | ⟨g, cap, cur, e1, _⟩
  · exact ⟨none, 0, by rw [h1, h2]⟩
  · exact ⟨_, cap, e1⟩
theorem Src.keep {sb : Nat} {w w' : World} (h : Src sb w) (hb : ∀ k, k ≤ sb → w'.heap[k]? = w.heap[k]?) : Src sb w' := by
  obtain ⟨a, len, cap, at_, mix, size, ⟨c0, c1, c2, c3, f0, f1, f2, f3⟩, h1, h2, h3, h4, h5, h6⟩ := h
  have ce : ∀ o, w'.cell? ⟨sb, o, none⟩ = w.cell? ⟨sb, o, none⟩ := fun o => World.cell?_of_block (hb sb (Nat.le_refl _))
  have fe : ∀ o, w'.frozen? ⟨sb, o, none⟩ = w.frozen? ⟨sb, o, none⟩ := fun o => World.frozen?_of_block (hb sb (Nat.le_refl _))
  refine ⟨a, len, cap, at_, mix, size, ⟨(ce 0).trans c0, (ce 1).trans c1, (ce 2).trans c2, (ce 3).trans c3, (fe 0).trans f0, (fe 1).trans f1, (fe 2).trans f2, (fe 3).trans f3⟩, h1, h2, h3, h4, h5, fun i hi => ?_⟩
  obtain ⟨cb, co, z, e, hne, hc, z0, z1⟩ := h6 i hi
  exact ⟨cb, co, z, e, hne, (World.cell?_of_block (a := ⟨cb, co + i, none⟩) (hb cb (by omega))).trans hc, z0, z1⟩

/-- What the drawing of a list keeps: the list so far, the source, the old memory. -/
def IL (w : World) (sb : Nat) (v : Value) (zs : List Int) (W : World) : Prop := W.ownsRow w.heap.size 2 1 v zs.length (zs.map (Value.int .i64)) ∧ Drew sb w W ∧ sb < w.heap.size
theorem IL.draw {w : World} {sb : Nat} {v : Value} {zs : List Int} {W W' : World} (h : IL w sb v zs W) (hd : Drew sb W W') : IL w sb v zs W' :=
  ⟨ownFar h.1 (fun k hk hl => hd.2.2.2.2.2 k hl (by have := (h.1.lt k hk).1; have := h.2.2; omega)), ⟨hd.1, h.2.1.2.trans hd.2⟩, h.2.2⟩
theorem IL.push {w : World} {sb : Nat} {v v' : Value} {zs : List Int} {x : Int} {W W' : World} {o : Obj} (h : IL w sb v zs W) (hg : (W.alloc o).grownBy W' v.ownBlock)
    (hown : W'.ownsRow w.heap.size 2 1 v' (zs.length + 1) (zs.map (Value.int .i64) ++ [.int .i64 x])) : IL w sb v' (zs ++ [x]) W' := by
  have hz := h.2.1.2.size
  have hrow : ∀ k, v.ownBlock = some k → w.heap.size ≤ k := fun k e => (h.1.lt k e).1
  have hk : ∀ k, k < w.heap.size → W'.heap[k]? = W.heap[k]? := fun k hk => by
    rw [hg.block k (by simp; omega) (fun e => by have := hrow k e.symm; omega)]
    exact blk_alloc_lt _ _ _ (by omega)
  refine ⟨by simpa using hown, ⟨h.2.1.1.keep (fun k hk2 => hk k (by have := h.2.2; omega)), ?_⟩, h.2.2⟩
  exact ⟨hg.os.trans h.2.1.2.1, hg.tape.trans h.2.1.2.2.1, hg.output.trans h.2.1.2.2.2.1, by have := hg.size; simp at this; omega, fun k hk1 hk2 => (hk k hk1).trans (h.2.1.2.2.2.2.2 k hk1 hk2)⟩
theorem il_start {w : World} {sb : Nat} (h : Src sb w) : IL w sb (.slice (some ⟨w.heap.size, 0, none⟩) 0 0) [] (w.alloc (.cells #[] 2)) :=
  ⟨World.ownsRow_made w #[] 0 (Nat.le_refl _) (Nat.zero_le _) rfl, ⟨h.below ((Below.refl _ _).alloc (Nat.le_refl _) _), Chg.of_below ((Below.refl _ _).alloc (Nat.le_refl _) _)⟩, h.lt⟩

theorem IL.alloc {w : World} {sb : Nat} {v : Value} {zs : List Int} {W : World} (h : IL w sb v zs W) (o : Obj) : IL w sb v zs (W.alloc o) := by
  have hb : Below W.heap.size W (W.alloc o) := (Below.refl _ _).alloc (Nat.le_refl _) _
  exact ⟨h.1.alloc _, ⟨h.2.1.1.below hb, h.2.1.2.trans (Chg.of_below hb)⟩, h.2.2⟩
theorem dinfo_i64 : (Tryd.prog.info? 2).map (fun i => (i.zero, i.size, i.bytes)) = some (some (.int .i64 0), 1, 8) := by kernel_rfl
/-- One of some numbers in a new block. -/
theorem oneOf {W W' : World} {sb g : Nat} {z : Int} {n : Nat} (c : Array Value) (T : TypeId) (hc : ∀ i, i < c.size → ∃ x : Int, c[i]? = some (.int .i64 x)) (hg : W.heap[g]? = some (.cells c T)) (hs : c.size = n) (hd : Drew sb W W') (hne : g ≠ sb) (z0 : 0 ≤ z) (z1 : z < n) : ∃ x : Int, W'.cell? ⟨g, z.toNat, none⟩ = some (.int .i64 x) := by
  have hlt : g < W.heap.size := (Array.getElem?_eq_some_iff.1 hg).1
  obtain ⟨x, hx⟩ := hc z.toNat (by omega)
  refine ⟨x, ?_⟩
  rw [hd.2.cell (p := ⟨g, z.toNat, none⟩) hlt hne]
  simp only [World.cell?, hg]
  exact hx
set_option maxRecDepth 100000 in
set_option maxHeartbeats 2000000 in
theorem flow_any (sb : Nat) (w : World) (h : Src sb w) :
    Calls Tryd.prog 114 #[.pointer (some ⟨sb, 0, none⟩)] w fun e w' => (∃ v, e = .returned (.int .i64 v)) ∧ Drew sb w w' := by
  have H : Hid (Src sb w) := h
  have hlt := h.lt
  clear h
  go_enter Tryd.func114, Tryd.ntmps114
  go_wp2_with fail
  refine (one_any sb 40 _ H.out (by omega)).mono ?_
  rintro e w1 ⟨⟨b, rfl⟩, hD⟩
  have HD1 := Lib.hid hD
  clear hD
  cases b with
  | false =>
    go_wp2_with fail
    refine (n_any sb 300 _ HD1.out.1 (by omega)).mono ?_
    rintro e w2 ⟨⟨v, rfl, _, _, _⟩, hD⟩
    have HD2 : Hid (Drew sb w w2) := ⟨hD.1, HD1.out.2.trans hD.2⟩
    clear hD
    go_wp2_with fail
    go_ret
    exact ⟨⟨_, rfl⟩, HD2.out⟩
  | true =>
    have hb : Below w1.heap.size w1 (w1.alloc (.cells #[.int .i64 (-1), .int .i64 1000000, .int .i64 1000001] 2)) := (Below.refl _ _).alloc (Nat.le_refl _) _
    have HS : Hid (Src sb (w1.alloc (.cells #[.int .i64 (-1), .int .i64 1000000, .int .i64 1000001] 2))) := HD1.out.1.below hb
    have HC : Hid (Chg sb w (w1.alloc (.cells #[.int .i64 (-1), .int .i64 1000000, .int .i64 1000001] 2))) := HD1.out.2.trans (Chg.of_below hb)
    have hgg : (w1.alloc (.cells #[.int .i64 (-1), .int .i64 1000000, .int .i64 1000001] 2)).heap[w1.heap.size]? = some (.cells #[.int .i64 (-1), .int .i64 1000000, .int .i64 1000001] 2) := blk_alloc_new _ _
    have HGG := Lib.hid hgg
    have hne : w1.heap.size ≠ sb := by have := HD1.out.1.lt; omega
    have HNE := Lib.hid hne
    clear hb hgg hne
    go_wp2_with fail
    refine (n_any sb 3 _ HS.out (by omega)).mono ?_
    rintro e w2 ⟨⟨z, rfl, z0, z1, _⟩, hD⟩
    have z2 := z1 (by omega)
    obtain ⟨x, hx⟩ := oneOf (z := z) (n := 3) #[.int .i64 (-1), .int .i64 1000000, .int .i64 1000001] 2 (fun j hj => by
      have hv : j = 0 ∨ j = 1 ∨ j = 2 := by simp at hj; omega
      rcases hv with rfl | rfl | rfl <;> exact ⟨_, rfl⟩) HGG.out rfl hD HNE.out z0 (by omega)
    have HD2 : Hid (Drew sb w w2) := ⟨hD.1, HC.out.trans hD.2⟩
    clear hD z1
    go_wp2_with fail
    go_ret
    exact ⟨⟨_, rfl⟩, HD2.out⟩
set_option maxRecDepth 100000 in
set_option maxHeartbeats 2000000 in
theorem flows_drawn (sb N : Nat) (hN : N ≤ 1000) (w : World) (h : Src sb w) :
    Calls Tryd.prog 84 #[.pointer (some ⟨sb, 0, none⟩), .int .i64 N] w fun e w' => ∃ v, e = .returned v ∧ ∃ zs : List Int, zs.length = N ∧ IL w sb v zs w' := by
  have H : Hid (Src sb w) := h
  have hlt := h.lt
  clear h
  obtain ⟨i0, hi, hz0, hz1, hz2⟩ := info_parts dinfo_i64
  go_enter Tryd.func84, Tryd.ntmps84
  go_wp2_with fail
  go_loopw [1, 5] (fun nv ov wr => ∃ (m : Nat) (zs : List Int), nv = .int .i64 m ∧ m ≤ 1000 ∧ Hid (m + zs.length = N) ∧ Hid (IL w sb ov zs wr)) (fun nv _ _ => (intOf nv).toNat)
  case atStart => exact ⟨N, [], rfl, hN, by show _ = _; simp, il_start H.out⟩
  case round =>
    obtain ⟨m, zs, rfl, m1, hm, hF⟩ := hrel
    obtain ⟨av, cv, rfl⟩ := ownShape hF.out.1
    by_cases hlt2 : 0 < m
    · have hltz : 0 < (m : Int) := by omega
      go_wp2_with fail
      refine (n_any sb 300 _ hF.out.2.1.1 (by omega)).mono ?_
      rintro e w1 ⟨⟨x, rfl, _, _, _⟩, hD⟩
      have HF1 : Hid (IL w sb _ zs w1) := hF.out.draw hD
      clear hD hF
      go_wp2_with fail
      refine (one_any sb 200 _ HF1.out.2.1.1 (by omega)).mono ?_
      rintro e w2 ⟨⟨b, rfl⟩, hD⟩
      have HF2 : Hid (IL w sb _ zs w2) := HF1.out.draw hD
      clear hD HF1
      cases b with
      | true =>
        go_wp2_with fail
        refine (flow_any sb _ HF2.out.2.1.1).mono ?_
        rintro e w3 ⟨⟨y, rfl⟩, hD⟩
        have HF3 : Hid (IL w sb _ zs w3) := HF2.out.draw hD
        clear hD HF2
        go_wp2_with (at_builtin; refine wpList_append_own _ rfl _ _ 23 rfl w.heap.size 2 i0 (.int .i64 0) 1 8 Tryd.underlying23 hi hz0 hz1 hz2 rfl (by decide) _ _ _ rfl (HF3.out.1.alloc _) ⟨w3.heap.size, 0, none⟩ 1 1 [.int .i64 y] rfl rfl ?c1a ?c2a ?c3a ?c4a ?c5a ?_)
        try (case c1a => (intro j u hj; match j, hj with
          | 0, hj => (simp at hj; subst hj; simp [Addr.add])))
        try (case c2a => first | rfl | (intro u hu; simp at hu; subst hu; rfl))
        try (case c3a => (have := hm.out; unfold maxLen; omega))
        try (case c4a => (have := hm.out; omega))
        try (case c5a => (have := HF3.out.2.1.2.size; first | omega | (simp; omega)))
        intro v' w9 hown hgrow hnil
        have HF9 : Hid (IL w sb v' (zs ++ [y]) w9) := HF3.out.push hgrow hown
        clear hown hgrow hnil HF3
        go_wp2_with fail
        go_roundw
        case rel => exact ⟨m - 1, zs ++ [y], by go_num, by omega, by show _ = _; have := hm.out; simp; omega, HF9⟩
        case measure => simp [intOf]; omega
      | false =>
        go_wp2_with (at_builtin; refine wpList_append_own _ rfl _ _ 23 rfl w.heap.size 2 i0 (.int .i64 0) 1 8 Tryd.underlying23 hi hz0 hz1 hz2 rfl (by decide) _ _ _ rfl (HF2.out.1.alloc _) ⟨w2.heap.size, 0, none⟩ 1 1 [.int .i64 x] rfl rfl ?c1b ?c2b ?c3b ?c4b ?c5b ?_)
        try (case c1b => (intro j u hj; match j, hj with
          | 0, hj => (simp at hj; subst hj; simp [Addr.add])))
        try (case c2b => first | rfl | (intro u hu; simp at hu; subst hu; rfl))
        try (case c3b => (have := hm.out; unfold maxLen; omega))
        try (case c4b => (have := hm.out; omega))
        try (case c5b => (have := HF2.out.2.1.2.size; first | omega | (simp; omega)))
        intro v' w9 hown hgrow hnil
        have HF9 : Hid (IL w sb v' (zs ++ [x]) w9) := HF2.out.push hgrow hown
        clear hown hgrow hnil HF2
        go_wp2_with fail
        go_roundw
        case rel => exact ⟨m - 1, zs ++ [x], by go_num, by omega, by show _ = _; have := hm.out; simp; omega, HF9⟩
        case measure => simp [intOf]; omega
    · obtain rfl : m = 0 := by omega
      go_wp2_with fail
      go_ret
      exact ⟨_, rfl, zs, by have := hm.out; omega, hF.out⟩
end Go.Proofs.YtdpghhmcibiplaaDoor
