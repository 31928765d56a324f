/-
  The contracts of the draws of batches.
-/
import Derived.Test.YtcjeieagpcphjaaDoorStDr
import Derived.Test.YtcjeieagpcphjaaDoorWkMk
import Derived.Test.YtcjeieagpcphjaaDoorWkTk
import Derived.Deep.DeepCutAuto
namespace Go.Proofs.YtcjeieagpcphjaaDoor
open Go.RowKit Go.Deep

set_option maxHeartbeats 1000000 in
theorem betweenW_any (sb : Nat) (M : Int) (hM : 1 ≤ M) (hM2 : M ≤ 2000) (w : World) (h : Src sb w) :
    Calls Tryd.prog 46 #[.pointer (some ⟨sb, 0, none⟩), .int .i64 0, .int .i64 M] w fun e w' => (∃ v, e = .returned (.int .i64 v)) ∧ Drew sb w w' := by
  have H : Hid (Src sb w) := h
  clear h
  go_enter Tryd.func46, Tryd.ntmps46
  go_wp2_with fail
  refine (n_any sb (M + 1) _ H.out (by omega)).mono ?_
  rintro e w' ⟨⟨v, rfl, v0, v1, _⟩, hD⟩
  have HD : Hid (Drew sb w w') := hD
  clear hD
  have v2 := v1 (by omega)
  clear v1
  go_wp2_with fail
  go_ret
  exact ⟨⟨_, rfl⟩, HD.out⟩

set_option maxRecDepth 100000 in
set_option maxHeartbeats 2000000 in
theorem listW_any (sb N : Nat) (hN : N ≤ 1000) (M : Int) (hM : 1 ≤ M) (hM2 : M ≤ 2000) (w : World) (h : Src sb w) :
    Calls Tryd.prog 35 #[.pointer (some ⟨sb, 0, none⟩), .int .i64 N, .int .i64 0, .int .i64 M] w fun e w' => ∃ v, e = .returned v ∧ ∃ zs : List Int, zs.length = N ∧ IL w sb v zs w' := by
  have H : Hid (Src sb w) := h
  have hlt := h.lt
  clear h
  obtain ⟨i0, hi, hz0, hz1, hz2⟩ := info_parts dinfo_i64
  go_enter Tryd.func35, Tryd.ntmps35
  go_wp2_with fail
  go_loopw [1, 9] (fun nv ov wr => ∃ (m : Nat) (zs : List Int), nv = .int .i64 m ∧ m ≤ 1000 ∧ Hid (m + zs.length = N) ∧ Hid (IL w sb ov zs wr)) (fun nv _ _ => (intOf nv).toNat)
  case atStart => exact ⟨N, [], rfl, hN, by show _ = _; simp, il_start H.out⟩
  case round =>
    obtain ⟨m, zs, rfl, m1, hm, hF⟩ := hrel
    obtain ⟨av, cv, rfl⟩ := ownShape hF.out.1
    by_cases hlt2 : 0 < m
    · have hltz : 0 < (m : Int) := by omega
      go_wp2_with fail
      refine (betweenW_any sb M hM hM2 _ hF.out.2.1.1).mono ?_
      rintro e w1 ⟨⟨x, rfl⟩, hD⟩
      have HF1 : Hid (IL w sb _ zs w1) := hF.out.draw hD
      clear hD hF
      go_wp2_with (at_builtin; refine wpList_append_own _ rfl _ _ 24 rfl w.heap.size 2 i0 (.int .i64 0) 1 8 Tryd.underlying24 hi hz0 hz1 hz2 rfl (by decide) _ _ _ rfl (HF1.out.1.alloc _) ⟨w1.heap.size, 0, none⟩ 1 1 [.int .i64 x] rfl rfl ?c1 ?c2 ?c3 ?c4 ?c5 ?_)
      try (case c1 => (intro j u hj; match j, hj with
        | 0, hj => (simp at hj; subst hj; simp [Addr.add])))
      try (case c2 => first | rfl | (intro u hu; simp at hu; subst hu; rfl))
      try (case c3 => (have := hm.out; unfold maxLen; omega))
      try (case c4 => (have := hm.out; omega))
      try (case c5 => (have := HF1.out.2.1.2.size; first | omega | (simp; omega)))
      intro v' w2 hown hgrow hnil
      have HF2 : Hid (IL w sb v' (zs ++ [x]) w2) := HF1.out.push hgrow hown
      clear hown hgrow hnil HF1
      go_wp2_with fail
      go_roundw
      case rel => exact ⟨m - 1, zs ++ [x], by go_num, by omega, by show _ = _; have := hm.out; simp; omega, HF2⟩
      case measure => simp [intOf]; omega
    · obtain rfl : m = 0 := by omega
      go_wp2_with fail
      go_ret
      exact ⟨_, rfl, zs, by have := hm.out; omega, hF.out⟩

/-- One number of an owned list is another one. -/
theorem ownW_set {B g cap i : Nat} {zs : List Int} {x : Int} {W : World} (h : W.ownsRow B 2 1 (.slice (some ⟨g, 0, none⟩) zs.length cap) zs.length (zs.map (Value.int .i64))) :
    (W.setCell ⟨g, i, none⟩ (.int .i64 x)).ownsRow B 2 1 (.slice (some ⟨g, 0, none⟩) zs.length cap) (zs.set i x).length ((zs.set i x).map (Value.int .i64)) := by
  obtain ⟨h1, h2⟩ := h
  refine ⟨by simp, ?_⟩
  rcases h2 with ⟨h2, _⟩ | ⟨g', cap', cur, e1, e2, e3, e4, e5, e6, e7⟩
  · cases h2
  · cases e1
    refine Or.inr ⟨g, cap, cur.setIfInBounds i (.int .i64 x), by simp, e2, ?_, by simpa using e4, e5, by simpa using e6, ?_⟩
    · simp [World.setCell, Array.getElem?_modify, e3]
    · rw [Array.toList_setIfInBounds, List.length_set, List.take_set, e7, List.map_set]

theorem IL.set {w : World} {sb g cap i : Nat} {zs : List Int} {x : Int} {W : World} (h : IL w sb (.slice (some ⟨g, 0, none⟩) zs.length cap) zs W) : IL w sb (.slice (some ⟨g, 0, none⟩) zs.length cap) (zs.set i x) (W.setCell ⟨g, i, none⟩ (.int .i64 x)) := by
  have hg : w.heap.size ≤ g := (h.1.lt g rfl).1
  refine ⟨ownW_set h.1, ⟨h.2.1.1.keep (fun k hk => blk_setCell_other _ _ _ _ (by show k ≠ g; have := h.2.2; omega)), ?_⟩, h.2.2⟩
  exact ⟨h.2.1.2.1, h.2.1.2.2.1, h.2.1.2.2.2.1, by have := h.2.1.2.size; simpa using this, fun k hk1 hk2 => (blk_setCell_other _ _ _ _ (by show k ≠ g; omega)).trans (h.2.1.2.2.2.2.2 k hk1 hk2)⟩
/-- A drawn batch: its list is its own, or there is none. -/
structure DB (w : World) (sb b5 : Nat) (wt : Int) (v : Value) (zs : List Int) (W : World) : Prop where
  o4 : W.rowIs w.heap.size 28 2 (r2 (.int .i64 0) (.slice none 0 0))
  box : W.rowIs b5 28 2 (r2 (.int .i64 wt) v)
  own : W.ownsRow (w.heap.size + 1) 2 1 v zs.length (zs.map (Value.int .i64))
  dr : Drew sb w W
  lt : sb < w.heap.size
  lb : w.heap.size < b5
theorem own_rowW {W : World} {B : Nat} {v : Value} {n : Nat} {xs : List Value} (h : W.ownsRow B 2 1 v n xs) {g : Nat} (hg : v.ownBlock = some g) : B ≤ g ∧ ∃ cur, W.heap[g]? = some (.cells cur 2 (0, 0)) := by
  rcases h.2 with ⟨rfl, _⟩ | ⟨g', cap, cur, rfl, h1, h2, _⟩
  · cases hg
  · simp [Value.ownBlock] at hg
    subst hg
    exact ⟨h1, cur, h2⟩
theorem DB.far {w : World} {sb b5 : Nat} {wt : Int} {v : Value} {zs : List Int} {W : World} (h : DB w sb b5 wt v zs W) {g : Nat} (hg : v.ownBlock = some g) : g ≠ b5 := fun e => by
  obtain ⟨_, c1, e1⟩ := own_rowW h.own hg
  obtain ⟨c2, e2, _⟩ := h.box
  rw [e] at e1
  rw [e1] at e2
  injection e2 with e2
  injection e2 with _ e3 _
  exact absurd e3 (by decide)
theorem DB.draw {w : World} {sb b5 : Nat} {wt : Int} {v : Value} {zs : List Int} {W W' : World} (h : DB w sb b5 wt v zs W) (hd : Drew sb W W') : DB w sb b5 wt v zs W' := by
  have hl := h.lt
  have hb := h.lb
  refine ⟨h.o4.of_block (hd.2.2.2.2.2 _ h.o4.lt (by omega)), h.box.of_block (hd.2.2.2.2.2 _ h.box.lt (by omega)), ownFar h.own (fun k hk hl2 => hd.2.2.2.2.2 k hl2 (by have := (h.own.lt k hk).1; omega)), ⟨hd.1, h.dr.2.trans hd.2⟩, hl, hb⟩
theorem DB.alloc {w : World} {sb b5 : Nat} {wt : Int} {v : Value} {zs : List Int} {W : World} (h : DB w sb b5 wt v zs W) (o : Obj) : DB w sb b5 wt v zs (W.alloc o) := by
  have hb : Below W.heap.size W (W.alloc o) := bel_alloc _ _
  exact ⟨wrow_below h.o4 hb, wrow_below h.box hb, h.own.alloc _, ⟨h.dr.1.below hb, h.dr.2.trans (Chg.of_below hb)⟩, h.lt, h.lb⟩
theorem DB.drew {w : World} {sb b5 : Nat} {wt : Int} {v : Value} {zs : List Int} {W : World} (h : DB w sb b5 wt v zs W) : DB w sb b5 wt v zs W.drew := by
  have hb : Below W.heap.size W W.drew := (Below.refl _ _).drew
  exact ⟨wrow_below h.o4 hb, wrow_below h.box hb, ownFar h.own (fun _ _ _ => rfl), ⟨h.dr.1.below hb, h.dr.2.trans (Chg.of_below hb)⟩, h.lt, h.lb⟩
theorem DB.set {w : World} {sb b5 : Nat} {wt : Int} {g cap i : Nat} {zs : List Int} {x : Int} {W : World} (h : DB w sb b5 wt (.slice (some ⟨g, 0, none⟩) zs.length cap) zs W) : DB w sb b5 wt (.slice (some ⟨g, 0, none⟩) zs.length cap) (zs.set i x) (W.setCell ⟨g, i, none⟩ (.int .i64 x)) := by
  have hg : w.heap.size + 1 ≤ g := (h.own.lt g rfl).1
  have hf : g ≠ b5 := h.far rfl
  have e : ∀ k, k ≠ g → (W.setCell ⟨g, i, none⟩ (.int .i64 x)).heap[k]? = W.heap[k]? := fun k hk => Below.heap_setCell _ ⟨g, i, none⟩ _ _ hk
  refine ⟨h.o4.of_block (e _ (by omega)), h.box.of_block (e _ (fun h => hf h.symm)), ownW_set h.own, ⟨h.dr.1.keep (fun k hk => e k (by have := h.lt; omega)), ?_⟩, h.lt, h.lb⟩
  exact ⟨h.dr.2.1, h.dr.2.2.1, h.dr.2.2.2.1, by have := h.dr.2.size; simpa using this, fun k hk1 hk2 => (e k (by omega)).trans (h.dr.2.2.2.2.2 k hk1 hk2)⟩
theorem DB.water {w : World} {sb b5 : Nat} {wt : Int} {v : Value} {zs : List Int} {W : World} (h : DB w sb b5 wt v zs W) (x : Int) : DB w sb b5 x v zs (W.setCell ⟨b5, 0, none⟩ (.int .i64 x)) := by
  have hl := h.lt
  have hb := h.lb
  have e : ∀ k, k ≠ b5 → (W.setCell ⟨b5, 0, none⟩ (.int .i64 x)).heap[k]? = W.heap[k]? := fun k hk => Below.heap_setCell _ ⟨b5, 0, none⟩ _ _ hk
  refine ⟨h.o4.of_block (e _ (by omega)), row2_set0 h.box _, ownFar h.own (fun k hk _ => e k (h.far hk)), ⟨h.dr.1.keep (fun k hk => e k (by omega)), ?_⟩, hl, hb⟩
  exact ⟨h.dr.2.1, h.dr.2.2.1, h.dr.2.2.2.1, by have := h.dr.2.size; simpa using this, fun k hk1 hk2 => (e k (by omega)).trans (h.dr.2.2.2.2.2 k hk1 hk2)⟩
/-- How the draw of a batch ends. -/
def DbEnd (lo : Nat) (N : Nat) (e : Ending) (W : World) : Prop := ∃ (wt : Int) (a : Option Addr) (k : Nat) (zs : List Int), e = .returned (btV wt a N k) ∧ (-1 ≤ wt ∧ wt ≤ 1000000001) ∧ zs.length = N ∧ W.ownsRow lo 2 1 (.slice a N k) N (zs.map (Value.int .i64))
theorem oneOfW {W W' : World} {g : Nat} {z : Int} {n : Nat} (c : Array Value) (T : TypeId) (hc : ∀ i, i < c.size → ∃ x : Int, c[i]? = some (.int .i64 x) ∧ (-1 ≤ x ∧ x ≤ 1000000001)) (hg : W.heap[g]? = some (.cells c T)) (hs : c.size = n) (hd : ∀ k, k = g → W'.heap[k]? = W.heap[k]?) (z0 : 0 ≤ z) (z1 : z < n) : ∃ x : Int, W'.cell? ⟨g, z.toNat, none⟩ = some (.int .i64 x) ∧ (-1 ≤ x ∧ x ≤ 1000000001) := by
  obtain ⟨x, hx, hxb⟩ := hc z.toNat (by omega)
  refine ⟨x, ?_, hxb⟩
  simp only [World.cell?, hd g rfl, hg]
  simpa using hx
theorem four_ok : ∀ i, i < (#[.int .i64 0, .int .i64 1000000000, .int .i64 1000000001, .int .i64 (-1)] : Array Value).size → ∃ x : Int, (#[.int .i64 0, .int .i64 1000000000, .int .i64 1000000001, .int .i64 (-1)] : Array Value)[i]? = some (.int .i64 x) ∧ (-1 ≤ x ∧ x ≤ 1000000001) := by
  intro i hi
  have hi4 : i < 4 := hi
  have hv : i = 0 ∨ i = 1 ∨ i = 2 ∨ i = 3 := by omega
  rcases hv with rfl | rfl | rfl | rfl <;> exact ⟨_, rfl, by omega, by omega⟩
theorem three_ok : ∀ i, i < (#[.int .i64 1000000000, .int .i64 1000000001, .int .i64 (-1)] : Array Value).size → ∃ x : Int, (#[.int .i64 1000000000, .int .i64 1000000001, .int .i64 (-1)] : Array Value)[i]? = some (.int .i64 x) ∧ (-1 ≤ x ∧ x ≤ 1000000001) := by
  intro i hi
  have hi4 : i < 3 := hi
  have hv : i = 0 ∨ i = 1 ∨ i = 2 := by omega
  rcases hv with rfl | rfl | rfl <;> exact ⟨_, rfl, by omega, by omega⟩
set_option maxRecDepth 100000 in
set_option maxHeartbeats 8000000 in
theorem batchD_any (sb N : Nat) (hN : N ≤ 1000) (w : World) (h : Src sb w) :
    Calls Tryd.prog 47 #[.pointer (some ⟨sb, 0, none⟩), .int .i64 N] w fun e w' => DbEnd w.heap.size N e w' ∧ Drew sb w w' := by
  obtain ⟨W, hW⟩ : ∃ W, W = w.alloc (.cells #[.int .i64 0, .slice none 0 0] 28) := ⟨_, rfl⟩
  have hB : Below w.heap.size w W := by rw [hW]; exact bel_alloc _ _
  have RO : W.rowIs w.heap.size 28 2 (r2 (.int .i64 0) (.slice none 0 0)) := by rw [hW]; exact row2 w _ _ _
  have hs : W.heap.size = w.heap.size + 1 := by rw [hW]; simp
  have H := Lib.hid (h.below hB)
  have HLT := Lib.hid h.lt
  have HW := Lib.hid hW
  have HB := Lib.hid hB
  have HRO := Lib.hid RO
  have HS := Lib.hid hs
  clear h hW hB RO hs
  go_enter Tryd.func47, Tryd.ntmps47
  go_wp2_with fail
  rw [← HW.out]
  refine (n_any sb 1000 _ H.out (by omega)).mono ?_
  rintro e W1 ⟨⟨wt, rfl, wt0, wt1, _⟩, hD⟩
  have HWT : Hid (-1 ≤ wt ∧ wt ≤ 1000000001) := by have := wt1 (by omega); refine ⟨by omega, by omega⟩
  clear wt0 wt1
  have HD1 := Lib.hid hD
  clear hD
  go_wp2_with fail
  refine (listW_any sb N hN 900 (by omega) (by omega) _ HD1.out.1).mono ?_
  rintro e W2 ⟨v, rfl, zs, hzl, hil⟩
  obtain ⟨av, kv, rfl⟩ := ownShape hil.1
  obtain ⟨W3, hW3⟩ : ∃ W3, W3 = W2.alloc (.cells #[.int .i64 wt, .slice av zs.length kv] 28) := ⟨_, rfl⟩
  have hs1 := HD1.out.2.size
  have hs2 := hil.2.1.2.size
  have hs0 := HS.out
  have hlt0 := HLT.out
  have hb3 : Below W2.heap.size W2 W3 := by rw [hW3]; exact bel_alloc _ _
  have HDB : Hid (DB w sb W2.heap.size wt (.slice av zs.length kv) zs W3) := by
    have hO2 : W2.rowIs w.heap.size 28 2 (r2 (.int .i64 0) (.slice none 0 0)) := (HRO.out.of_block (HD1.out.2.2.2.2.2 _ HRO.out.lt (by omega))).of_block (hil.2.1.2.2.2.2.2 _ (by have := HRO.out.lt; omega) (by omega))
    refine ⟨wrow_below hO2 hb3, by rw [hW3]; exact row2 _ _ _ _, ?_, ⟨hil.2.1.1.below hb3, ?_⟩, hlt0, by omega⟩
    · rw [hW3]
      have := hil.1.alloc (.cells #[.int .i64 wt, .slice av zs.length kv] 28)
      refine ⟨this.1, ?_⟩
      rcases this.2 with h | ⟨g, cap, cur, e1, e2, e3⟩
      · exact Or.inl h
      · exact Or.inr ⟨g, cap, cur, e1, by omega, e3⟩
    · exact (((Chg.of_below (HB.out)).trans HD1.out.2).trans hil.2.1.2).trans (Chg.of_below hb3)
  have HW3 := Lib.hid hW3
  have hb5 : W2.heap.size < W3.heap.size := HDB.out.box.lt
  obtain ⟨b5, hb5e⟩ : ∃ b5, b5 = W2.heap.size := ⟨_, rfl⟩
  rw [← hb5e] at HDB hb5
  subst hzl
  clear hW3 hb3 hil hs1 hs2 hs0 HRO HW H HD1
  go_wp2_with fail
  rw [← HW3.out, ← hb5e]
  clear HW3 hb5e
  refine (one_any sb 30 _ HDB.out.dr.1 (by omega)).mono ?_
  rintro e W4 ⟨⟨c1, rfl⟩, hD⟩
  have HDB4 := Lib.hid (HDB.out.draw hD)
  clear hD HDB hb5
  have mid : ∀ (wt' : Int) (W5 : World), DB w sb b5 wt' (.slice av zs.length kv) zs W5 → True := fun _ _ _ => trivial
  clear mid
  cases c1 with
  | true =>
    obtain ⟨W4a, hW4a⟩ : ∃ W4a, W4a = W4.alloc (.cells #[.int .i64 0, .int .i64 1000000000, .int .i64 1000000001, .int .i64 (-1)] 2) := ⟨_, rfl⟩
    have HDa : Hid (DB w sb b5 wt (.slice av zs.length kv) zs W4a) := by show DB _ _ _ _ _ _ _; rw [hW4a]; exact HDB4.out.alloc _
    have HGa : Hid (W4a.heap[W4.heap.size]? = some (.cells #[.int .i64 0, .int .i64 1000000000, .int .i64 1000000001, .int .i64 (-1)] 2)) := by show _ = _; rw [hW4a]; exact blk_alloc_new _ _
    have HWa := Lib.hid hW4a
    have hl5 : w.heap.size < W4.heap.size := HDB4.out.o4.lt
    obtain ⟨g4, hg4⟩ : ∃ g4, g4 = W4.heap.size := ⟨_, rfl⟩
    rw [← hg4] at HGa hl5
    clear hW4a
    go_wp2_with fail
    rw [← HWa.out, ← hg4]
    clear HWa hg4 HDB4
    refine (n_any sb 4 _ HDa.out.dr.1 (by omega)).mono ?_
    rintro e W5 ⟨⟨z, rfl, z0, z1, _⟩, hD⟩
    have z2 := z1 (by omega)
    have hgl : g4 < W4a.heap.size := (Array.getElem?_eq_some_iff.1 HGa.out).1
    obtain ⟨x, hx, hxb⟩ := oneOfW (W' := W5) (n := 4) _ _ four_ok HGa.out rfl (fun k hk => hD.2.2.2.2.2 k (by rw [hk]; exact hgl) (by have := HLT.out; omega)) z0 (by omega)
    have HD5 := Lib.hid (HDa.out.draw hD)
    have hg5l : g4 < W5.heap.size := World.block_lt_of_cell? _ _ hx
    obtain ⟨⟨q0, q1⟩, y0, y1⟩ := row2_cells HD5.out.box
    have hbl : b5 < W5.heap.size := HD5.out.box.lt
    have HD6 := Lib.hid (HD5.out.water x)
    clear hD HDa HGa hgl z1
    go_wp2_with fail
    obtain ⟨W6, hW6⟩ : ∃ W6, W6 = W5.setCell ⟨b5, 0, none⟩ (.int .i64 x) := ⟨_, rfl⟩
    rw [← hW6] at HD6 ⊢
    clear hW6 q0 q1 y0 y1 hbl hx hg5l HD5
    obtain ⟨wt', hwt'⟩ : ∃ y, y = x := ⟨_, rfl⟩
    rw [← hwt'] at HD6
    have HWB : Hid (-1 ≤ wt' ∧ wt' ≤ 1000000001) := by rw [hwt']; exact hxb
    clear hwt' hxb
    refine (one_any sb 40 _ HD6.out.dr.1 (by omega)).mono ?_
    rintro e W7 ⟨⟨c2, rfl⟩, hD⟩
    have HD7 := Lib.hid (HD6.out.draw hD)
    clear hD HD6
    cases c2 with
    | false =>
      obtain ⟨⟨q0, q1⟩, _⟩ := row2_cells HD7.out.box
      obtain ⟨⟨o0, o1⟩, y0, y1⟩ := row2_cells HD7.out.o4
      have hbl : b5 < W7.heap.size := HD7.out.box.lt
      have hd1 : b5 ≠ w.heap.size := by have := HD7.out.lb; omega
      go_wp2_with fail
      have hle : w.heap.size ≤ w.heap.size := Nat.le_refl _
      have e9 : ∀ k, k ≠ w.heap.size → ((W7.setCell ⟨w.heap.size, 0, none⟩ (.int .i64 wt')).setCell ⟨w.heap.size, 1, none⟩ (.slice av zs.length kv)).heap[k]? = W7.heap[k]? := fun k hk => (Below.heap_setCell _ ⟨w.heap.size, 1, none⟩ _ _ hk).trans (Below.heap_setCell _ ⟨w.heap.size, 0, none⟩ _ _ hk)
      refine bodyPost_ret (v := btV wt' av zs.length kv) ?_ rfl ⟨⟨wt', av, kv, zs, rfl, HWB.out, rfl, ?_⟩, ⟨HD7.out.dr.1.keep (fun k hk => e9 k (by have := HD7.out.lt; omega)), ?_⟩⟩
      · obtain ⟨⟨a0, a1⟩, _⟩ := row2_cells (row2_put HD7.out.o4 (.int .i64 wt') (.slice av zs.length kv))
        simp only [results, Tryd.results47]
        simp [go_sem, a0, a1]
      · have h1 := HD7.out.own
        have h2 := ownFar (w' := (W7.setCell ⟨w.heap.size, 0, none⟩ (.int .i64 wt')).setCell ⟨w.heap.size, 1, none⟩ (.slice av zs.length kv)) h1 (fun k hk _ => e9 k (by have := (h1.lt k hk).1; omega))
        refine ⟨h2.1, ?_⟩
        rcases h2.2 with h | ⟨g, cap, cur, e1, e2, e3⟩
        · exact Or.inl h
        · exact Or.inr ⟨g, cap, cur, e1, by omega, e3⟩
      · exact ⟨HD7.out.dr.2.1, HD7.out.dr.2.2.1, HD7.out.dr.2.2.2.1, by have := HD7.out.dr.2.size; simpa using this, fun k hk1 hk2 => (e9 k (by omega)).trans (HD7.out.dr.2.2.2.2.2 k hk1 hk2)⟩
    | true =>
      by_cases hn0 : 0 < zs.length
      case neg =>
        have hnz : ¬ (0 : Int) < (zs.length : Int) := by omega
        obtain ⟨⟨q0, q1⟩, _⟩ := row2_cells HD7.out.box
        obtain ⟨⟨o0, o1⟩, y0, y1⟩ := row2_cells HD7.out.o4
        have hbl : b5 < W7.heap.size := HD7.out.box.lt
        have hd1 : b5 ≠ w.heap.size := by have := HD7.out.lb; omega
        go_wp2_with fail
        have hle : w.heap.size ≤ w.heap.size := Nat.le_refl _
        have e9 : ∀ k, k ≠ w.heap.size → ((W7.setCell ⟨w.heap.size, 0, none⟩ (.int .i64 wt')).setCell ⟨w.heap.size, 1, none⟩ (.slice av zs.length kv)).heap[k]? = W7.heap[k]? := fun k hk => (Below.heap_setCell _ ⟨w.heap.size, 1, none⟩ _ _ hk).trans (Below.heap_setCell _ ⟨w.heap.size, 0, none⟩ _ _ hk)
        refine bodyPost_ret (v := btV wt' av zs.length kv) ?_ rfl ⟨⟨wt', av, kv, zs, rfl, HWB.out, rfl, ?_⟩, ⟨HD7.out.dr.1.keep (fun k hk => e9 k (by have := HD7.out.lt; omega)), ?_⟩⟩
        · obtain ⟨⟨a0, a1⟩, _⟩ := row2_cells (row2_put HD7.out.o4 (.int .i64 wt') (.slice av zs.length kv))
          simp only [results, Tryd.results47]
          simp [go_sem, a0, a1]
        · have h1 := HD7.out.own
          have h2 := ownFar (w' := (W7.setCell ⟨w.heap.size, 0, none⟩ (.int .i64 wt')).setCell ⟨w.heap.size, 1, none⟩ (.slice av zs.length kv)) h1 (fun k hk _ => e9 k (by have := (h1.lt k hk).1; omega))
          refine ⟨h2.1, ?_⟩
          rcases h2.2 with h | ⟨g, cap, cur, e1, e2, e3⟩
          · exact Or.inl h
          · exact Or.inr ⟨g, cap, cur, e1, by omega, e3⟩
        · exact ⟨HD7.out.dr.2.1, HD7.out.dr.2.2.1, HD7.out.dr.2.2.2.1, by have := HD7.out.dr.2.size; simpa using this, fun k hk1 hk2 => (e9 k (by omega)).trans (HD7.out.dr.2.2.2.2.2 k hk1 hk2)⟩
      have hnz : (0 : Int) < (zs.length : Int) := by omega
      have HN0 : Hid (0 < zs.length) := hn0
      obtain ⟨g, rfl⟩ : ∃ g, av = some ⟨g, 0, none⟩ := by
        rcases HD7.out.own.2 with ⟨h, h2⟩ | ⟨g, cap, cur, e1, _⟩
        · omega
        · exact ⟨g, by simp at e1; exact e1.1⟩
      go_wp2_with fail
      refine wp_region_held_drew (S := fun W => W.rowIs b5 28 2 (r2 (.int .i64 wt') (.slice (some ⟨g, 0, none⟩) zs.length kv))) (by kernel_rfl) (HD7.out.box.of_block rfl) (fun hHeld => ?_)
      have HD7d := Lib.hid HD7.out.drew
      clear HD7
      obtain ⟨Wz, hWz⟩ : ∃ Wz, Wz = W7.drew := ⟨_, rfl⟩
      rw [← hWz] at HD7d hHeld ⊢
      clear hWz
      refine take_do (i := 0) (v := (.pointer (some ⟨b5, 1, none⟩))) rfl (by kernel_rfl) (by kernel_rfl) (by kernel_rfl) (fun _ _ _ h => h) (by rfl) ?_ (by assumption) ?_
      · intro w hSw
        obtain ⟨⟨q0, q1⟩, _⟩ := row2_cells hSw
        go_simp
      simp only [Act.put, List.setIfInBounds_toArray, List.set_cons_zero, List.set_cons_succ]
      refine take_do (i := 1) (v := (.slice (some ⟨g, 0, none⟩) zs.length kv)) rfl (by kernel_rfl) (by kernel_rfl) (by kernel_rfl) (fun _ _ _ h => h) (by rfl) ?_ (by assumption) ?_
      · intro w hSw
        obtain ⟨⟨q0, q1⟩, _⟩ := row2_cells hSw
        go_simp
      simp only [Act.put, List.setIfInBounds_toArray, List.set_cons_zero, List.set_cons_succ]
      refine take_do (i := 2) (v := (.pointer (some ⟨sb, 0, none⟩))) rfl (by kernel_rfl) (by kernel_rfl) (by kernel_rfl) (fun _ _ _ h => h) (by rfl) ?_ (by assumption) ?_
      · intro w hSw
        obtain ⟨⟨q0, q1⟩, _⟩ := row2_cells hSw
        go_simp
      simp only [Act.put, List.setIfInBounds_toArray, List.set_cons_zero, List.set_cons_succ]
      refine take_do (i := 3) (v := (.int .i64 zs.length)) rfl (by kernel_rfl) (by kernel_rfl) (by kernel_rfl) (fun _ _ _ h => h) (by rfl) ?_ (by assumption) ?_
      · intro w hSw
        obtain ⟨⟨q0, q1⟩, _⟩ := row2_cells hSw
        go_simp
      simp only [Act.put, List.setIfInBounds_toArray, List.set_cons_zero, List.set_cons_succ]
      refine take_do (i := 6) (v := (.pointer (some ⟨sb, 0, none⟩))) rfl (by kernel_rfl) (by kernel_rfl) (by kernel_rfl) (fun _ _ _ h => h) (by rfl) ?_ (by assumption) ?_
      · intro w hSw
        obtain ⟨⟨q0, q1⟩, _⟩ := row2_cells hSw
        go_simp
      simp only [Act.put, List.setIfInBounds_toArray, List.set_cons_zero, List.set_cons_succ]
      refine wpAnyH_ready (rs := [4, 5]) (by kernel_rfl) (by simp) (AllReadyH.cons (at_drop (i := 4) rfl) (fun K2 hK => ?_) (AllReadyH.cons (at_drop (i := 5) rfl) (fun K2 hK => ?_) (AllReadyH.nil)))
      · go_simp
        refine (n_any sb zs.length _ HD7d.out.dr.1 (by omega)).mono ?_
        rintro e Wa ⟨⟨z4, rfl, z40, z41, z43⟩, hD⟩
        have z42 : z4 < (zs.length : Int) := by
          have h0 : 0 < zs.length := HN0.out
          by_cases h1 : (1 : Int) < (zs.length : Int)
          · exact z41 h1
          · have h2 := z43 (by omega)
            omega
        clear z43
        have Da := Lib.hid (HD7d.out.draw hD)
        clear hD z41
        go_wp2_with fail
        refine hK.out _ _ Da.out.box (fun hHeld2 => ?_)
        clear hK hHeld
        have hHeld := hHeld2
        clear hHeld2
        refine wpAnyH_ready (rs := [5, 7]) (by kernel_rfl) (by simp) (AllReadyH.cons (at_drop (i := 5) rfl) (fun K2 hK => ?_) (AllReadyH.cons (at_drop (i := 7) rfl) (fun K2 hK => ?_) (AllReadyH.nil)))
        · obtain ⟨Wb, hWb⟩ : ∃ Wb, Wb = Wa.alloc (.cells #[.int .i64 1000000000, .int .i64 1000000001, .int .i64 (-1)] 2) := ⟨_, rfl⟩
          have Db : Hid (DB w sb b5 wt' (.slice (some ⟨g, 0, none⟩) zs.length kv) zs Wb) := by show DB _ _ _ _ _ _ _; rw [hWb]; exact Da.out.alloc _
          have HG3 : Hid (Wb.heap[Wa.heap.size]? = some (.cells #[.int .i64 1000000000, .int .i64 1000000001, .int .i64 (-1)] 2)) := by show _ = _; rw [hWb]; exact blk_alloc_new _ _
          obtain ⟨g3, hg3⟩ : ∃ g3, g3 = Wa.heap.size := ⟨_, rfl⟩
          have HN3 : Hid (w.heap.size < g3) := by show _ < _; rw [hg3]; exact Da.out.o4.lt
          rw [← hg3] at HG3
          go_simp
          rw [← hWb, ← hg3]
          clear hg3 hWb
          refine hK.out _ _ Db.out.box (fun hHeld2 => ?_)
          clear hK hHeld
          have hHeld := hHeld2
          clear hHeld2
          refine take_call (i := 7) rfl (by kernel_rfl) (fun K2 hK => ?_)
          go_simp
          refine (n_any sb 3 _ Db.out.dr.1 (by omega)).mono ?_
          rintro e Wc ⟨⟨z7, rfl, z70, z71, _⟩, hD⟩
          have z72 := z71 (by omega)
          have Dc := Lib.hid (Db.out.draw hD)
          have HG3a : Hid (Wc.heap[g3]? = some (.cells #[.int .i64 1000000000, .int .i64 1000000001, .int .i64 (-1)] 2)) := (hD.2.2.2.2.2 g3 (Array.getElem?_eq_some_iff.1 HG3.out).1 (by have := HN3.out; have := HLT.out; omega)).trans HG3.out
          replace HG3 := HG3a
          clear HG3a
          clear hD z71
          go_wp2_with fail
          refine hK.out _ _ Dc.out.box (fun hHeld2 => ?_)
          clear hK hHeld
          have hHeld := hHeld2
          clear hHeld2
          refine take_do (i := 8) (v := (.pointer (some ⟨g3, z7.toNat, none⟩))) rfl (by kernel_rfl) (by kernel_rfl) (by kernel_rfl) (fun _ _ _ h => h) (by rfl) ?_ (by assumption) ?_
          · intro w hSw
            obtain ⟨⟨q0, q1⟩, _⟩ := row2_cells hSw
            go_simp
          simp only [Act.put, List.setIfInBounds_toArray, List.set_cons_zero, List.set_cons_succ]
          obtain ⟨xv, hxv, _⟩ := oneOfW (W' := Wc) (n := 3) _ _ three_ok HG3.out rfl (fun _ _ => rfl) z70 (by omega)
          refine take_call (i := 9) rfl (by kernel_rfl) (fun K2 hK => ?_)
          go_simp
          refine hK.out _ _ Dc.out.box (fun hHeld2 => ?_)
          clear hK hHeld
          have hHeld := hHeld2
          clear hHeld2
          clear hxv
          refine take_do (i := 10) (v := (.pointer (some ⟨g, z4.toNat, none⟩))) rfl (by kernel_rfl) (by kernel_rfl) (by kernel_rfl) (fun _ _ _ h => h) (by rfl) ?_ (by assumption) ?_
          · intro w hSw
            obtain ⟨⟨q0, q1⟩, _⟩ := row2_cells hSw
            go_simp
          simp only [Act.put, List.setIfInBounds_toArray, List.set_cons_zero, List.set_cons_succ]
          have hzl : z4.toNat < zs.length := by have := HN0.out; omega
          have hcell : ∃ u, Wc.cell? ⟨g, z4.toNat, none⟩ = some u := by
            rcases own_ints Dc.out.own with ⟨h, _⟩ | ⟨g', cap', e1, _, hblk⟩
            · cases h
            · simp at e1
              obtain ⟨rfl, _⟩ := e1
              exact ⟨_, hblk.cell hzl⟩
          obtain ⟨u, hu⟩ := hcell
          have hfz : Wc.frozen? ⟨g, z4.toNat, none⟩ = false := by
            rcases own_ints Dc.out.own with ⟨h, _⟩ | ⟨g', cap', e1, _, hblk⟩
            · cases h
            · simp at e1
              obtain ⟨rfl, _⟩ := e1
              exact hblk.frozen _
          have Ds := Lib.hid (Dc.out.set (i := z4.toNat) (x := xv))
          refine take_call (i := 11) rfl (by kernel_rfl) (fun K2 hK => ?_)
          go_simp
          refine hK.out _ _ Ds.out.box (fun hHeld2 => ?_)
          clear hK hHeld hHeld2 hu hfz Dc
          refine wpAnyH_done (by kernel_rfl) ?_ _
          obtain ⟨W8, hW8⟩ : ∃ W8, W8 = Wc.setCell ⟨g, z4.toNat, none⟩ (.int .i64 xv) := ⟨_, rfl⟩
          rw [← hW8] at Ds ⊢
          clear hW8
          obtain ⟨⟨q0, q1⟩, _⟩ := row2_cells Ds.out.box
          obtain ⟨⟨o0, o1⟩, y0, y1⟩ := row2_cells Ds.out.o4
          have hbl : b5 < W8.heap.size := Ds.out.box.lt
          have hd1 : b5 ≠ w.heap.size := by have := Ds.out.lb; omega
          go_wp2_with fail
          have hle : w.heap.size ≤ w.heap.size := Nat.le_refl _
          have e9 : ∀ k, k ≠ w.heap.size → ((W8.setCell ⟨w.heap.size, 0, none⟩ (.int .i64 wt')).setCell ⟨w.heap.size, 1, none⟩ (.slice (some ⟨g, 0, none⟩) zs.length kv)).heap[k]? = W8.heap[k]? := fun k hk => (Below.heap_setCell _ ⟨w.heap.size, 1, none⟩ _ _ hk).trans (Below.heap_setCell _ ⟨w.heap.size, 0, none⟩ _ _ hk)
          refine bodyPost_ret (v := btV wt' (some ⟨g, 0, none⟩) zs.length kv) ?_ rfl ⟨⟨wt', some ⟨g, 0, none⟩, kv, zs.set z4.toNat xv, rfl, HWB.out, by simp, ?_⟩, ⟨Ds.out.dr.1.keep (fun k hk => e9 k (by have := Ds.out.lt; omega)), ?_⟩⟩
          · obtain ⟨⟨a0, a1⟩, _⟩ := row2_cells (row2_put Ds.out.o4 (.int .i64 wt') (.slice (some ⟨g, 0, none⟩) zs.length kv))
            simp only [results, Tryd.results47]
            simp [go_sem, a0, a1]
          · have h1 := (by have h0 := Ds.out.own; rw [List.length_set] at h0; exact h0 : W8.ownsRow (w.heap.size + 1) 2 1 (.slice (some ⟨g, 0, none⟩) zs.length kv) zs.length ((zs.set z4.toNat xv).map (Value.int .i64)))
            have h2 := ownFar (w' := (W8.setCell ⟨w.heap.size, 0, none⟩ (.int .i64 wt')).setCell ⟨w.heap.size, 1, none⟩ (.slice (some ⟨g, 0, none⟩) zs.length kv)) h1 (fun k hk _ => e9 k (by have := (h1.lt k hk).1; omega))
            refine ⟨h2.1, ?_⟩
            rcases h2.2 with h | ⟨g, cap, cur, e1, e2, e3⟩
            · exact Or.inl h
            · exact Or.inr ⟨g, cap, cur, e1, by omega, e3⟩
          · exact ⟨Ds.out.dr.2.1, Ds.out.dr.2.2.1, Ds.out.dr.2.2.2.1, by have := Ds.out.dr.2.size; simpa using this, fun k hk1 hk2 => (e9 k (by omega)).trans (Ds.out.dr.2.2.2.2.2 k hk1 hk2)⟩
        · go_simp
          refine (n_any sb 3 _ Da.out.dr.1 (by omega)).mono ?_
          rintro e Wc ⟨⟨z7, rfl, z70, z71, _⟩, hD⟩
          have z72 := z71 (by omega)
          have Dc := Lib.hid (Da.out.draw hD)
          clear hD z71
          go_wp2_with fail
          refine hK.out _ _ Dc.out.box (fun hHeld2 => ?_)
          clear hK hHeld
          have hHeld := hHeld2
          clear hHeld2
          refine take_call (i := 5) rfl (by kernel_rfl) (fun K2 hK => ?_)
          obtain ⟨Wb, hWb⟩ : ∃ Wb, Wb = Wc.alloc (.cells #[.int .i64 1000000000, .int .i64 1000000001, .int .i64 (-1)] 2) := ⟨_, rfl⟩
          have Db : Hid (DB w sb b5 wt' (.slice (some ⟨g, 0, none⟩) zs.length kv) zs Wb) := by show DB _ _ _ _ _ _ _; rw [hWb]; exact Dc.out.alloc _
          have HG3 : Hid (Wb.heap[Wc.heap.size]? = some (.cells #[.int .i64 1000000000, .int .i64 1000000001, .int .i64 (-1)] 2)) := by show _ = _; rw [hWb]; exact blk_alloc_new _ _
          obtain ⟨g3, hg3⟩ : ∃ g3, g3 = Wc.heap.size := ⟨_, rfl⟩
          have HN3 : Hid (w.heap.size < g3) := by show _ < _; rw [hg3]; exact Dc.out.o4.lt
          rw [← hg3] at HG3
          go_simp
          rw [← hWb, ← hg3]
          clear hg3 hWb
          refine hK.out _ _ Db.out.box (fun hHeld2 => ?_)
          clear hK hHeld
          have hHeld := hHeld2
          clear hHeld2
          refine take_do (i := 8) (v := (.pointer (some ⟨g3, z7.toNat, none⟩))) rfl (by kernel_rfl) (by kernel_rfl) (by kernel_rfl) (fun _ _ _ h => h) (by rfl) ?_ (by assumption) ?_
          · intro w hSw
            obtain ⟨⟨q0, q1⟩, _⟩ := row2_cells hSw
            go_simp
          simp only [Act.put, List.setIfInBounds_toArray, List.set_cons_zero, List.set_cons_succ]
          obtain ⟨xv, hxv, _⟩ := oneOfW (W' := Wb) (n := 3) _ _ three_ok HG3.out rfl (fun _ _ => rfl) z70 (by omega)
          refine take_call (i := 9) rfl (by kernel_rfl) (fun K2 hK => ?_)
          go_simp
          refine hK.out _ _ Db.out.box (fun hHeld2 => ?_)
          clear hK hHeld
          have hHeld := hHeld2
          clear hHeld2
          clear hxv
          refine take_do (i := 10) (v := (.pointer (some ⟨g, z4.toNat, none⟩))) rfl (by kernel_rfl) (by kernel_rfl) (by kernel_rfl) (fun _ _ _ h => h) (by rfl) ?_ (by assumption) ?_
          · intro w hSw
            obtain ⟨⟨q0, q1⟩, _⟩ := row2_cells hSw
            go_simp
          simp only [Act.put, List.setIfInBounds_toArray, List.set_cons_zero, List.set_cons_succ]
          have hzl : z4.toNat < zs.length := by have := HN0.out; omega
          have hcell : ∃ u, Wb.cell? ⟨g, z4.toNat, none⟩ = some u := by
            rcases own_ints Db.out.own with ⟨h, _⟩ | ⟨g', cap', e1, _, hblk⟩
            · cases h
            · simp at e1
              obtain ⟨rfl, _⟩ := e1
              exact ⟨_, hblk.cell hzl⟩
          obtain ⟨u, hu⟩ := hcell
          have hfz : Wb.frozen? ⟨g, z4.toNat, none⟩ = false := by
            rcases own_ints Db.out.own with ⟨h, _⟩ | ⟨g', cap', e1, _, hblk⟩
            · cases h
            · simp at e1
              obtain ⟨rfl, _⟩ := e1
              exact hblk.frozen _
          have Ds := Lib.hid (Db.out.set (i := z4.toNat) (x := xv))
          refine take_call (i := 11) rfl (by kernel_rfl) (fun K2 hK => ?_)
          go_simp
          refine hK.out _ _ Ds.out.box (fun hHeld2 => ?_)
          clear hK hHeld hHeld2 hu hfz Db
          refine wpAnyH_done (by kernel_rfl) ?_ _
          obtain ⟨W8, hW8⟩ : ∃ W8, W8 = Wb.setCell ⟨g, z4.toNat, none⟩ (.int .i64 xv) := ⟨_, rfl⟩
          rw [← hW8] at Ds ⊢
          clear hW8
          obtain ⟨⟨q0, q1⟩, _⟩ := row2_cells Ds.out.box
          obtain ⟨⟨o0, o1⟩, y0, y1⟩ := row2_cells Ds.out.o4
          have hbl : b5 < W8.heap.size := Ds.out.box.lt
          have hd1 : b5 ≠ w.heap.size := by have := Ds.out.lb; omega
          go_wp2_with fail
          have hle : w.heap.size ≤ w.heap.size := Nat.le_refl _
          have e9 : ∀ k, k ≠ w.heap.size → ((W8.setCell ⟨w.heap.size, 0, none⟩ (.int .i64 wt')).setCell ⟨w.heap.size, 1, none⟩ (.slice (some ⟨g, 0, none⟩) zs.length kv)).heap[k]? = W8.heap[k]? := fun k hk => (Below.heap_setCell _ ⟨w.heap.size, 1, none⟩ _ _ hk).trans (Below.heap_setCell _ ⟨w.heap.size, 0, none⟩ _ _ hk)
          refine bodyPost_ret (v := btV wt' (some ⟨g, 0, none⟩) zs.length kv) ?_ rfl ⟨⟨wt', some ⟨g, 0, none⟩, kv, zs.set z4.toNat xv, rfl, HWB.out, by simp, ?_⟩, ⟨Ds.out.dr.1.keep (fun k hk => e9 k (by have := Ds.out.lt; omega)), ?_⟩⟩
          · obtain ⟨⟨a0, a1⟩, _⟩ := row2_cells (row2_put Ds.out.o4 (.int .i64 wt') (.slice (some ⟨g, 0, none⟩) zs.length kv))
            simp only [results, Tryd.results47]
            simp [go_sem, a0, a1]
          · have h1 := (by have h0 := Ds.out.own; rw [List.length_set] at h0; exact h0 : W8.ownsRow (w.heap.size + 1) 2 1 (.slice (some ⟨g, 0, none⟩) zs.length kv) zs.length ((zs.set z4.toNat xv).map (Value.int .i64)))
            have h2 := ownFar (w' := (W8.setCell ⟨w.heap.size, 0, none⟩ (.int .i64 wt')).setCell ⟨w.heap.size, 1, none⟩ (.slice (some ⟨g, 0, none⟩) zs.length kv)) h1 (fun k hk _ => e9 k (by have := (h1.lt k hk).1; omega))
            refine ⟨h2.1, ?_⟩
            rcases h2.2 with h | ⟨g, cap, cur, e1, e2, e3⟩
            · exact Or.inl h
            · exact Or.inr ⟨g, cap, cur, e1, by omega, e3⟩
          · exact ⟨Ds.out.dr.2.1, Ds.out.dr.2.2.1, Ds.out.dr.2.2.2.1, by have := Ds.out.dr.2.size; simpa using this, fun k hk1 hk2 => (e9 k (by omega)).trans (Ds.out.dr.2.2.2.2.2 k hk1 hk2)⟩
      · obtain ⟨Wb, hWb⟩ : ∃ Wb, Wb = Wz.alloc (.cells #[.int .i64 1000000000, .int .i64 1000000001, .int .i64 (-1)] 2) := ⟨_, rfl⟩
        have Db : Hid (DB w sb b5 wt' (.slice (some ⟨g, 0, none⟩) zs.length kv) zs Wb) := by show DB _ _ _ _ _ _ _; rw [hWb]; exact HD7d.out.alloc _
        have HG3 : Hid (Wb.heap[Wz.heap.size]? = some (.cells #[.int .i64 1000000000, .int .i64 1000000001, .int .i64 (-1)] 2)) := by show _ = _; rw [hWb]; exact blk_alloc_new _ _
        obtain ⟨g3, hg3⟩ : ∃ g3, g3 = Wz.heap.size := ⟨_, rfl⟩
        have HN3 : Hid (w.heap.size < g3) := by show _ < _; rw [hg3]; exact HD7d.out.o4.lt
        rw [← hg3] at HG3
        go_simp
        rw [← hWb, ← hg3]
        clear hg3 hWb
        refine hK.out _ _ Db.out.box (fun hHeld2 => ?_)
        clear hK hHeld
        have hHeld := hHeld2
        clear hHeld2
        refine take_call (i := 4) rfl (by kernel_rfl) (fun K2 hK => ?_)
        go_simp
        refine (n_any sb zs.length _ Db.out.dr.1 (by omega)).mono ?_
        rintro e Wa ⟨⟨z4, rfl, z40, z41, z43⟩, hD⟩
        have z42 : z4 < (zs.length : Int) := by
          have h0 : 0 < zs.length := HN0.out
          by_cases h1 : (1 : Int) < (zs.length : Int)
          · exact z41 h1
          · have h2 := z43 (by omega)
            omega
        clear z43
        have Da := Lib.hid (Db.out.draw hD)
        have HG3a : Hid (Wa.heap[g3]? = some (.cells #[.int .i64 1000000000, .int .i64 1000000001, .int .i64 (-1)] 2)) := (hD.2.2.2.2.2 g3 (Array.getElem?_eq_some_iff.1 HG3.out).1 (by have := HN3.out; have := HLT.out; omega)).trans HG3.out
        replace HG3 := HG3a
        clear HG3a
        clear hD z41
        go_wp2_with fail
        refine hK.out _ _ Da.out.box (fun hHeld2 => ?_)
        clear hK hHeld
        have hHeld := hHeld2
        clear hHeld2
        refine take_call (i := 7) rfl (by kernel_rfl) (fun K2 hK => ?_)
        go_simp
        refine (n_any sb 3 _ Da.out.dr.1 (by omega)).mono ?_
        rintro e Wc ⟨⟨z7, rfl, z70, z71, _⟩, hD⟩
        have z72 := z71 (by omega)
        have Dc := Lib.hid (Da.out.draw hD)
        have HG3a : Hid (Wc.heap[g3]? = some (.cells #[.int .i64 1000000000, .int .i64 1000000001, .int .i64 (-1)] 2)) := (hD.2.2.2.2.2 g3 (Array.getElem?_eq_some_iff.1 HG3.out).1 (by have := HN3.out; have := HLT.out; omega)).trans HG3.out
        replace HG3 := HG3a
        clear HG3a
        clear hD z71
        go_wp2_with fail
        refine hK.out _ _ Dc.out.box (fun hHeld2 => ?_)
        clear hK hHeld
        have hHeld := hHeld2
        clear hHeld2
        refine take_do (i := 8) (v := (.pointer (some ⟨g3, z7.toNat, none⟩))) rfl (by kernel_rfl) (by kernel_rfl) (by kernel_rfl) (fun _ _ _ h => h) (by rfl) ?_ (by assumption) ?_
        · intro w hSw
          obtain ⟨⟨q0, q1⟩, _⟩ := row2_cells hSw
          go_simp
        simp only [Act.put, List.setIfInBounds_toArray, List.set_cons_zero, List.set_cons_succ]
        obtain ⟨xv, hxv, _⟩ := oneOfW (W' := Wc) (n := 3) _ _ three_ok HG3.out rfl (fun _ _ => rfl) z70 (by omega)
        refine take_call (i := 9) rfl (by kernel_rfl) (fun K2 hK => ?_)
        go_simp
        refine hK.out _ _ Dc.out.box (fun hHeld2 => ?_)
        clear hK hHeld
        have hHeld := hHeld2
        clear hHeld2
        clear hxv
        refine take_do (i := 10) (v := (.pointer (some ⟨g, z4.toNat, none⟩))) rfl (by kernel_rfl) (by kernel_rfl) (by kernel_rfl) (fun _ _ _ h => h) (by rfl) ?_ (by assumption) ?_
        · intro w hSw
          obtain ⟨⟨q0, q1⟩, _⟩ := row2_cells hSw
          go_simp
        simp only [Act.put, List.setIfInBounds_toArray, List.set_cons_zero, List.set_cons_succ]
        have hzl : z4.toNat < zs.length := by have := HN0.out; omega
        have hcell : ∃ u, Wc.cell? ⟨g, z4.toNat, none⟩ = some u := by
          rcases own_ints Dc.out.own with ⟨h, _⟩ | ⟨g', cap', e1, _, hblk⟩
          · cases h
          · simp at e1
            obtain ⟨rfl, _⟩ := e1
            exact ⟨_, hblk.cell hzl⟩
        obtain ⟨u, hu⟩ := hcell
        have hfz : Wc.frozen? ⟨g, z4.toNat, none⟩ = false := by
          rcases own_ints Dc.out.own with ⟨h, _⟩ | ⟨g', cap', e1, _, hblk⟩
          · cases h
          · simp at e1
            obtain ⟨rfl, _⟩ := e1
            exact hblk.frozen _
        have Ds := Lib.hid (Dc.out.set (i := z4.toNat) (x := xv))
        refine take_call (i := 11) rfl (by kernel_rfl) (fun K2 hK => ?_)
        go_simp
        refine hK.out _ _ Ds.out.box (fun hHeld2 => ?_)
        clear hK hHeld hHeld2 hu hfz Dc
        refine wpAnyH_done (by kernel_rfl) ?_ _
        obtain ⟨W8, hW8⟩ : ∃ W8, W8 = Wc.setCell ⟨g, z4.toNat, none⟩ (.int .i64 xv) := ⟨_, rfl⟩
        rw [← hW8] at Ds ⊢
        clear hW8
        obtain ⟨⟨q0, q1⟩, _⟩ := row2_cells Ds.out.box
        obtain ⟨⟨o0, o1⟩, y0, y1⟩ := row2_cells Ds.out.o4
        have hbl : b5 < W8.heap.size := Ds.out.box.lt
        have hd1 : b5 ≠ w.heap.size := by have := Ds.out.lb; omega
        go_wp2_with fail
        have hle : w.heap.size ≤ w.heap.size := Nat.le_refl _
        have e9 : ∀ k, k ≠ w.heap.size → ((W8.setCell ⟨w.heap.size, 0, none⟩ (.int .i64 wt')).setCell ⟨w.heap.size, 1, none⟩ (.slice (some ⟨g, 0, none⟩) zs.length kv)).heap[k]? = W8.heap[k]? := fun k hk => (Below.heap_setCell _ ⟨w.heap.size, 1, none⟩ _ _ hk).trans (Below.heap_setCell _ ⟨w.heap.size, 0, none⟩ _ _ hk)
        refine bodyPost_ret (v := btV wt' (some ⟨g, 0, none⟩) zs.length kv) ?_ rfl ⟨⟨wt', some ⟨g, 0, none⟩, kv, zs.set z4.toNat xv, rfl, HWB.out, by simp, ?_⟩, ⟨Ds.out.dr.1.keep (fun k hk => e9 k (by have := Ds.out.lt; omega)), ?_⟩⟩
        · obtain ⟨⟨a0, a1⟩, _⟩ := row2_cells (row2_put Ds.out.o4 (.int .i64 wt') (.slice (some ⟨g, 0, none⟩) zs.length kv))
          simp only [results, Tryd.results47]
          simp [go_sem, a0, a1]
        · have h1 := (by have h0 := Ds.out.own; rw [List.length_set] at h0; exact h0 : W8.ownsRow (w.heap.size + 1) 2 1 (.slice (some ⟨g, 0, none⟩) zs.length kv) zs.length ((zs.set z4.toNat xv).map (Value.int .i64)))
          have h2 := ownFar (w' := (W8.setCell ⟨w.heap.size, 0, none⟩ (.int .i64 wt')).setCell ⟨w.heap.size, 1, none⟩ (.slice (some ⟨g, 0, none⟩) zs.length kv)) h1 (fun k hk _ => e9 k (by have := (h1.lt k hk).1; omega))
          refine ⟨h2.1, ?_⟩
          rcases h2.2 with h | ⟨g, cap, cur, e1, e2, e3⟩
          · exact Or.inl h
          · exact Or.inr ⟨g, cap, cur, e1, by omega, e3⟩
        · exact ⟨Ds.out.dr.2.1, Ds.out.dr.2.2.1, Ds.out.dr.2.2.2.1, by have := Ds.out.dr.2.size; simpa using this, fun k hk1 hk2 => (e9 k (by omega)).trans (Ds.out.dr.2.2.2.2.2 k hk1 hk2)⟩
  | false =>
    have HD6 := HDB4
    obtain ⟨W6, hW6⟩ : ∃ W6, W6 = W4 := ⟨_, rfl⟩
    rw [← hW6] at HD6 ⊢
    clear hW6 HDB4
    obtain ⟨wt', hwt'⟩ : ∃ y, y = wt := ⟨_, rfl⟩
    rw [← hwt'] at HD6
    have HWB : Hid (-1 ≤ wt' ∧ wt' ≤ 1000000001) := by rw [hwt']; exact HWT.out
    clear hwt'
    go_wp2_with fail
    refine (one_any sb 40 _ HD6.out.dr.1 (by omega)).mono ?_
    rintro e W7 ⟨⟨c2, rfl⟩, hD⟩
    have HD7 := Lib.hid (HD6.out.draw hD)
    clear hD HD6
    cases c2 with
    | false =>
      obtain ⟨⟨q0, q1⟩, _⟩ := row2_cells HD7.out.box
      obtain ⟨⟨o0, o1⟩, y0, y1⟩ := row2_cells HD7.out.o4
      have hbl : b5 < W7.heap.size := HD7.out.box.lt
      have hd1 : b5 ≠ w.heap.size := by have := HD7.out.lb; omega
      go_wp2_with fail
      have hle : w.heap.size ≤ w.heap.size := Nat.le_refl _
      have e9 : ∀ k, k ≠ w.heap.size → ((W7.setCell ⟨w.heap.size, 0, none⟩ (.int .i64 wt')).setCell ⟨w.heap.size, 1, none⟩ (.slice av zs.length kv)).heap[k]? = W7.heap[k]? := fun k hk => (Below.heap_setCell _ ⟨w.heap.size, 1, none⟩ _ _ hk).trans (Below.heap_setCell _ ⟨w.heap.size, 0, none⟩ _ _ hk)
      refine bodyPost_ret (v := btV wt' av zs.length kv) ?_ rfl ⟨⟨wt', av, kv, zs, rfl, HWB.out, rfl, ?_⟩, ⟨HD7.out.dr.1.keep (fun k hk => e9 k (by have := HD7.out.lt; omega)), ?_⟩⟩
      · obtain ⟨⟨a0, a1⟩, _⟩ := row2_cells (row2_put HD7.out.o4 (.int .i64 wt') (.slice av zs.length kv))
        simp only [results, Tryd.results47]
        simp [go_sem, a0, a1]
      · have h1 := HD7.out.own
        have h2 := ownFar (w' := (W7.setCell ⟨w.heap.size, 0, none⟩ (.int .i64 wt')).setCell ⟨w.heap.size, 1, none⟩ (.slice av zs.length kv)) h1 (fun k hk _ => e9 k (by have := (h1.lt k hk).1; omega))
        refine ⟨h2.1, ?_⟩
        rcases h2.2 with h | ⟨g, cap, cur, e1, e2, e3⟩
        · exact Or.inl h
        · exact Or.inr ⟨g, cap, cur, e1, by omega, e3⟩
      · exact ⟨HD7.out.dr.2.1, HD7.out.dr.2.2.1, HD7.out.dr.2.2.2.1, by have := HD7.out.dr.2.size; simpa using this, fun k hk1 hk2 => (e9 k (by omega)).trans (HD7.out.dr.2.2.2.2.2 k hk1 hk2)⟩
    | true =>
      by_cases hn0 : 0 < zs.length
      case neg =>
        have hnz : ¬ (0 : Int) < (zs.length : Int) := by omega
        obtain ⟨⟨q0, q1⟩, _⟩ := row2_cells HD7.out.box
        obtain ⟨⟨o0, o1⟩, y0, y1⟩ := row2_cells HD7.out.o4
        have hbl : b5 < W7.heap.size := HD7.out.box.lt
        have hd1 : b5 ≠ w.heap.size := by have := HD7.out.lb; omega
        go_wp2_with fail
        have hle : w.heap.size ≤ w.heap.size := Nat.le_refl _
        have e9 : ∀ k, k ≠ w.heap.size → ((W7.setCell ⟨w.heap.size, 0, none⟩ (.int .i64 wt')).setCell ⟨w.heap.size, 1, none⟩ (.slice av zs.length kv)).heap[k]? = W7.heap[k]? := fun k hk => (Below.heap_setCell _ ⟨w.heap.size, 1, none⟩ _ _ hk).trans (Below.heap_setCell _ ⟨w.heap.size, 0, none⟩ _ _ hk)
        refine bodyPost_ret (v := btV wt' av zs.length kv) ?_ rfl ⟨⟨wt', av, kv, zs, rfl, HWB.out, rfl, ?_⟩, ⟨HD7.out.dr.1.keep (fun k hk => e9 k (by have := HD7.out.lt; omega)), ?_⟩⟩
        · obtain ⟨⟨a0, a1⟩, _⟩ := row2_cells (row2_put HD7.out.o4 (.int .i64 wt') (.slice av zs.length kv))
          simp only [results, Tryd.results47]
          simp [go_sem, a0, a1]
        · have h1 := HD7.out.own
          have h2 := ownFar (w' := (W7.setCell ⟨w.heap.size, 0, none⟩ (.int .i64 wt')).setCell ⟨w.heap.size, 1, none⟩ (.slice av zs.length kv)) h1 (fun k hk _ => e9 k (by have := (h1.lt k hk).1; omega))
          refine ⟨h2.1, ?_⟩
          rcases h2.2 with h | ⟨g, cap, cur, e1, e2, e3⟩
          · exact Or.inl h
          · exact Or.inr ⟨g, cap, cur, e1, by omega, e3⟩
        · exact ⟨HD7.out.dr.2.1, HD7.out.dr.2.2.1, HD7.out.dr.2.2.2.1, by have := HD7.out.dr.2.size; simpa using this, fun k hk1 hk2 => (e9 k (by omega)).trans (HD7.out.dr.2.2.2.2.2 k hk1 hk2)⟩
      have hnz : (0 : Int) < (zs.length : Int) := by omega
      have HN0 : Hid (0 < zs.length) := hn0
      obtain ⟨g, rfl⟩ : ∃ g, av = some ⟨g, 0, none⟩ := by
        rcases HD7.out.own.2 with ⟨h, h2⟩ | ⟨g, cap, cur, e1, _⟩
        · omega
        · exact ⟨g, by simp at e1; exact e1.1⟩
      go_wp2_with fail
      refine wp_region_held_drew (S := fun W => W.rowIs b5 28 2 (r2 (.int .i64 wt') (.slice (some ⟨g, 0, none⟩) zs.length kv))) (by kernel_rfl) (HD7.out.box.of_block rfl) (fun hHeld => ?_)
      have HD7d := Lib.hid HD7.out.drew
      clear HD7
      obtain ⟨Wz, hWz⟩ : ∃ Wz, Wz = W7.drew := ⟨_, rfl⟩
      rw [← hWz] at HD7d hHeld ⊢
      clear hWz
      refine take_do (i := 0) (v := (.pointer (some ⟨b5, 1, none⟩))) rfl (by kernel_rfl) (by kernel_rfl) (by kernel_rfl) (fun _ _ _ h => h) (by rfl) ?_ (by assumption) ?_
      · intro w hSw
        obtain ⟨⟨q0, q1⟩, _⟩ := row2_cells hSw
        go_simp
      simp only [Act.put, List.setIfInBounds_toArray, List.set_cons_zero, List.set_cons_succ]
      refine take_do (i := 1) (v := (.slice (some ⟨g, 0, none⟩) zs.length kv)) rfl (by kernel_rfl) (by kernel_rfl) (by kernel_rfl) (fun _ _ _ h => h) (by rfl) ?_ (by assumption) ?_
      · intro w hSw
        obtain ⟨⟨q0, q1⟩, _⟩ := row2_cells hSw
        go_simp
      simp only [Act.put, List.setIfInBounds_toArray, List.set_cons_zero, List.set_cons_succ]
      refine take_do (i := 2) (v := (.pointer (some ⟨sb, 0, none⟩))) rfl (by kernel_rfl) (by kernel_rfl) (by kernel_rfl) (fun _ _ _ h => h) (by rfl) ?_ (by assumption) ?_
      · intro w hSw
        obtain ⟨⟨q0, q1⟩, _⟩ := row2_cells hSw
        go_simp
      simp only [Act.put, List.setIfInBounds_toArray, List.set_cons_zero, List.set_cons_succ]
      refine take_do (i := 3) (v := (.int .i64 zs.length)) rfl (by kernel_rfl) (by kernel_rfl) (by kernel_rfl) (fun _ _ _ h => h) (by rfl) ?_ (by assumption) ?_
      · intro w hSw
        obtain ⟨⟨q0, q1⟩, _⟩ := row2_cells hSw
        go_simp
      simp only [Act.put, List.setIfInBounds_toArray, List.set_cons_zero, List.set_cons_succ]
      refine take_do (i := 6) (v := (.pointer (some ⟨sb, 0, none⟩))) rfl (by kernel_rfl) (by kernel_rfl) (by kernel_rfl) (fun _ _ _ h => h) (by rfl) ?_ (by assumption) ?_
      · intro w hSw
        obtain ⟨⟨q0, q1⟩, _⟩ := row2_cells hSw
        go_simp
      simp only [Act.put, List.setIfInBounds_toArray, List.set_cons_zero, List.set_cons_succ]
      refine wpAnyH_ready (rs := [4, 5]) (by kernel_rfl) (by simp) (AllReadyH.cons (at_drop (i := 4) rfl) (fun K2 hK => ?_) (AllReadyH.cons (at_drop (i := 5) rfl) (fun K2 hK => ?_) (AllReadyH.nil)))
      · go_simp
        refine (n_any sb zs.length _ HD7d.out.dr.1 (by omega)).mono ?_
        rintro e Wa ⟨⟨z4, rfl, z40, z41, z43⟩, hD⟩
        have z42 : z4 < (zs.length : Int) := by
          have h0 : 0 < zs.length := HN0.out
          by_cases h1 : (1 : Int) < (zs.length : Int)
          · exact z41 h1
          · have h2 := z43 (by omega)
            omega
        clear z43
        have Da := Lib.hid (HD7d.out.draw hD)
        clear hD z41
        go_wp2_with fail
        refine hK.out _ _ Da.out.box (fun hHeld2 => ?_)
        clear hK hHeld
        have hHeld := hHeld2
        clear hHeld2
        refine wpAnyH_ready (rs := [5, 7]) (by kernel_rfl) (by simp) (AllReadyH.cons (at_drop (i := 5) rfl) (fun K2 hK => ?_) (AllReadyH.cons (at_drop (i := 7) rfl) (fun K2 hK => ?_) (AllReadyH.nil)))
        · obtain ⟨Wb, hWb⟩ : ∃ Wb, Wb = Wa.alloc (.cells #[.int .i64 1000000000, .int .i64 1000000001, .int .i64 (-1)] 2) := ⟨_, rfl⟩
          have Db : Hid (DB w sb b5 wt' (.slice (some ⟨g, 0, none⟩) zs.length kv) zs Wb) := by show DB _ _ _ _ _ _ _; rw [hWb]; exact Da.out.alloc _
          have HG3 : Hid (Wb.heap[Wa.heap.size]? = some (.cells #[.int .i64 1000000000, .int .i64 1000000001, .int .i64 (-1)] 2)) := by show _ = _; rw [hWb]; exact blk_alloc_new _ _
          obtain ⟨g3, hg3⟩ : ∃ g3, g3 = Wa.heap.size := ⟨_, rfl⟩
          have HN3 : Hid (w.heap.size < g3) := by show _ < _; rw [hg3]; exact Da.out.o4.lt
          rw [← hg3] at HG3
          go_simp
          rw [← hWb, ← hg3]
          clear hg3 hWb
          refine hK.out _ _ Db.out.box (fun hHeld2 => ?_)
          clear hK hHeld
          have hHeld := hHeld2
          clear hHeld2
          refine take_call (i := 7) rfl (by kernel_rfl) (fun K2 hK => ?_)
          go_simp
          refine (n_any sb 3 _ Db.out.dr.1 (by omega)).mono ?_
          rintro e Wc ⟨⟨z7, rfl, z70, z71, _⟩, hD⟩
          have z72 := z71 (by omega)
          have Dc := Lib.hid (Db.out.draw hD)
          have HG3a : Hid (Wc.heap[g3]? = some (.cells #[.int .i64 1000000000, .int .i64 1000000001, .int .i64 (-1)] 2)) := (hD.2.2.2.2.2 g3 (Array.getElem?_eq_some_iff.1 HG3.out).1 (by have := HN3.out; have := HLT.out; omega)).trans HG3.out
          replace HG3 := HG3a
          clear HG3a
          clear hD z71
          go_wp2_with fail
          refine hK.out _ _ Dc.out.box (fun hHeld2 => ?_)
          clear hK hHeld
          have hHeld := hHeld2
          clear hHeld2
          refine take_do (i := 8) (v := (.pointer (some ⟨g3, z7.toNat, none⟩))) rfl (by kernel_rfl) (by kernel_rfl) (by kernel_rfl) (fun _ _ _ h => h) (by rfl) ?_ (by assumption) ?_
          · intro w hSw
            obtain ⟨⟨q0, q1⟩, _⟩ := row2_cells hSw
            go_simp
          simp only [Act.put, List.setIfInBounds_toArray, List.set_cons_zero, List.set_cons_succ]
          obtain ⟨xv, hxv, _⟩ := oneOfW (W' := Wc) (n := 3) _ _ three_ok HG3.out rfl (fun _ _ => rfl) z70 (by omega)
          refine take_call (i := 9) rfl (by kernel_rfl) (fun K2 hK => ?_)
          go_simp
          refine hK.out _ _ Dc.out.box (fun hHeld2 => ?_)
          clear hK hHeld
          have hHeld := hHeld2
          clear hHeld2
          clear hxv
          refine take_do (i := 10) (v := (.pointer (some ⟨g, z4.toNat, none⟩))) rfl (by kernel_rfl) (by kernel_rfl) (by kernel_rfl) (fun _ _ _ h => h) (by rfl) ?_ (by assumption) ?_
          · intro w hSw
            obtain ⟨⟨q0, q1⟩, _⟩ := row2_cells hSw
            go_simp
          simp only [Act.put, List.setIfInBounds_toArray, List.set_cons_zero, List.set_cons_succ]
          have hzl : z4.toNat < zs.length := by have := HN0.out; omega
          have hcell : ∃ u, Wc.cell? ⟨g, z4.toNat, none⟩ = some u := by
            rcases own_ints Dc.out.own with ⟨h, _⟩ | ⟨g', cap', e1, _, hblk⟩
            · cases h
            · simp at e1
              obtain ⟨rfl, _⟩ := e1
              exact ⟨_, hblk.cell hzl⟩
          obtain ⟨u, hu⟩ := hcell
          have hfz : Wc.frozen? ⟨g, z4.toNat, none⟩ = false := by
            rcases own_ints Dc.out.own with ⟨h, _⟩ | ⟨g', cap', e1, _, hblk⟩
            · cases h
            · simp at e1
              obtain ⟨rfl, _⟩ := e1
              exact hblk.frozen _
          have Ds := Lib.hid (Dc.out.set (i := z4.toNat) (x := xv))
          refine take_call (i := 11) rfl (by kernel_rfl) (fun K2 hK => ?_)
          go_simp
          refine hK.out _ _ Ds.out.box (fun hHeld2 => ?_)
          clear hK hHeld hHeld2 hu hfz Dc
          refine wpAnyH_done (by kernel_rfl) ?_ _
          obtain ⟨W8, hW8⟩ : ∃ W8, W8 = Wc.setCell ⟨g, z4.toNat, none⟩ (.int .i64 xv) := ⟨_, rfl⟩
          rw [← hW8] at Ds ⊢
          clear hW8
          obtain ⟨⟨q0, q1⟩, _⟩ := row2_cells Ds.out.box
          obtain ⟨⟨o0, o1⟩, y0, y1⟩ := row2_cells Ds.out.o4
          have hbl : b5 < W8.heap.size := Ds.out.box.lt
          have hd1 : b5 ≠ w.heap.size := by have := Ds.out.lb; omega
          go_wp2_with fail
          have hle : w.heap.size ≤ w.heap.size := Nat.le_refl _
          have e9 : ∀ k, k ≠ w.heap.size → ((W8.setCell ⟨w.heap.size, 0, none⟩ (.int .i64 wt')).setCell ⟨w.heap.size, 1, none⟩ (.slice (some ⟨g, 0, none⟩) zs.length kv)).heap[k]? = W8.heap[k]? := fun k hk => (Below.heap_setCell _ ⟨w.heap.size, 1, none⟩ _ _ hk).trans (Below.heap_setCell _ ⟨w.heap.size, 0, none⟩ _ _ hk)
          refine bodyPost_ret (v := btV wt' (some ⟨g, 0, none⟩) zs.length kv) ?_ rfl ⟨⟨wt', some ⟨g, 0, none⟩, kv, zs.set z4.toNat xv, rfl, HWB.out, by simp, ?_⟩, ⟨Ds.out.dr.1.keep (fun k hk => e9 k (by have := Ds.out.lt; omega)), ?_⟩⟩
          · obtain ⟨⟨a0, a1⟩, _⟩ := row2_cells (row2_put Ds.out.o4 (.int .i64 wt') (.slice (some ⟨g, 0, none⟩) zs.length kv))
            simp only [results, Tryd.results47]
            simp [go_sem, a0, a1]
          · have h1 := (by have h0 := Ds.out.own; rw [List.length_set] at h0; exact h0 : W8.ownsRow (w.heap.size + 1) 2 1 (.slice (some ⟨g, 0, none⟩) zs.length kv) zs.length ((zs.set z4.toNat xv).map (Value.int .i64)))
            have h2 := ownFar (w' := (W8.setCell ⟨w.heap.size, 0, none⟩ (.int .i64 wt')).setCell ⟨w.heap.size, 1, none⟩ (.slice (some ⟨g, 0, none⟩) zs.length kv)) h1 (fun k hk _ => e9 k (by have := (h1.lt k hk).1; omega))
            refine ⟨h2.1, ?_⟩
            rcases h2.2 with h | ⟨g, cap, cur, e1, e2, e3⟩
            · exact Or.inl h
            · exact Or.inr ⟨g, cap, cur, e1, by omega, e3⟩
          · exact ⟨Ds.out.dr.2.1, Ds.out.dr.2.2.1, Ds.out.dr.2.2.2.1, by have := Ds.out.dr.2.size; simpa using this, fun k hk1 hk2 => (e9 k (by omega)).trans (Ds.out.dr.2.2.2.2.2 k hk1 hk2)⟩
        · go_simp
          refine (n_any sb 3 _ Da.out.dr.1 (by omega)).mono ?_
          rintro e Wc ⟨⟨z7, rfl, z70, z71, _⟩, hD⟩
          have z72 := z71 (by omega)
          have Dc := Lib.hid (Da.out.draw hD)
          clear hD z71
          go_wp2_with fail
          refine hK.out _ _ Dc.out.box (fun hHeld2 => ?_)
          clear hK hHeld
          have hHeld := hHeld2
          clear hHeld2
          refine take_call (i := 5) rfl (by kernel_rfl) (fun K2 hK => ?_)
          obtain ⟨Wb, hWb⟩ : ∃ Wb, Wb = Wc.alloc (.cells #[.int .i64 1000000000, .int .i64 1000000001, .int .i64 (-1)] 2) := ⟨_, rfl⟩
          have Db : Hid (DB w sb b5 wt' (.slice (some ⟨g, 0, none⟩) zs.length kv) zs Wb) := by show DB _ _ _ _ _ _ _; rw [hWb]; exact Dc.out.alloc _
          have HG3 : Hid (Wb.heap[Wc.heap.size]? = some (.cells #[.int .i64 1000000000, .int .i64 1000000001, .int .i64 (-1)] 2)) := by show _ = _; rw [hWb]; exact blk_alloc_new _ _
          obtain ⟨g3, hg3⟩ : ∃ g3, g3 = Wc.heap.size := ⟨_, rfl⟩
          have HN3 : Hid (w.heap.size < g3) := by show _ < _; rw [hg3]; exact Dc.out.o4.lt
          rw [← hg3] at HG3
          go_simp
          rw [← hWb, ← hg3]
          clear hg3 hWb
          refine hK.out _ _ Db.out.box (fun hHeld2 => ?_)
          clear hK hHeld
          have hHeld := hHeld2
          clear hHeld2
          refine take_do (i := 8) (v := (.pointer (some ⟨g3, z7.toNat, none⟩))) rfl (by kernel_rfl) (by kernel_rfl) (by kernel_rfl) (fun _ _ _ h => h) (by rfl) ?_ (by assumption) ?_
          · intro w hSw
            obtain ⟨⟨q0, q1⟩, _⟩ := row2_cells hSw
            go_simp
          simp only [Act.put, List.setIfInBounds_toArray, List.set_cons_zero, List.set_cons_succ]
          obtain ⟨xv, hxv, _⟩ := oneOfW (W' := Wb) (n := 3) _ _ three_ok HG3.out rfl (fun _ _ => rfl) z70 (by omega)
          refine take_call (i := 9) rfl (by kernel_rfl) (fun K2 hK => ?_)
          go_simp
          refine hK.out _ _ Db.out.box (fun hHeld2 => ?_)
          clear hK hHeld
          have hHeld := hHeld2
          clear hHeld2
          clear hxv
          refine take_do (i := 10) (v := (.pointer (some ⟨g, z4.toNat, none⟩))) rfl (by kernel_rfl) (by kernel_rfl) (by kernel_rfl) (fun _ _ _ h => h) (by rfl) ?_ (by assumption) ?_
          · intro w hSw
            obtain ⟨⟨q0, q1⟩, _⟩ := row2_cells hSw
            go_simp
          simp only [Act.put, List.setIfInBounds_toArray, List.set_cons_zero, List.set_cons_succ]
          have hzl : z4.toNat < zs.length := by have := HN0.out; omega
          have hcell : ∃ u, Wb.cell? ⟨g, z4.toNat, none⟩ = some u := by
            rcases own_ints Db.out.own with ⟨h, _⟩ | ⟨g', cap', e1, _, hblk⟩
            · cases h
            · simp at e1
              obtain ⟨rfl, _⟩ := e1
              exact ⟨_, hblk.cell hzl⟩
          obtain ⟨u, hu⟩ := hcell
          have hfz : Wb.frozen? ⟨g, z4.toNat, none⟩ = false := by
            rcases own_ints Db.out.own with ⟨h, _⟩ | ⟨g', cap', e1, _, hblk⟩
            · cases h
            · simp at e1
              obtain ⟨rfl, _⟩ := e1
              exact hblk.frozen _
          have Ds := Lib.hid (Db.out.set (i := z4.toNat) (x := xv))
          refine take_call (i := 11) rfl (by kernel_rfl) (fun K2 hK => ?_)
          go_simp
          refine hK.out _ _ Ds.out.box (fun hHeld2 => ?_)
          clear hK hHeld hHeld2 hu hfz Db
          refine wpAnyH_done (by kernel_rfl) ?_ _
          obtain ⟨W8, hW8⟩ : ∃ W8, W8 = Wb.setCell ⟨g, z4.toNat, none⟩ (.int .i64 xv) := ⟨_, rfl⟩
          rw [← hW8] at Ds ⊢
          clear hW8
          obtain ⟨⟨q0, q1⟩, _⟩ := row2_cells Ds.out.box
          obtain ⟨⟨o0, o1⟩, y0, y1⟩ := row2_cells Ds.out.o4
          have hbl : b5 < W8.heap.size := Ds.out.box.lt
          have hd1 : b5 ≠ w.heap.size := by have := Ds.out.lb; omega
          go_wp2_with fail
          have hle : w.heap.size ≤ w.heap.size := Nat.le_refl _
          have e9 : ∀ k, k ≠ w.heap.size → ((W8.setCell ⟨w.heap.size, 0, none⟩ (.int .i64 wt')).setCell ⟨w.heap.size, 1, none⟩ (.slice (some ⟨g, 0, none⟩) zs.length kv)).heap[k]? = W8.heap[k]? := fun k hk => (Below.heap_setCell _ ⟨w.heap.size, 1, none⟩ _ _ hk).trans (Below.heap_setCell _ ⟨w.heap.size, 0, none⟩ _ _ hk)
          refine bodyPost_ret (v := btV wt' (some ⟨g, 0, none⟩) zs.length kv) ?_ rfl ⟨⟨wt', some ⟨g, 0, none⟩, kv, zs.set z4.toNat xv, rfl, HWB.out, by simp, ?_⟩, ⟨Ds.out.dr.1.keep (fun k hk => e9 k (by have := Ds.out.lt; omega)), ?_⟩⟩
          · obtain ⟨⟨a0, a1⟩, _⟩ := row2_cells (row2_put Ds.out.o4 (.int .i64 wt') (.slice (some ⟨g, 0, none⟩) zs.length kv))
            simp only [results, Tryd.results47]
            simp [go_sem, a0, a1]
          · have h1 := (by have h0 := Ds.out.own; rw [List.length_set] at h0; exact h0 : W8.ownsRow (w.heap.size + 1) 2 1 (.slice (some ⟨g, 0, none⟩) zs.length kv) zs.length ((zs.set z4.toNat xv).map (Value.int .i64)))
            have h2 := ownFar (w' := (W8.setCell ⟨w.heap.size, 0, none⟩ (.int .i64 wt')).setCell ⟨w.heap.size, 1, none⟩ (.slice (some ⟨g, 0, none⟩) zs.length kv)) h1 (fun k hk _ => e9 k (by have := (h1.lt k hk).1; omega))
            refine ⟨h2.1, ?_⟩
            rcases h2.2 with h | ⟨g, cap, cur, e1, e2, e3⟩
            · exact Or.inl h
            · exact Or.inr ⟨g, cap, cur, e1, by omega, e3⟩
          · exact ⟨Ds.out.dr.2.1, Ds.out.dr.2.2.1, Ds.out.dr.2.2.2.1, by have := Ds.out.dr.2.size; simpa using this, fun k hk1 hk2 => (e9 k (by omega)).trans (Ds.out.dr.2.2.2.2.2 k hk1 hk2)⟩
      · obtain ⟨Wb, hWb⟩ : ∃ Wb, Wb = Wz.alloc (.cells #[.int .i64 1000000000, .int .i64 1000000001, .int .i64 (-1)] 2) := ⟨_, rfl⟩
        have Db : Hid (DB w sb b5 wt' (.slice (some ⟨g, 0, none⟩) zs.length kv) zs Wb) := by show DB _ _ _ _ _ _ _; rw [hWb]; exact HD7d.out.alloc _
        have HG3 : Hid (Wb.heap[Wz.heap.size]? = some (.cells #[.int .i64 1000000000, .int .i64 1000000001, .int .i64 (-1)] 2)) := by show _ = _; rw [hWb]; exact blk_alloc_new _ _
        obtain ⟨g3, hg3⟩ : ∃ g3, g3 = Wz.heap.size := ⟨_, rfl⟩
        have HN3 : Hid (w.heap.size < g3) := by show _ < _; rw [hg3]; exact HD7d.out.o4.lt
        rw [← hg3] at HG3
        go_simp
        rw [← hWb, ← hg3]
        clear hg3 hWb
        refine hK.out _ _ Db.out.box (fun hHeld2 => ?_)
        clear hK hHeld
        have hHeld := hHeld2
        clear hHeld2
        refine take_call (i := 4) rfl (by kernel_rfl) (fun K2 hK => ?_)
        go_simp
        refine (n_any sb zs.length _ Db.out.dr.1 (by omega)).mono ?_
        rintro e Wa ⟨⟨z4, rfl, z40, z41, z43⟩, hD⟩
        have z42 : z4 < (zs.length : Int) := by
          have h0 : 0 < zs.length := HN0.out
          by_cases h1 : (1 : Int) < (zs.length : Int)
          · exact z41 h1
          · have h2 := z43 (by omega)
            omega
        clear z43
        have Da := Lib.hid (Db.out.draw hD)
        have HG3a : Hid (Wa.heap[g3]? = some (.cells #[.int .i64 1000000000, .int .i64 1000000001, .int .i64 (-1)] 2)) := (hD.2.2.2.2.2 g3 (Array.getElem?_eq_some_iff.1 HG3.out).1 (by have := HN3.out; have := HLT.out; omega)).trans HG3.out
        replace HG3 := HG3a
        clear HG3a
        clear hD z41
        go_wp2_with fail
        refine hK.out _ _ Da.out.box (fun hHeld2 => ?_)
        clear hK hHeld
        have hHeld := hHeld2
        clear hHeld2
        refine take_call (i := 7) rfl (by kernel_rfl) (fun K2 hK => ?_)
        go_simp
        refine (n_any sb 3 _ Da.out.dr.1 (by omega)).mono ?_
        rintro e Wc ⟨⟨z7, rfl, z70, z71, _⟩, hD⟩
        have z72 := z71 (by omega)
        have Dc := Lib.hid (Da.out.draw hD)
        have HG3a : Hid (Wc.heap[g3]? = some (.cells #[.int .i64 1000000000, .int .i64 1000000001, .int .i64 (-1)] 2)) := (hD.2.2.2.2.2 g3 (Array.getElem?_eq_some_iff.1 HG3.out).1 (by have := HN3.out; have := HLT.out; omega)).trans HG3.out
        replace HG3 := HG3a
        clear HG3a
        clear hD z71
        go_wp2_with fail
        refine hK.out _ _ Dc.out.box (fun hHeld2 => ?_)
        clear hK hHeld
        have hHeld := hHeld2
        clear hHeld2
        refine take_do (i := 8) (v := (.pointer (some ⟨g3, z7.toNat, none⟩))) rfl (by kernel_rfl) (by kernel_rfl) (by kernel_rfl) (fun _ _ _ h => h) (by rfl) ?_ (by assumption) ?_
        · intro w hSw
          obtain ⟨⟨q0, q1⟩, _⟩ := row2_cells hSw
          go_simp
        simp only [Act.put, List.setIfInBounds_toArray, List.set_cons_zero, List.set_cons_succ]
        obtain ⟨xv, hxv, _⟩ := oneOfW (W' := Wc) (n := 3) _ _ three_ok HG3.out rfl (fun _ _ => rfl) z70 (by omega)
        refine take_call (i := 9) rfl (by kernel_rfl) (fun K2 hK => ?_)
        go_simp
        refine hK.out _ _ Dc.out.box (fun hHeld2 => ?_)
        clear hK hHeld
        have hHeld := hHeld2
        clear hHeld2
        clear hxv
        refine take_do (i := 10) (v := (.pointer (some ⟨g, z4.toNat, none⟩))) rfl (by kernel_rfl) (by kernel_rfl) (by kernel_rfl) (fun _ _ _ h => h) (by rfl) ?_ (by assumption) ?_
        · intro w hSw
          obtain ⟨⟨q0, q1⟩, _⟩ := row2_cells hSw
          go_simp
        simp only [Act.put, List.setIfInBounds_toArray, List.set_cons_zero, List.set_cons_succ]
        have hzl : z4.toNat < zs.length := by have := HN0.out; omega
        have hcell : ∃ u, Wc.cell? ⟨g, z4.toNat, none⟩ = some u := by
          rcases own_ints Dc.out.own with ⟨h, _⟩ | ⟨g', cap', e1, _, hblk⟩
          · cases h
          · simp at e1
            obtain ⟨rfl, _⟩ := e1
            exact ⟨_, hblk.cell hzl⟩
        obtain ⟨u, hu⟩ := hcell
        have hfz : Wc.frozen? ⟨g, z4.toNat, none⟩ = false := by
          rcases own_ints Dc.out.own with ⟨h, _⟩ | ⟨g', cap', e1, _, hblk⟩
          · cases h
          · simp at e1
            obtain ⟨rfl, _⟩ := e1
            exact hblk.frozen _
        have Ds := Lib.hid (Dc.out.set (i := z4.toNat) (x := xv))
        refine take_call (i := 11) rfl (by kernel_rfl) (fun K2 hK => ?_)
        go_simp
        refine hK.out _ _ Ds.out.box (fun hHeld2 => ?_)
        clear hK hHeld hHeld2 hu hfz Dc
        refine wpAnyH_done (by kernel_rfl) ?_ _
        obtain ⟨W8, hW8⟩ : ∃ W8, W8 = Wc.setCell ⟨g, z4.toNat, none⟩ (.int .i64 xv) := ⟨_, rfl⟩
        rw [← hW8] at Ds ⊢
        clear hW8
        obtain ⟨⟨q0, q1⟩, _⟩ := row2_cells Ds.out.box
        obtain ⟨⟨o0, o1⟩, y0, y1⟩ := row2_cells Ds.out.o4
        have hbl : b5 < W8.heap.size := Ds.out.box.lt
        have hd1 : b5 ≠ w.heap.size := by have := Ds.out.lb; omega
        go_wp2_with fail
        have hle : w.heap.size ≤ w.heap.size := Nat.le_refl _
        have e9 : ∀ k, k ≠ w.heap.size → ((W8.setCell ⟨w.heap.size, 0, none⟩ (.int .i64 wt')).setCell ⟨w.heap.size, 1, none⟩ (.slice (some ⟨g, 0, none⟩) zs.length kv)).heap[k]? = W8.heap[k]? := fun k hk => (Below.heap_setCell _ ⟨w.heap.size, 1, none⟩ _ _ hk).trans (Below.heap_setCell _ ⟨w.heap.size, 0, none⟩ _ _ hk)
        refine bodyPost_ret (v := btV wt' (some ⟨g, 0, none⟩) zs.length kv) ?_ rfl ⟨⟨wt', some ⟨g, 0, none⟩, kv, zs.set z4.toNat xv, rfl, HWB.out, by simp, ?_⟩, ⟨Ds.out.dr.1.keep (fun k hk => e9 k (by have := Ds.out.lt; omega)), ?_⟩⟩
        · obtain ⟨⟨a0, a1⟩, _⟩ := row2_cells (row2_put Ds.out.o4 (.int .i64 wt') (.slice (some ⟨g, 0, none⟩) zs.length kv))
          simp only [results, Tryd.results47]
          simp [go_sem, a0, a1]
        · have h1 := (by have h0 := Ds.out.own; rw [List.length_set] at h0; exact h0 : W8.ownsRow (w.heap.size + 1) 2 1 (.slice (some ⟨g, 0, none⟩) zs.length kv) zs.length ((zs.set z4.toNat xv).map (Value.int .i64)))
          have h2 := ownFar (w' := (W8.setCell ⟨w.heap.size, 0, none⟩ (.int .i64 wt')).setCell ⟨w.heap.size, 1, none⟩ (.slice (some ⟨g, 0, none⟩) zs.length kv)) h1 (fun k hk _ => e9 k (by have := (h1.lt k hk).1; omega))
          refine ⟨h2.1, ?_⟩
          rcases h2.2 with h | ⟨g, cap, cur, e1, e2, e3⟩
          · exact Or.inl h
          · exact Or.inr ⟨g, cap, cur, e1, by omega, e3⟩
        · exact ⟨Ds.out.dr.2.1, Ds.out.dr.2.2.1, Ds.out.dr.2.2.2.1, by have := Ds.out.dr.2.size; simpa using this, fun k hk1 hk2 => (e9 k (by omega)).trans (Ds.out.dr.2.2.2.2.2 k hk1 hk2)⟩
end Go.Proofs.YtcjeieagpcphjaaDoor
