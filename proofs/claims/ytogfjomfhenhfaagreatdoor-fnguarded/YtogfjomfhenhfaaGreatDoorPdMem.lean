/-
  What stands while a program is drawn: its box, its three lists in the making.
-/
import Derived.Test.YtogfjomfhenhfaaGreatDoorPdLs
import Derived.Test.YtogfjomfhenhfaaGreatDoorPgMem
import Derived.Test.YtogfjomfhenhfaaGreatDoorLnMem
namespace Go.Proofs.YtogfjomfhenhfaaGreatDoor
open Go Go.RowKit Go.Deep

/-- What changed are blocks of one type alone, from B on (or new ones). -/
structure Mut (B : Nat) (T : TypeId) (W W' : World) : Prop where
  os : W'.os = W.os
  tape : W'.tape = W.tape
  output : W'.output = W.output
  size : W.heap.size ≤ W'.heap.size
  blk : ∀ k, k < W.heap.size → W'.heap[k]? = W.heap[k]? ∨ (B ≤ k ∧ ∃ cur a, W.heap[k]? = some (.cells cur T a))
section
variable {B : Nat} {T : TypeId} {W W' W2 : World}
theorem Mut.row (h : Mut B T W W') {g n : Nat} {S : TypeId} {F : Nat → Value} (hr : W.rowIs g S n F) (hT : S ≠ T) : W'.rowIs g S n F := by
  rcases h.blk g hr.lt with h1 | ⟨_, cur, a, h2⟩
  · exact hr.of_block h1
  · obtain ⟨c2, q2, _⟩ := hr
    rw [h2] at q2
    simp at q2
    exact absurd q2.2.1.symm hT
theorem Mut.own (h : Mut B T W W') {B' s n : Nat} {S : TypeId} {v : Value} {xs : List Value} (ho : W.ownsRow B' S s v n xs) (hT : S ≠ T) : W'.ownsRow B' S s v n xs := by
  refine ⟨ho.1, ?_⟩
  rcases ho.2 with h2 | ⟨g, cap, cur, e1, e2, e3, e4⟩
  · exact Or.inl h2
  · refine Or.inr ⟨g, cap, cur, e1, e2, ?_, e4⟩
    rcases h.blk g (Array.getElem?_eq_some_iff.1 e3).1 with h1 | ⟨_, cu, a, h2⟩
    · rw [h1]; exact e3
    · rw [h2] at e3
      simp at e3
      exact absurd e3.2.1.symm hT
theorem Mut.src (h : Mut B T W W') {w : World} {sb : Nat} (hd : Drew sb w W) (hs : sb < w.heap.size) (hB : w.heap.size ≤ B) : Drew sb w W' := by
  have hz := hd.2.2.2.2.1
  have hk : ∀ k, k < w.heap.size → W'.heap[k]? = W.heap[k]? := fun k hk => by
    rcases h.blk k (by omega) with h1 | ⟨h2, _⟩
    · exact h1
    · omega
  exact ⟨hd.1.keep (fun k hk2 => hk k (by omega)), h.os.trans hd.2.1, h.tape.trans hd.2.2.1, h.output.trans hd.2.2.2.1, Nat.le_trans hz h.size, fun k hk1 hk2 => (hk k hk1).trans (hd.2.2.2.2.2 k hk1 hk2)⟩
theorem Mut.of_set {g n i : Nat} {F : Nat → Value} (hr : W.rowIs g T n F) (hB : B ≤ g) (v : Value) : Mut B T W (W.setCell ⟨g, i, none⟩ v) :=
  ⟨rfl, rfl, rfl, by simp, fun k _ => by
    by_cases e : k = g
    · subst e
      obtain ⟨c2, q2, _⟩ := hr
      exact Or.inr ⟨hB, c2, _, q2⟩
    · exact Or.inl (Below.heap_setCell _ _ _ _ e)⟩
theorem Mut.of_grown {s n : Nat} {v : Value} {xs : List Value} {o : Obj} (ho : W.ownsRow B T s v n xs) (hg : (W.alloc o).grownBy W' v.ownBlock) : Mut B T W W' :=
  ⟨hg.os, hg.tape, hg.output, by have := hg.size; simp at this; omega, fun k hk => by
    by_cases e : some k = v.ownBlock
    · refine Or.inr ⟨(ho.lt k e.symm).1, ?_⟩
      rcases ho.2 with ⟨h1, _⟩ | ⟨g, cap, cur, e1, e2, e3, _⟩
      · rw [h1] at e; simp [Value.ownBlock] at e
      · rw [e1] at e
        simp [Value.ownBlock] at e
        subst e
        exact ⟨cur, _, e3⟩
    · left
      rw [hg.block k (by simp; omega) e]
      exact blk_alloc_lt _ _ _ hk⟩
theorem Mut.of_grown' {s n : Nat} {v : Value} {xs : List Value} (ho : W.ownsRow B T s v n xs) (hg : W.grownBy W' v.ownBlock) : Mut B T W W' :=
  ⟨hg.os, hg.tape, hg.output, hg.size, fun k hk => by
    by_cases e : some k = v.ownBlock
    · refine Or.inr ⟨(ho.lt k e.symm).1, ?_⟩
      rcases ho.2 with ⟨h1, _⟩ | ⟨g, cap, cur, e1, e2, e3, _⟩
      · rw [h1] at e; simp [Value.ownBlock] at e
      · rw [e1] at e
        simp [Value.ownBlock] at e
        subst e
        exact ⟨cur, _, e3⟩
    · exact Or.inl (hg.block k hk e)⟩
end
theorem nvs_snoc (ns : List (Int × Int)) (x y : Int) : nvs (ns ++ [(x, y)]) = nvs ns ++ [.int .i64 x, .int .i64 y] := by simp [nvs]
/-- The values of blocks. -/
def bkVs (l : List Pg.Bk) : List Value := l.flatMap (fun x => [.int .i64 x.kind, .string x.name, .int .i64 x.a, .int .i64 x.b])
theorem bkVs_app (l : List Pg.Bk) (x : Pg.Bk) : bkVs (l ++ [x]) = bkVs l ++ [.int .i64 x.kind, .string x.name, .int .i64 x.a, .int .i64 x.b] := by simp [bkVs]
theorem bkVs_len (l : List Pg.Bk) : (bkVs l).length = l.length * 4 := by
  induction l with
  | nil => rfl
  | cons x l ih => simp [bkVs] at ih ⊢; omega
/-- What stands while a program is drawn. -/
structure PdS (w : World) (sb r g : Nat) (va : Value) (bl : List Pg.Bk) (vf : Value) (os : List Int) (vw : Value) (ns : List (Int × Int)) (W : World) : Prop where
  box : W.rowIs g 27 3 (rowN [va, vf, vw])
  res : W.rowIs r 27 3 (rowN [.slice none 0 0, .slice none 0 0, .slice none 0 0])
  oa : W.ownsRow w.heap.size 84 4 va bl.length (bkVs bl)
  of : W.ownsRow w.heap.size 2 1 vf os.length (os.map (Value.int .i64))
  ow : W.ownsRow w.heap.size 36 2 vw ns.length (nvs ns)
  nm : ∀ x, x ∈ bl → x.name.size ≤ 64
  src : Drew sb w W
  lo : sb < w.heap.size ∧ w.heap.size ≤ r ∧ r < g
section
variable {w : World} {sb r g : Nat} {va vf vw v' : Value} {bl : List Pg.Bk} {os : List Int} {ns : List (Int × Int)} {W W' : World}
theorem PdS.draw (h : PdS w sb r g va bl vf os vw ns W) (hd : Drew sb W W') : PdS w sb r g va bl vf os vw ns W' := by
  have lo := h.lo
  have far : ∀ {S : TypeId} {s n : Nat} {v : Value} {xs : List Value}, W.ownsRow w.heap.size S s v n xs → W'.ownsRow w.heap.size S s v n xs := fun ho => d_far ho (fun k hk hl => hd.2.2.2.2.2 k hl (by have := (ho.lt k hk).1; omega))
  exact ⟨h.box.of_block (hd.2.2.2.2.2 g h.box.lt (by omega)), h.res.of_block (hd.2.2.2.2.2 r h.res.lt (by omega)), far h.oa, far h.of, far h.ow, h.nm, pdrew_more h.src hd, lo⟩
theorem PdS.bel (h : PdS w sb r g va bl vf os vw ns W) (hb : Below W.heap.size W W') : PdS w sb r g va bl vf os vw ns W' := by
  have far : ∀ {S : TypeId} {s n : Nat} {v : Value} {xs : List Value}, W.ownsRow w.heap.size S s v n xs → W'.ownsRow w.heap.size S s v n xs := fun ho => d_far ho (fun k _ hl => hb.block k hl)
  exact ⟨nrow_below h.box hb, nrow_below h.res hb, far h.oa, far h.of, far h.ow, h.nm, pdrew_bel h.src hb, h.lo⟩
/-- The box takes another list. -/
theorem PdS.store (h : PdS w sb r g va bl vf os vw ns W) {T : TypeId} (m : Mut w.heap.size T W W') (hT : 27 ≠ T) (i : Nat) (x : Value) (hi : i < 3) :
    (W'.setCell ⟨g, i, none⟩ x).rowIs g 27 3 (rowN ([va, vf, vw].set i x)) ∧ (W'.setCell ⟨g, i, none⟩ x).rowIs r 27 3 (rowN [.slice none 0 0, .slice none 0 0, .slice none 0 0]) ∧ Mut w.heap.size 27 W' (W'.setCell ⟨g, i, none⟩ x) ∧ Drew sb w (W'.setCell ⟨g, i, none⟩ x) := by
  have lo := h.lo
  have b := m.row h.box hT
  have m2 := Mut.of_set (B := w.heap.size) (i := i) b (by omega) x
  exact ⟨rowN_put b i x hi, nrow_set (m.row h.res hT) (p := ⟨g, i, none⟩) (by show r ≠ g; omega) _, m2, m2.src (m.src h.src lo.1 (Nat.le_refl _)) lo.1 (Nat.le_refl _)⟩
theorem PdS.pushB {o : Obj} {x : Pg.Bk} (h : PdS w sb r g va bl vf os vw ns W) (hx : x.name.size ≤ 64) (hg : (W.alloc o).grownBy W' va.ownBlock) (hown : W'.ownsRow w.heap.size 84 4 v' (bl.length + 1) (bkVs bl ++ [.int .i64 x.kind, .string x.name, .int .i64 x.a, .int .i64 x.b])) :
    PdS w sb r g v' (bl ++ [x]) vf os vw ns (W'.setCell ⟨g, 0, none⟩ v') := by
  have m := Mut.of_grown h.oa hg
  obtain ⟨s1, s2, s3, s4⟩ := h.store m (by decide) 0 v' (by omega)
  refine ⟨s1, s2, ?_, s3.own (m.own h.of (by decide)) (by decide), s3.own (m.own h.ow (by decide)) (by decide), fun y hy => ?_, s4, h.lo⟩
  · have := s3.own hown (by decide)
    rw [bkVs_app, List.length_append]
    exact this
  · rcases List.mem_append.1 hy with hy | hy
    · exact h.nm y hy
    · obtain rfl : y = x := by simpa using hy
      exact hx
theorem PdS.pushF {o : Obj} {x : Int} (h : PdS w sb r g va bl vf os vw ns W) (hg : (W.alloc o).grownBy W' vf.ownBlock) (hown : W'.ownsRow w.heap.size 2 1 v' (os.length + 1) (os.map (Value.int .i64) ++ [.int .i64 x])) :
    PdS w sb r g va bl v' (os ++ [x]) vw ns (W'.setCell ⟨g, 1, none⟩ v') := by
  have m := Mut.of_grown h.of hg
  obtain ⟨s1, s2, s3, s4⟩ := h.store m (by decide) 1 v' (by omega)
  refine ⟨s1, s2, s3.own (m.own h.oa (by decide)) (by decide), ?_, s3.own (m.own h.ow (by decide)) (by decide), h.nm, s4, h.lo⟩
  have := s3.own hown (by decide)
  simpa using this
theorem PdS.pushN {o : Obj} {x y : Int} (h : PdS w sb r g va bl vf os vw ns W) (hg : (W.alloc o).grownBy W' vw.ownBlock) (hown : W'.ownsRow w.heap.size 36 2 v' (ns.length + 1) (nvs ns ++ [.int .i64 x, .int .i64 y])) :
    PdS w sb r g va bl vf os v' (ns ++ [(x, y)]) (W'.setCell ⟨g, 2, none⟩ v') := by
  have m := Mut.of_grown h.ow hg
  obtain ⟨s1, s2, s3, s4⟩ := h.store m (by decide) 2 v' (by omega)
  refine ⟨s1, s2, s3.own (m.own h.oa (by decide)) (by decide), s3.own (m.own h.of (by decide)) (by decide), ?_, h.nm, s4, h.lo⟩
  have := s3.own hown (by decide)
  have e : nvs (ns ++ [(x, y)]) = nvs ns ++ [.int .i64 x, .int .i64 y] := by simp [nvs]
  rw [e, List.length_append]
  exact this
theorem PdS.pushN' {x y : Int} (h : PdS w sb r g va bl vf os vw ns W) (hg : W.grownBy W' vw.ownBlock) (hown : W'.ownsRow w.heap.size 36 2 v' (ns.length + [(x, y)].length) (nvs ns ++ [.int .i64 x, .int .i64 y])) :
    PdS w sb r g va bl vf os v' (ns ++ [(x, y)]) (W'.setCell ⟨g, 2, none⟩ v') := by
  have m := Mut.of_grown' h.ow hg
  obtain ⟨s1, s2, s3, s4⟩ := h.store m (by decide) 2 v' (by omega)
  refine ⟨s1, s2, s3.own (m.own h.oa (by decide)) (by decide), s3.own (m.own h.of (by decide)) (by decide), ?_, h.nm, s4, h.lo⟩
  have := s3.own hown (by decide)
  rw [nvs_snoc, List.length_append]
  exact this
/-- The outs are drawn. -/
theorem PdS.outs {zs : List Int} (h : PdS w sb r g va bl vf os vw ns W) (hd : Drew sb W W') (hown : W'.ownsRow W.heap.size 2 1 v' zs.length (zs.map (Value.int .i64))) :
    PdS w sb r g va bl v' zs vw ns (W'.setCell ⟨g, 1, none⟩ v') := by
  have h2 := h.draw hd
  have m : Mut w.heap.size 2 W' W' := ⟨rfl, rfl, rfl, Nat.le_refl _, fun _ _ => Or.inl rfl⟩
  obtain ⟨s1, s2, s3, s4⟩ := h2.store m (by decide) 1 v' (by omega)
  refine ⟨s1, s2, s3.own h2.oa (by decide), ?_, s3.own h2.ow (by decide), h2.nm, s4, h2.lo⟩
  have h3 := s3.own hown (by decide)
  refine ⟨h3.1, ?_⟩
  rcases h3.2 with h4 | ⟨g', cap, cur, e1, e2, e3⟩
  · exact Or.inl h4
  · exact Or.inr ⟨g', cap, cur, e1, Nat.le_trans h.src.2.2.2.2.1 e2, e3⟩
end
/-- A cell of an owned list is set. -/
theorem own_row {W : World} {B s n : Nat} {T : TypeId} {g cap : Nat} {xs : List Value} (h : W.ownsRow B T s (.slice (some ⟨g, 0, none⟩) n cap) n xs) : B ≤ g ∧ n ≤ cap ∧ ∃ F, W.rowIs g T (cap * s) F := by
  rcases h.2 with ⟨h1, _⟩ | ⟨g', cap', cur, e1, e2, e3, e4, e5, e6, e7⟩
  · cases h1
  · cases e1
    exact ⟨e2, e4, fun i => cur[i]?.getD undef, cur, e3, e6, fun i hi => by show cur[i]? = some (cur[i]?.getD undef); rw [Array.getElem?_eq_getElem (by omega)]; rfl⟩
theorem own_put {W : World} {B s n : Nat} {T : TypeId} {g cap : Nat} {xs : List Value} (h : W.ownsRow B T s (.slice (some ⟨g, 0, none⟩) n cap) n xs) (j : Nat) (hj : j < n * s) (v : Value) :
    (W.setCell ⟨g, j, none⟩ v).ownsRow B T s (.slice (some ⟨g, 0, none⟩) n cap) n (xs.set j v) := by
  refine ⟨by rw [List.length_set]; exact h.1, Or.inr ?_⟩
  rcases h.2 with ⟨h1, _⟩ | ⟨g', cap', cur, e1, e2, e3, e4, e5, e6, e7⟩
  · cases h1
  · cases e1
    have hr : W.rowIs g T (cap * s) (fun i => cur[i]?.getD undef) := ⟨cur, e3, e6, fun i hi => by show cur[i]? = some (cur[i]?.getD undef); rw [Array.getElem?_eq_getElem (by omega)]; rfl⟩
    obtain ⟨c2, q1, q2, q3⟩ := hr.set j v
    refine ⟨g, cap, c2, rfl, e2, q1, e4, e5, q2, ?_⟩
    apply List.ext_getElem?
    intro i
    rw [List.getElem?_take, List.getElem?_set, h.1]
    by_cases hi : i < n * s
    · have hc : i < cap * s := Nat.lt_of_lt_of_le hi (Nat.mul_le_mul_right s e4)
      rw [if_pos hi, Array.getElem?_toList, q3 i hc]
      by_cases e : j = i
      · subst e; simp [hj]
      · have e2 : ¬ i = j := fun k => e k.symm
        simp only [e, e2, if_false]
        have h7 : (cur.toList.take (n * s))[i]? = xs[i]? := by rw [e7]
        rw [List.getElem?_take, if_pos hi, Array.getElem?_toList] at h7
        rw [← h7, Array.getElem?_eq_getElem (by omega)]
        rfl
    · rw [if_neg hi]
      have e : ¬ j = i := fun k => hi (k ▸ hj)
      rw [if_neg e, List.getElem?_eq_none (by rw [h.1]; omega)]
/-- The cells of a block. -/
def bk4 (x : Pg.Bk) : List Value := [.int .i64 x.kind, .string x.name, .int .i64 x.a, .int .i64 x.b]
theorem bkVs_set (v : Value) (c : Nat) (hc : c < 4) (x' : Pg.Bk) : ∀ (bl : List Pg.Bk) (k : Nat) (x : Pg.Bk), bl[k]? = some x → bk4 x' = (bk4 x).set c v → (bkVs bl).set (k * 4 + c) v = bkVs (bl.set k x') := by
  intro bl
  induction bl with
  | nil => intro k x h; simp at h
  | cons y l ih =>
    intro k x h hx
    have e1 : bkVs (y :: l) = bk4 y ++ bkVs l := by simp [bkVs, bk4]
    cases k with
    | zero =>
      simp at h
      subst h
      rw [e1, List.set_cons_zero, Nat.zero_mul, Nat.zero_add, List.set_append_left _ _ (by simp [bk4]; omega), ← hx]
      simp [bkVs, bk4]
    | succ k =>
      simp at h
      rw [e1, List.set_cons_succ, List.set_append_right _ _ (by simp [bk4]; omega)]
      have e2 : (k + 1) * 4 + c - (bk4 y).length = k * 4 + c := by simp [bk4]; omega
      rw [e2, ih k x h hx]
      simp [bkVs, bk4]
theorem PdS.setE {w : World} {sb r g ga ca : Nat} {vf vw : Value} {bl : List Pg.Bk} {os : List Int} {ns : List (Int × Int)} {W : World} (h : PdS w sb r g (.slice (some ⟨ga, 0, none⟩) bl.length ca) bl vf os vw ns W) {k : Nat} (c : Nat) (hc : c < 4) (v : Value) {x x' : Pg.Bk} (hx : bl[k]? = some x) (hx' : bk4 x' = (bk4 x).set c v) (hn : x'.name.size ≤ 64) :
    PdS w sb r g (.slice (some ⟨ga, 0, none⟩) bl.length ca) (bl.set k x') vf os vw ns (W.setCell ⟨ga, k * 4 + c, none⟩ v) := by
  have hk : k < bl.length := (List.getElem?_eq_some_iff.1 hx).1
  obtain ⟨o1, o2, F, o3⟩ := own_row h.oa
  have m := Mut.of_set (B := w.heap.size) (i := k * 4 + c) o3 o1 v
  have hp := own_put h.oa (k * 4 + c) (by omega) v
  rw [bkVs_set v c hc x' bl k x hx hx'] at hp
  refine ⟨m.row h.box (by decide), m.row h.res (by decide), by rw [List.length_set]; exact hp, m.own h.of (by decide), m.own h.ow (by decide), fun y hy => ?_, m.src h.src h.lo.1 (Nat.le_refl _), h.lo⟩
  rcases List.mem_or_eq_of_mem_set hy with hy | hy
  · exact h.nm y hy
  · subst hy; exact hn
end Go.Proofs.YtogfjomfhenhfaaGreatDoor
