/-
  The draw of a store: the walk.
-/
import Derived.Test.YtdpghhmcibiplaaDoorStD2
import Derived.Test.YtdpghhmcibiplaaDoorStB3x
namespace Go.Proofs.YtdpghhmcibiplaaDoor
open Go.RowKit Go.Deep

theorem five {W : World} {g : Nat} (x : Int) {z : Int} (hg : W.heap[g]? = some (.cells #[.int .i64 1000, .int .i64 900, .int .i64 500, .int .i64 0, .int .i64 x] 2)) (z0 : 0 ≤ z) (z1 : z < 5) : ∃ y : Int, W.cell? ⟨g, z.toNat, none⟩ = some (.int .i64 y) := by
  have hz : z = 0 ∨ z = 1 ∨ z = 2 ∨ z = 3 ∨ z = 4 := by omega
  simp only [World.cell?, hg]
  rcases hz with rfl | rfl | rfl | rfl | rfl <;> exact ⟨_, rfl⟩
theorem fiveD {W W' : World} {sb g : Nat} (x : Int) {z : Int} (hg : W.heap[g]? = some (.cells #[.int .i64 1000, .int .i64 900, .int .i64 500, .int .i64 0, .int .i64 x] 2)) (hd : Drew sb W W') (hne : g ≠ sb) (z0 : 0 ≤ z) (z1 : z < 5) : ∃ y : Int, W'.cell? ⟨g, z.toNat, none⟩ = some (.int .i64 y) :=
  five x ((hd.2.2.2.2.2 g (Array.getElem?_eq_some_iff.1 hg).1 hne).trans hg) z0 z1
theorem SD.push_box {w : World} {sb : Nat} {cv rv : Value} {zs ys : List St.Pr} {v : Int} {W W' : World} {o : Obj} (h : SD w sb cv rv zs ys v W) (hg : (W.alloc o).grownBy W' rv.ownBlock) : W'.rowIs (w.heap.size + 1) 66 3 (d3 cv rv (.int .i64 v)) :=
  h.box.of_block (by
    rw [hg.block (w.heap.size + 1) (by have := h.box.lt; simp; omega) (fun e => by have := (h.ru.lt _ e.symm).1; omega)]
    exact blk_alloc_lt _ _ _ h.box.lt)
theorem SD.push_boxC {w : World} {sb : Nat} {cv rv : Value} {zs ys : List St.Pr} {v : Int} {W W' : World} {o : Obj} (h : SD w sb cv rv zs ys v W) (hg : (W.alloc o).grownBy W' cv.ownBlock) : W'.rowIs (w.heap.size + 1) 66 3 (d3 cv rv (.int .i64 v)) :=
  h.box.of_block (by
    rw [hg.block (w.heap.size + 1) (by have := h.box.lt; simp; omega) (fun e => by have := (h.cu.lt _ e.symm).1; omega)]
    exact blk_alloc_lt _ _ _ h.box.lt)
theorem three30 {W W' : World} {sb g : Nat} {z : Int} (hg : W.heap[g]? = some (.cells #[.int .i64 1, .int .i64 30, .int .i64 31] 2)) (hd : Drew sb W W') (hne : g ≠ sb) (z0 : 0 ≤ z) (z1 : z < 3) : ∃ y : Int, W'.cell? ⟨g, z.toNat, none⟩ = some (.int .i64 y) ∧ 1 ≤ y ∧ y ≤ 31 := by
  have hz : z = 0 ∨ z = 1 ∨ z = 2 := by omega
  have hh := (hd.2.2.2.2.2 g (Array.getElem?_eq_some_iff.1 hg).1 hne).trans hg
  simp only [World.cell?, hh]
  rcases hz with rfl | rfl | rfl
  · exact ⟨1, rfl, by omega, by omega⟩
  · exact ⟨30, rfl, by omega, by omega⟩
  · exact ⟨31, rfl, by omega, by omega⟩
theorem dinfo_mark : (Tryd.prog.info? 156).map (fun i => (i.zero, i.size, i.bytes)) = some (some (.agg #[.int .i64 0, .int .i64 0]), 2, 16) := by kernel_rfl
theorem dinfo_rule : (Tryd.prog.info? 78).map (fun i => (i.zero, i.size, i.bytes)) = some (some (.agg #[.int .i64 0, .int .i64 0]), 2, 16) := by kernel_rfl
/-- What stands ahead of the end. -/
def FinS (w : World) (sb : Nat) (W : World) : Prop := ∃ ca cn ck ra rn rk v c r, (W.rowIs (w.heap.size + 1) 66 3 (d3 (.slice ca cn ck) (.slice ra rn rk) (.int .i64 v)) ∧ W.rowIs w.heap.size 66 3 (d3 (.slice none 0 0) (.slice none 0 0) (.int .i64 0))) ∧ (cn ≤ 31 ∧ rn ≤ 4) ∧ (OwnPrs (w.heap.size + 2) ca cn c W ∧ OwnPrs (w.heap.size + 2) ra rn r W) ∧ (Drew sb w W ∧ sb < w.heap.size)
theorem fin_of {w : World} {sb : Nat} {cv rv : Value} {zs ys : List St.Pr} {v : Int} {W : World} (h : SD w sb cv rv zs ys v W) (h1 : zs.length ≤ 31) (h2 : ys.length ≤ 4) : FinS w sb W := by
  obtain ⟨a, k, rfl, h3⟩ := own_own h.cu
  obtain ⟨a', k', rfl, h4⟩ := own_own h.ru
  exact ⟨_, _, _, _, _, _, _, _, _, ⟨h.box, h.res⟩, ⟨h1, h2⟩, ⟨h3, h4⟩, h.dr, h.lt⟩
theorem PrBlk.set {ty : TypeId} {g n : Nat} {ps : Nat → St.Pr} {W : World} (h : PrBlk ty g n ps W) (j : Nat) (x : Int) : ∃ ps', PrBlk ty g n ps' (W.setCell ⟨g, j, none⟩ (.int .i64 x)) := by
  obtain ⟨m, F, h1, h2, h3⟩ := h
  refine ⟨fun i => ⟨if j = i * 2 then x else (ps i).a, if j = i * 2 + 1 then x else (ps i).b⟩, m, _, h1, h2.set j _, fun q hq => ?_⟩
  show (if q = j then _ else F q) = _
  by_cases e : q = j
  · subst e
    rw [if_pos rfl]
    unfold prRow prCell
    by_cases h0 : q % 2 = 0
    · rw [if_pos h0]; dsimp only; rw [if_pos (by omega)]
    · rw [if_neg h0]; dsimp only; rw [if_pos (by omega)]
  · rw [if_neg e, h3 q hq]
    unfold prRow prCell
    by_cases h0 : q % 2 = 0
    · rw [if_pos h0, if_pos h0]; dsimp only; rw [if_neg (by omega)]
    · rw [if_neg h0, if_neg h0]; dsimp only; rw [if_neg (by omega)]
/-- What stands while a store is spoilt. -/
structure SE (w : World) (sb g1 n k1 g2 m k2 : Nat) (c r : Nat → St.Pr) (v : Int) (W : World) : Prop where
  box : W.rowIs (w.heap.size + 1) 66 3 (d3 (.slice (some ⟨g1, 0, none⟩) n k1) (.slice (some ⟨g2, 0, none⟩) m k2) (.int .i64 v))
  res : W.rowIs w.heap.size 66 3 (d3 (.slice none 0 0) (.slice none 0 0) (.int .i64 0))
  cu : PrBlk 156 g1 n c W
  ru : PrBlk 78 g2 m r W
  lo : (w.heap.size + 2 ≤ g1 ∧ w.heap.size + 2 ≤ g2) ∧ g1 ≠ g2
  dr : Drew sb w W
  lt : sb < w.heap.size
theorem se_of {w : World} {sb : Nat} {cv rv : Value} {zs ys : List St.Pr} {v : Int} {W : World} (h : SD w sb cv rv zs ys v W) (h1 : zs ≠ []) (h2 : ys ≠ []) : ∃ g1 k1 g2 k2, cv = .slice (some ⟨g1, 0, none⟩) zs.length k1 ∧ rv = .slice (some ⟨g2, 0, none⟩) ys.length k2 ∧ SE w sb g1 zs.length k1 g2 ys.length k2 (prList zs) (prList ys) v W := by
  rcases own_prs h.cu with ⟨_, e⟩ | ⟨g1, k1, e1, b1, p1⟩
  · exact absurd e h1
  · rcases own_prs h.ru with ⟨_, e⟩ | ⟨g2, k2, e2, b2, p2⟩
    · exact absurd e h2
    · subst e1; subst e2
      exact ⟨g1, k1, g2, k2, rfl, rfl, h.box, h.res, p1, p2, ⟨⟨b1, b2⟩, fun e => h.two (k := g1) rfl (by rw [e]; rfl)⟩, h.dr, h.lt⟩
section
variable {w : World} {sb g1 n k1 g2 m k2 : Nat} {c r : Nat → St.Pr} {v : Int} {W : World}
theorem SE.fin (h : SE w sb g1 n k1 g2 m k2 c r v W) (h1 : n ≤ 31) (h2 : m ≤ 4) : FinS w sb W :=
  ⟨_, _, _, _, _, _, _, c, r, ⟨h.box, h.res⟩, ⟨h1, h2⟩, ⟨Or.inr ⟨g1, rfl, h.lo.1.1, fun _ hi => h.cu.cells hi⟩, Or.inr ⟨g2, rfl, h.lo.1.2, fun _ hi => h.ru.cells hi⟩⟩, h.dr, h.lt⟩
theorem SE.setV (h : SE w sb g1 n k1 g2 m k2 c r v W) (x : Int) : SE w sb g1 n k1 g2 m k2 c r x (W.setCell ⟨w.heap.size + 1, 2, none⟩ (.int .i64 x)) := by
  have blk : ∀ k, k ≠ w.heap.size + 1 → (W.setCell ⟨w.heap.size + 1, 2, none⟩ (.int .i64 x)).heap[k]? = W.heap[k]? := fun k hk => Below.heap_setCell _ _ _ _ hk
  have := h.lo
  exact ⟨d3_set2 h.box _, h.res.of_block (blk _ (by omega)), h.cu.block (blk _ (by omega)), h.ru.block (blk _ (by omega)), h.lo, h.dr.set h.lt (p := ⟨w.heap.size + 1, 2, none⟩) (by show w.heap.size ≤ w.heap.size + 1; omega) _, h.lt⟩
theorem SE.setC (h : SE w sb g1 n k1 g2 m k2 c r v W) (j : Nat) (x : Int) : ∃ c', SE w sb g1 n k1 g2 m k2 c' r v (W.setCell ⟨g1, j, none⟩ (.int .i64 x)) := by
  obtain ⟨c', hc⟩ := h.cu.set j x
  have blk : ∀ k, k ≠ g1 → (W.setCell ⟨g1, j, none⟩ (.int .i64 x)).heap[k]? = W.heap[k]? := fun k hk => Below.heap_setCell _ _ _ _ hk
  have := h.lo
  exact ⟨c', h.box.of_block (blk _ (by omega)), h.res.of_block (blk _ (by omega)), hc, h.ru.block (blk _ (by omega)), h.lo, h.dr.set h.lt (p := ⟨g1, j, none⟩) (by show w.heap.size ≤ g1; omega) _, h.lt⟩
theorem SE.setR (h : SE w sb g1 n k1 g2 m k2 c r v W) (j : Nat) (x : Int) : ∃ r', SE w sb g1 n k1 g2 m k2 c r' v (W.setCell ⟨g2, j, none⟩ (.int .i64 x)) := by
  obtain ⟨r', hc⟩ := h.ru.set j x
  have blk : ∀ k, k ≠ g2 → (W.setCell ⟨g2, j, none⟩ (.int .i64 x)).heap[k]? = W.heap[k]? := fun k hk => Below.heap_setCell _ _ _ _ hk
  have := h.lo
  exact ⟨r', h.box.of_block (blk _ (by omega)), h.res.of_block (blk _ (by omega)), h.cu.block (blk _ (by omega)), hc, h.lo, h.dr.set h.lt (p := ⟨g2, j, none⟩) (by show w.heap.size ≤ g2; omega) _, h.lt⟩
theorem SE.nilR (h : SE w sb g1 n k1 g2 m k2 c r v W) (h1 : n ≤ 31) : FinS w sb (W.setCell ⟨w.heap.size + 1, 1, none⟩ (.slice none 0 0)) := by
  have blk : ∀ k, k ≠ w.heap.size + 1 → (W.setCell ⟨w.heap.size + 1, 1, none⟩ (.slice none 0 0)).heap[k]? = W.heap[k]? := fun k hk => Below.heap_setCell _ _ _ _ hk
  have := h.lo
  exact ⟨_, _, _, none, 0, 0, _, c, r, ⟨d3_set1 h.box _, h.res.of_block (blk _ (by omega))⟩, ⟨h1, by omega⟩, ⟨Or.inr ⟨g1, rfl, h.lo.1.1, fun _ hi => (h.cu.block (blk _ (by omega))).cells hi⟩, Or.inl rfl⟩, h.dr.set h.lt (p := ⟨w.heap.size + 1, 1, none⟩) (by show w.heap.size ≤ w.heap.size + 1; omega) _, h.lt⟩
theorem SE.draw {W' : World} (h : SE w sb g1 n k1 g2 m k2 c r v W) (hd : Drew sb W W') : SE w sb g1 n k1 g2 m k2 c r v W' := by
  have := h.lo
  have hl := h.lt
  exact ⟨h.box.of_block (hd.2.2.2.2.2 _ h.box.lt (by omega)), h.res.of_block (hd.2.2.2.2.2 _ h.res.lt (by omega)), h.cu.block (hd.2.2.2.2.2 _ h.cu.lt (by omega)), h.ru.block (hd.2.2.2.2.2 _ h.ru.lt (by omega)), h.lo, h.dr.step hd, h.lt⟩
end
def BoxS (w : World) (g1 n k1 g2 m k2 : Nat) (v : Int) (W : World) : Prop := W.rowIs (w.heap.size + 1) 66 3 (d3 (.slice (some ⟨g1, 0, none⟩) n k1) (.slice (some ⟨g2, 0, none⟩) m k2) (.int .i64 v))
theorem BoxS.draw {w : World} {g1 n k1 g2 m k2 : Nat} {v : Int} {W : World} (h : BoxS w g1 n k1 g2 m k2 v W) : BoxS w g1 n k1 g2 m k2 v W.drew := World.rowIs.of_block h rfl
theorem fin_put {w : World} {sb : Nat} {ca ra : Option Addr} {cn ck rn rk : Nat} {c r : Nat → St.Pr} {v : Int} {W : World} (h1 : OwnPrs (w.heap.size + 2) ca cn c W) (h2 : OwnPrs (w.heap.size + 2) ra rn r W) (hd : Drew sb w W) (hl : sb < w.heap.size) :
    ∃ c r, (OwnPrs w.heap.size ca cn c (((W.setCell ⟨w.heap.size, 0, none⟩ (.slice ca cn ck)).setCell ⟨w.heap.size, 1, none⟩ (.slice ra rn rk)).setCell ⟨w.heap.size, 2, none⟩ (.int .i64 v)) ∧ OwnPrs w.heap.size ra rn r (((W.setCell ⟨w.heap.size, 0, none⟩ (.slice ca cn ck)).setCell ⟨w.heap.size, 1, none⟩ (.slice ra rn rk)).setCell ⟨w.heap.size, 2, none⟩ (.int .i64 v))) ∧ Drew sb w (((W.setCell ⟨w.heap.size, 0, none⟩ (.slice ca cn ck)).setCell ⟨w.heap.size, 1, none⟩ (.slice ra rn rk)).setCell ⟨w.heap.size, 2, none⟩ (.int .i64 v)) := by
  have far : ∀ k, w.heap.size + 2 ≤ k → (((W.setCell ⟨w.heap.size, 0, none⟩ (.slice ca cn ck)).setCell ⟨w.heap.size, 1, none⟩ (.slice ra rn rk)).setCell ⟨w.heap.size, 2, none⟩ (.int .i64 v)).heap[k]? = W.heap[k]? := fun k hk =>
    (Below.heap_setCell _ ⟨w.heap.size, 2, none⟩ _ _ (by show k ≠ w.heap.size; omega)).trans ((Below.heap_setCell _ ⟨w.heap.size, 1, none⟩ _ _ (by show k ≠ w.heap.size; omega)).trans (Below.heap_setCell _ ⟨w.heap.size, 0, none⟩ _ _ (by show k ≠ w.heap.size; omega)))
  have lower : ∀ {a : Option Addr} {n : Nat} {ps : Nat → St.Pr} {W : World}, OwnPrs (w.heap.size + 2) a n ps W → OwnPrs w.heap.size a n ps W := fun h => h.elim Or.inl (fun ⟨g, e, hg, h⟩ => Or.inr ⟨g, e, by omega, h⟩)
  exact ⟨c, r, ⟨lower (h1.same (fun k hk _ => far k hk)), lower (h2.same (fun k hk _ => far k hk))⟩, ((hd.set hl (p := ⟨w.heap.size, 0, none⟩) (Nat.le_refl _) _).set hl (p := ⟨w.heap.size, 1, none⟩) (Nat.le_refl _) _).set hl (p := ⟨w.heap.size, 2, none⟩) (Nat.le_refl _) _⟩
/-- A store that was drawn. -/
def DsEnd (w : World) (sb : Nat) (e : Ending) (W : World) : Prop := ∃ ca cn ck ra rn rk v c r, e = .returned (.agg #[.slice ca cn ck, .slice ra rn rk, .int .i64 v]) ∧ (cn ≤ 31 ∧ rn ≤ 4) ∧ (OwnPrs w.heap.size ca cn c W ∧ OwnPrs w.heap.size ra rn r W) ∧ Drew sb w W
set_option maxRecDepth 100000 in
set_option maxHeartbeats 4000000 in
theorem store_any (sb : Nat) (w : World) (h : Src sb w) :
    Calls Tryd.prog 83 #[.pointer (some ⟨sb, 0, none⟩)] w fun e w' => DsEnd w sb e w' := by
  obtain ⟨W, hW⟩ : ∃ W, W = (w.alloc (.cells #[.slice none 0 0, .slice none 0 0, .int .i64 0] 66)).alloc (.cells #[.slice none 0 0, .slice none 0 0, .int .i64 0] 66) := ⟨_, rfl⟩
  have SD0 : Hid (SD w sb (.slice none 0 0) (.slice none 0 0) [] [] 0 W) := by
    have hb : Below w.heap.size w W := by rw [hW]; exact ((Below.refl _ _).alloc (Nat.le_refl _) _).alloc (by simp) _
    refine ⟨?_, ?_, World.ownsRow_nil _ _ _ _, World.ownsRow_nil _ _ _ _, ⟨h.below hb, Chg.of_below hb⟩, h.lt⟩
    · rw [hW]
      have := drow3 (w.alloc (.cells #[.slice none 0 0, .slice none 0 0, .int .i64 0] 66)) (.slice none 0 0) (.slice none 0 0) (.int .i64 0) 66
      rwa [World.size_alloc] at this
    · rw [hW]; exact (drow3 w _ _ _ _).of_block (blk_alloc_lt _ _ _ (by simp))
  have HW := Lib.hid hW
  obtain ⟨i0, hi0, hz0, hz1, hz2⟩ := info_parts dinfo_mark
  obtain ⟨i1, hi1, hz3, hz4, hz5⟩ := info_parts dinfo_rule
  have HI1 := Lib.hid (And.intro hi1 (And.intro hz3 (And.intro hz4 hz5)))
  have HI0 := Lib.hid (And.intro hi0 (And.intro hz0 (And.intro hz1 hz2)))
  clear hW h hi0 hz0 hz1 hz2 hi1 hz3 hz4 hz5
  go_enter Tryd.func83, Tryd.ntmps83
  go_wp2_with fail
  rw [← HW.out]
  refine (n_any sb 50 _ SD0.out.dr.1 (by omega)).mono ?_
  rintro e W1 ⟨⟨a1, rfl, a10, a11, _⟩, hD⟩
  have a12 := a11 (by omega)
  have SD1 := Lib.hid (SD0.out.draw hD)
  clear hD a11 SD0
  go_wp2_with fail
  refine (n_any sb 20 _ SD1.out.dr.1 (by omega)).mono ?_
  rintro e W2 ⟨⟨a2, rfl, a20, a21, _⟩, hD⟩
  have a22 := a21 (by omega)
  have SD2 := Lib.hid (SD1.out.draw hD)
  clear hD a21 SD1
  go_wp2_with fail
  refine (n_any sb 5 _ SD2.out.dr.1 (by omega)).mono ?_
  rintro e W3 ⟨⟨a3, rfl, a30, a31, _⟩, hD⟩
  have a32 := a31 (by omega)
  have SD3 := Lib.hid (SD2.out.draw hD)
  clear hD a31 SD2
  go_wp2_with fail
  refine (one_any sb 40 _ SD3.out.dr.1 (by omega)).mono ?_
  rintro e W4 ⟨⟨b, rfl⟩, hD⟩
  have SD4 := Lib.hid (SD3.out.draw hD)
  clear hD SD3
  go_upto_if 19 with fail
  go_cut [6] from 10 (fun nv wc => ∃ N : Nat, 1 ≤ N ∧ N ≤ 31 ∧ nv = .int .i64 N ∧ Hid (SD w sb (.slice none 0 0) (.slice none 0 0) [] [] 0 wc))
  case first =>
    cases b with
    | false =>
      go_wp2_with fail
      go_meet
      case rel => exact ⟨(2 + a3).toNat, by omega, by omega, by rw [Int.toNat_of_nonneg (by omega)], SD4⟩
    | true =>
      have hgg : (W4.alloc (.cells #[.int .i64 1, .int .i64 30, .int .i64 31] 2)).heap[W4.heap.size]? = some (.cells #[.int .i64 1, .int .i64 30, .int .i64 31] 2) := blk_alloc_new _ _
      have HGG := Lib.hid hgg
      have SD5 := Lib.hid (SD4.out.alloc (.cells #[.int .i64 1, .int .i64 30, .int .i64 31] 2))
      have HNE : Hid (W4.heap.size ≠ sb) := by show _ ≠ _; have := SD4.out.box.lt; have := SD4.out.lt; omega
      clear hgg
      go_wp2_with fail
      refine (n_any sb 3 _ SD5.out.dr.1 (by omega)).mono ?_
      rintro e W5 ⟨⟨z, rfl, z0, z1, _⟩, hD⟩
      have z2 := z1 (by omega)
      obtain ⟨x, hx, x0, x1⟩ := three30 HGG.out hD HNE.out z0 z2
      have SD6 := Lib.hid (SD5.out.draw hD)
      clear hD z1
      go_wp2_with fail
      go_meet
      case rel => exact ⟨x.toNat, by omega, by omega, by rw [Int.toNat_of_nonneg (by omega)], SD6⟩
  case rest =>
    obtain ⟨N, hN1, hN2, rfl, hS⟩ := hcut
    clear SD4
    go_wp2_with fail
    go_loopw [7, 4, 5] (fun iv lv vv wr => ∃ (i : Nat) (l u : Int) (cv : Value) (zs : List St.Pr), i ≤ N ∧ iv = .int .i64 i ∧ lv = .int .i64 l ∧ vv = .int .i64 u ∧ (0 ≤ l ∧ l ≤ 50 + 50 * (i : Int)) ∧ (0 ≤ u ∧ u ≤ 50 + 600 * (i : Int)) ∧ Hid (zs.length = i) ∧ Hid (SD w sb cv (.slice none 0 0) zs [] 0 wr)) (fun iv _ _ _ => N - (intOf iv).toNat)
    case atStart => exact ⟨0, a1, a2, _, [], Nat.zero_le _, rfl, rfl, rfl, ⟨by omega, by omega⟩, ⟨by omega, by omega⟩, rfl, hS⟩
    case round =>
      obtain ⟨i, l, u, cv, zs, hi, rfl, rfl, rfl, ⟨l0, l1⟩, ⟨u0, u1⟩, hz, hD⟩ := hrel
      clear hS
      by_cases hlt : i < N
      · have hltz : (i : Int) < (N : Int) := by omega
        obtain ⟨ca, ck, hcv⟩ := ownShape hD.out.cu
        subst hcv
        obtain ⟨⟨y0, y1, y2⟩, _⟩ := d3_cells hD.out.box
        have hbl : w.heap.size + 1 < wr.heap.size := hD.out.box.lt
        obtain ⟨hi0, hz0, hz1, hz2⟩ := HI0.out
        go_wp2_with (at_builtin; refine wpList_append_own _ rfl _ _ 63 rfl (w.heap.size + 2) 156 i0 (.agg #[.int .i64 0, .int .i64 0]) 2 16 Tryd.underlying63 hi0 hz0 hz1 hz2 rfl (by decide) _ _ _ rfl (hD.out.cu.alloc _) ⟨wr.heap.size, 0, none⟩ 1 1 (prCells ⟨l, u⟩) rfl rfl ?c1 ?c2 ?c3 ?c4 ?c5 ?_)
        try (case c1 => (intro j uu hj; match j, hj with
          | 0, hj => (simp [prCells] at hj; subst hj; simp [Addr.add])
          | 1, hj => (simp [prCells] at hj; subst hj; simp [Addr.add])))
        try (case c2 => (intro uu hu; simp [prCells] at hu; rcases hu with rfl | rfl <;> rfl))
        try (case c3 => (have := hz.out; unfold maxLen; omega))
        try (case c4 => (have := hz.out; omega))
        try (case c5 => first | omega | (simp; omega))
        intro v' W9 hown hgrow hnil
        have R9 := Lib.hid (hD.out.pushC (x := ⟨l, u⟩) hgrow hown)
        have hrow9 := hD.out.push_boxC hgrow
        obtain ⟨na, nk, hv'⟩ := ownShape hown
        subst hv'
        clear y0 y1 y2
        obtain ⟨⟨y0, y1, y2⟩, q0, q1, q2⟩ := d3_cells hrow9
        clear hown hgrow hnil hrow9 hi0 hz0 hz1 hz2
        go_wp2_with fail
        clear y0 y1 y2 q0 q1 q2 hbl
        obtain ⟨WE, hWE⟩ : ∃ WE, WE = W9.setCell ⟨w.heap.size + 1, 0, none⟩ (.slice na (zs.length + 1) nk) := ⟨_, rfl⟩
        rw [← hWE] at R9 ⊢
        clear hWE
        refine (n_any sb 40 _ R9.out.dr.1 (by omega)).mono ?_
        rintro e WF ⟨⟨x9, rfl, x90, x91, _⟩, hDr⟩
        have x92 := x91 (by omega)
        have R10 := Lib.hid (R9.out.draw hDr)
        clear hDr R9 x91
        go_wp2_with fail
        refine (n_any sb 500 _ R10.out.dr.1 (by omega)).mono ?_
        rintro e WG ⟨⟨x8, rfl, x80, x81, _⟩, hDr⟩
        have x82 := x81 (by omega)
        have R11 := Lib.hid (R10.out.draw hDr)
        clear hDr R10 x81
        go_wp2_with fail
        go_roundw
        case rel => exact ⟨i + 1, l + 1 + x9, u + 1 + x8, _, zs ++ [⟨l, u⟩], by omega, by go_num, by go_num, by go_num, ⟨by omega, by omega⟩, ⟨by omega, by omega⟩, by show _ = _; have := hz.out; simp; omega, R11⟩
        case measure => simp [intOf]; omega
      · obtain rfl : i = N := by omega
        go_wp2_with fail
        refine (n_any sb 4 _ hD.out.dr.1 (by omega)).mono ?_
        rintro e WH ⟨⟨a4, rfl, a40, a41, _⟩, hDr⟩
        have a42 := a41 (by omega)
        have S1 := Lib.hid (hD.out.draw hDr)
        clear hDr hD a41
        have K0 : Hid ((zs.length : Int) = (i : Int)) := by show _ = _; have := hz.out; omega
        obtain ⟨kk, hkk⟩ : ∃ kk, kk = 1 + a4 := ⟨_, rfl⟩
        have HKK := Lib.hid hkk
        have kk0 : 1 ≤ kk := by omega
        have kk1 : kk ≤ 4 := by omega
        clear hkk
        go_wp2_with fail
        go_loopw [9, 8] (fun kv fv wr => ∃ (k fr : Int) (rv : Value) (ys : List St.Pr), kv = .int .i64 k ∧ fv = .int .i64 fr ∧ (0 ≤ k ∧ k ≤ 4) ∧ (0 ≤ fr ∧ fr ≤ 151) ∧ Hid ((ys.length : Int) + k = kk) ∧ Hid (ys = [] → fr = 0) ∧ Hid (SD w sb cv rv zs ys 0 wr)) (fun kv _ _ => (intOf kv).toNat)
        case atStart => exact ⟨1 + a4, 0, _, [], rfl, rfl, ⟨by omega, by omega⟩, ⟨by omega, by omega⟩, by show _ = _; have := HKK.out; simp; omega, fun _ => rfl, S1⟩
        case round =>
          obtain ⟨k, fr, rv, ys, rfl, rfl, ⟨k0, k4⟩, ⟨fr0, fr1⟩, hlen, hnil0, hD⟩ := hrel
          clear S1
          by_cases hk : 0 < k
          · by_cases hf : fr ≤ 100
            · obtain ⟨sa, sk, hrv⟩ := ownShape hD.out.ru
              subst hrv
              have SD0 : Hid (SD w sb cv (.slice sa ys.length sk) zs ys 0 wr.drew) := hD.out.draw ⟨hD.out.dr.1, Chg.refl _ _⟩
              clear hD hnil0
              go_wp2_with fail
              refine wp_region_held_drew (S := fun _ => True) (by kernel_rfl) trivial (fun hHeld => ?_)
              refine take_do (i := 0) (v := (.pointer (some ⟨w.heap.size + 1, 1, none⟩))) rfl (by kernel_rfl) (by kernel_rfl) (by kernel_rfl) (fun _ _ _ h => h) (by rfl) ?_ (by assumption) ?_
              · intro w hSw
                clear hSw
                go_simp
              simp only [Act.put, List.setIfInBounds_toArray, List.set_cons_zero, List.set_cons_succ]
              refine take_do (i := 2) (v := (.int .i64 fr)) rfl (by kernel_rfl) (by kernel_rfl) (by kernel_rfl) (fun _ _ _ h => h) (by rfl) ?_ (by assumption) ?_
              · intro w hSw
                clear hSw
                go_simp
              simp only [Act.put, List.setIfInBounds_toArray, List.set_cons_zero, List.set_cons_succ]
              refine take_do (i := 3) (v := (.pointer (some ⟨sb, 0, none⟩))) rfl (by kernel_rfl) (by kernel_rfl) (by kernel_rfl) (fun _ _ _ h => h) (by rfl) ?_ (by assumption) ?_
              · intro w hSw
                clear hSw
                go_simp
              simp only [Act.put, List.setIfInBounds_toArray, List.set_cons_zero, List.set_cons_succ]
              refine take_do (i := 6) (v := (.pointer (some ⟨sb, 0, none⟩))) rfl (by kernel_rfl) (by kernel_rfl) (by kernel_rfl) (fun _ _ _ h => h) (by rfl) ?_ (by assumption) ?_
              · intro w hSw
                clear hSw
                go_simp
              simp only [Act.put, List.setIfInBounds_toArray, List.set_cons_zero, List.set_cons_succ]
              refine wpAnyH_ready (rs := [1, 4]) (by kernel_rfl) (by simp) (AllReadyH.cons (at_drop (i := 1) rfl) (fun K2 hK => ?_) (AllReadyH.cons (at_drop (i := 4) rfl) (fun K2 hK => ?_) (AllReadyH.nil)))
              · obtain ⟨⟨l0, l1, l2⟩, _⟩ := d3_cells SD0.out.box
                go_simp
                refine hK.out _ _ trivial (fun hHeld => ?_)
                clear hK
                clear l0 l1 l2
                refine take_call (i := 4) rfl (by kernel_rfl) (fun K2 hK => ?_)
                go_simp
                refine (n_any sb 1001 _ SD0.out.dr.1 (by omega)).mono ?_
                rintro e Wa ⟨⟨x4, rfl, _, _, _⟩, hD⟩
                have SDa := Lib.hid (SD0.out.draw hD)
                clear hD
                go_wp2_with fail
                refine hK.out _ _ trivial (fun hHeld => ?_)
                clear hK
                refine wpAnyH_ready (rs := [5, 7]) (by kernel_rfl) (by simp) (AllReadyH.cons (at_drop (i := 5) rfl) (fun K2 hK => ?_) (AllReadyH.cons (at_drop (i := 7) rfl) (fun K2 hK => ?_) (AllReadyH.nil)))
                · go_simp
                  refine hK.out _ _ trivial (fun hHeld => ?_)
                  clear hK
                  obtain ⟨Wb, hWb⟩ : ∃ Wb, Wb = Wa.alloc (.cells #[.int .i64 1000, .int .i64 900, .int .i64 500, .int .i64 0, .int .i64 x4] 2) := ⟨_, rfl⟩
                  have SDb : Hid (SD w sb cv (.slice sa ys.length sk) zs ys 0 Wb) := by show SD _ _ _ _ _ _ _ _; rw [hWb]; exact SDa.out.alloc _
                  have HG5 : Hid (Wb.heap[Wa.heap.size]? = some (.cells #[.int .i64 1000, .int .i64 900, .int .i64 500, .int .i64 0, .int .i64 x4] 2)) := by show _ = _; rw [hWb]; exact blk_alloc_new _ _
                  obtain ⟨g5, hg5⟩ : ∃ g5, g5 = Wa.heap.size := ⟨_, rfl⟩
                  have HN5 : Hid (w.heap.size + 2 ≤ g5) := by show _ ≤ _; rw [hg5]; exact SDa.out.box.lt
                  rw [← hg5] at HG5 ⊢
                  rw [← hWb]
                  clear hWb hg5
                  refine take_call (i := 7) rfl (by kernel_rfl) (fun K2 hK => ?_)
                  go_simp
                  refine (n_any sb 5 _ SDb.out.dr.1 (by omega)).mono ?_
                  rintro e Wc ⟨⟨x7, rfl, z7, z7a, _⟩, hD⟩
                  have z7b := z7a (by omega)
                  clear z7a
                  have SDc := Lib.hid (SDb.out.draw hD)
                  obtain ⟨yy, hyy⟩ := fiveD x4 HG5.out hD (by have := HN5.out; have := SDb.out.lt; omega) z7 z7b
                  have HYY := Lib.hid hyy
                  clear hyy
                  clear hD
                  go_wp2_with fail
                  refine hK.out _ _ trivial (fun hHeld => ?_)
                  clear hK
                  refine take_do (i := 8) (v := (.pointer (some ⟨g5, x7.toNat, none⟩))) rfl (by kernel_rfl) (by kernel_rfl) (by kernel_rfl) (fun _ _ _ h => h) (by rfl) ?_ (by assumption) ?_
                  · intro w hSw
                    clear hSw
                    go_simp
                  simp only [Act.put, List.setIfInBounds_toArray, List.set_cons_zero, List.set_cons_succ]
                  refine take_call (i := 9) rfl (by kernel_rfl) (fun K2 hK => ?_)
                  have hyy := HYY.out
                  go_simp
                  refine hK.out _ _ trivial (fun hHeld => ?_)
                  clear hK
                  clear hyy
                  refine take_do (i := 10) (v := (prV ⟨fr, yy⟩)) rfl (by kernel_rfl) (by kernel_rfl) (by kernel_rfl) (fun _ _ _ h => h) (by rfl) ?_ (by assumption) ?_
                  · intro w hSw
                    clear hSw
                    go_simp
                  simp only [Act.put, List.setIfInBounds_toArray, List.set_cons_zero, List.set_cons_succ]
                  refine take_call (i := 11) rfl (by kernel_rfl) (fun K2 hK => ?_)
                  go_simp
                  refine hK.out _ _ trivial (fun hHeld => ?_)
                  clear hK
                  obtain ⟨Wd, hWd⟩ : ∃ Wd, Wd = Wc.alloc (.cells #[.int .i64 fr, .int .i64 yy] 78) := ⟨_, rfl⟩
                  have HN9 : Hid (Wd.cell? ⟨Wc.heap.size, 0, none⟩ = some (.int .i64 fr) ∧ Wd.cell? ⟨Wc.heap.size, 1, none⟩ = some (.int .i64 yy)) := by
                    show _ ∧ _
                    rw [hWd]
                    refine ⟨?_, ?_⟩ <;> (simp only [World.cell?, blk_alloc_new]; rfl)
                  have HOW : Hid (Wd.ownsRow (w.heap.size + 2) 78 2 (.slice sa ys.length sk) ys.length (ys.flatMap prCells)) := by show World.ownsRow _ _ _ _ _ _ _; rw [hWd]; exact SDc.out.ru.alloc _
                  have HSZ9 : Hid (w.heap.size + 2 ≤ Wd.heap.size) := by show _ ≤ _; rw [hWd]; have := SDc.out.box.lt; simp; omega
                  have SDp := SDc
                  have HWD := Lib.hid hWd
                  obtain ⟨g9, hg9⟩ : ∃ g9, g9 = Wc.heap.size := ⟨_, rfl⟩
                  rw [← hg9] at HN9 ⊢
                  rw [← hWd]
                  clear hWd hg9
                  refine take_call (i := 12) rfl (by kernel_rfl) (fun K2 hK => ?_)
                  refine step_append_ownx rfl (.tmp 60) (.tmp 70) 64 rfl (w.heap.size + 2) 78 i1 (.agg #[.int .i64 0, .int .i64 0]) 2 16 Tryd.underlying64 HI1.out.1 HI1.out.2.1 HI1.out.2.2.1 HI1.out.2.2.2 rfl (by decide) (.slice sa ys.length sk) ys.length (ys.flatMap prCells) rfl HOW.out ⟨g9, 0, none⟩ 1 1 (prCells ⟨fr, yy⟩) rfl rfl ?_ ?_ (by have := hlen.out; unfold maxLen; omega) (by have := hlen.out; omega) HSZ9.out ?_
                  · intro j u hj
                    have hj2 : j = 0 ∨ j = 1 := by
                      have := (List.getElem?_eq_some_iff.1 hj).1
                      simp [prCells] at this; omega
                    rw [Addr.add_lit]
                    rcases hj2 with rfl | rfl
                    · simp [prCells] at hj; rw [← hj]; exact HN9.out.1
                    · simp [prCells] at hj; rw [← hj]; exact HN9.out.2
                  · intro u hu
                    simp [prCells] at hu
                    rcases hu with rfl | rfl <;> rfl
                  intro v' W9 hown hgrow
                  rw [HWD.out] at hgrow
                  have R9 := Lib.hid (SDp.out.pushR (x := ⟨fr, yy⟩) hgrow hown)
                  have hrow9 : W9.rowIs (w.heap.size + 1) 66 3 (d3 cv (.slice sa ys.length sk) (.int .i64 0)) := SDp.out.push_box hgrow
                  obtain ⟨na, nk, hv'⟩ := ownShape hown
                  subst hv'
                  refine hK.out _ _ trivial (fun hHeld => ?_)
                  obtain ⟨⟨y0, y1, y2⟩, q0, q1, q2⟩ := d3_cells hrow9
                  clear hK hown hgrow hrow9
                  simp only [Act.put, List.setIfInBounds_toArray, List.set_cons_zero, List.set_cons_succ]
                  refine take_do (i := 13) (v := (.pointer (some ⟨w.heap.size + 1, 1, none⟩))) rfl (by kernel_rfl) (by kernel_rfl) (by kernel_rfl) (fun _ _ _ h => h) (by rfl) ?_ (by assumption) ?_
                  · intro w hSw
                    clear hSw
                    go_simp
                  simp only [Act.put, List.setIfInBounds_toArray, List.set_cons_zero, List.set_cons_succ]
                  refine take_call (i := 14) rfl (by kernel_rfl) (fun K2 hK => ?_)
                  go_simp
                  refine hK.out _ _ trivial (fun _ => ?_)
                  clear hK y0 y1 y2 q0 q1 q2
                  refine wpAnyH_done (by kernel_rfl) ?_ _
                  obtain ⟨WE, hWE⟩ : ∃ WE, WE = W9.setCell ⟨w.heap.size + 1, 1, none⟩ (.slice na (ys.length + 1) nk) := ⟨_, rfl⟩
                  rw [← hWE] at R9 ⊢
                  clear hWE
                  go_wp2_with fail
                  refine (n_any sb 50 _ R9.out.dr.1 (by omega)).mono ?_
                  rintro e WF ⟨⟨x9, rfl, x90, x91, _⟩, hD⟩
                  have x92 := x91 (by omega)
                  have R10 := Lib.hid (R9.out.draw hD)
                  clear hD R9 x91
                  go_wp2_with fail
                  go_roundw
                  case rel => exact ⟨k - 1, fr + 1 + x9, _, ys ++ [⟨fr, yy⟩], by go_num, by go_num, ⟨by omega, by omega⟩, ⟨by omega, by omega⟩, by show _ = _; have := hlen.out; simp; omega, fun e => by simp at e, R10⟩
                  case measure => simp [intOf]; omega
                · go_simp
                  refine (n_any sb 5 _ SDa.out.dr.1 (by omega)).mono ?_
                  rintro e Wc ⟨⟨x7, rfl, z7, z7a, _⟩, hD⟩
                  have z7b := z7a (by omega)
                  clear z7a
                  have SDc := Lib.hid (SDa.out.draw hD)
                  clear hD
                  go_wp2_with fail
                  refine hK.out _ _ trivial (fun hHeld => ?_)
                  clear hK
                  refine take_call (i := 5) rfl (by kernel_rfl) (fun K2 hK => ?_)
                  go_simp
                  refine hK.out _ _ trivial (fun hHeld => ?_)
                  clear hK
                  obtain ⟨Wb, hWb⟩ : ∃ Wb, Wb = Wc.alloc (.cells #[.int .i64 1000, .int .i64 900, .int .i64 500, .int .i64 0, .int .i64 x4] 2) := ⟨_, rfl⟩
                  have SDb : Hid (SD w sb cv (.slice sa ys.length sk) zs ys 0 Wb) := by show SD _ _ _ _ _ _ _ _; rw [hWb]; exact SDc.out.alloc _
                  have HG5 : Hid (Wb.heap[Wc.heap.size]? = some (.cells #[.int .i64 1000, .int .i64 900, .int .i64 500, .int .i64 0, .int .i64 x4] 2)) := by show _ = _; rw [hWb]; exact blk_alloc_new _ _
                  obtain ⟨g5, hg5⟩ : ∃ g5, g5 = Wc.heap.size := ⟨_, rfl⟩
                  have HN5 : Hid (w.heap.size + 2 ≤ g5) := by show _ ≤ _; rw [hg5]; exact SDc.out.box.lt
                  rw [← hg5] at HG5 ⊢
                  rw [← hWb]
                  clear hWb hg5
                  obtain ⟨yy, hyy⟩ := five x4 HG5.out z7 z7b
                  have HYY := Lib.hid hyy
                  clear hyy
                  refine take_do (i := 8) (v := (.pointer (some ⟨g5, x7.toNat, none⟩))) rfl (by kernel_rfl) (by kernel_rfl) (by kernel_rfl) (fun _ _ _ h => h) (by rfl) ?_ (by assumption) ?_
                  · intro w hSw
                    clear hSw
                    go_simp
                  simp only [Act.put, List.setIfInBounds_toArray, List.set_cons_zero, List.set_cons_succ]
                  refine take_call (i := 9) rfl (by kernel_rfl) (fun K2 hK => ?_)
                  have hyy := HYY.out
                  go_simp
                  refine hK.out _ _ trivial (fun hHeld => ?_)
                  clear hK
                  clear hyy
                  refine take_do (i := 10) (v := (prV ⟨fr, yy⟩)) rfl (by kernel_rfl) (by kernel_rfl) (by kernel_rfl) (fun _ _ _ h => h) (by rfl) ?_ (by assumption) ?_
                  · intro w hSw
                    clear hSw
                    go_simp
                  simp only [Act.put, List.setIfInBounds_toArray, List.set_cons_zero, List.set_cons_succ]
                  refine take_call (i := 11) rfl (by kernel_rfl) (fun K2 hK => ?_)
                  go_simp
                  refine hK.out _ _ trivial (fun hHeld => ?_)
                  clear hK
                  obtain ⟨Wd, hWd⟩ : ∃ Wd, Wd = Wb.alloc (.cells #[.int .i64 fr, .int .i64 yy] 78) := ⟨_, rfl⟩
                  have HN9 : Hid (Wd.cell? ⟨Wb.heap.size, 0, none⟩ = some (.int .i64 fr) ∧ Wd.cell? ⟨Wb.heap.size, 1, none⟩ = some (.int .i64 yy)) := by
                    show _ ∧ _
                    rw [hWd]
                    refine ⟨?_, ?_⟩ <;> (simp only [World.cell?, blk_alloc_new]; rfl)
                  have HOW : Hid (Wd.ownsRow (w.heap.size + 2) 78 2 (.slice sa ys.length sk) ys.length (ys.flatMap prCells)) := by show World.ownsRow _ _ _ _ _ _ _; rw [hWd]; exact SDb.out.ru.alloc _
                  have HSZ9 : Hid (w.heap.size + 2 ≤ Wd.heap.size) := by show _ ≤ _; rw [hWd]; have := SDb.out.box.lt; simp; omega
                  have SDp := SDb
                  have HWD := Lib.hid hWd
                  obtain ⟨g9, hg9⟩ : ∃ g9, g9 = Wb.heap.size := ⟨_, rfl⟩
                  rw [← hg9] at HN9 ⊢
                  rw [← hWd]
                  clear hWd hg9
                  refine take_call (i := 12) rfl (by kernel_rfl) (fun K2 hK => ?_)
                  refine step_append_ownx rfl (.tmp 60) (.tmp 70) 64 rfl (w.heap.size + 2) 78 i1 (.agg #[.int .i64 0, .int .i64 0]) 2 16 Tryd.underlying64 HI1.out.1 HI1.out.2.1 HI1.out.2.2.1 HI1.out.2.2.2 rfl (by decide) (.slice sa ys.length sk) ys.length (ys.flatMap prCells) rfl HOW.out ⟨g9, 0, none⟩ 1 1 (prCells ⟨fr, yy⟩) rfl rfl ?_ ?_ (by have := hlen.out; unfold maxLen; omega) (by have := hlen.out; omega) HSZ9.out ?_
                  · intro j u hj
                    have hj2 : j = 0 ∨ j = 1 := by
                      have := (List.getElem?_eq_some_iff.1 hj).1
                      simp [prCells] at this; omega
                    rw [Addr.add_lit]
                    rcases hj2 with rfl | rfl
                    · simp [prCells] at hj; rw [← hj]; exact HN9.out.1
                    · simp [prCells] at hj; rw [← hj]; exact HN9.out.2
                  · intro u hu
                    simp [prCells] at hu
                    rcases hu with rfl | rfl <;> rfl
                  intro v' W9 hown hgrow
                  rw [HWD.out] at hgrow
                  have R9 := Lib.hid (SDp.out.pushR (x := ⟨fr, yy⟩) hgrow hown)
                  have hrow9 : W9.rowIs (w.heap.size + 1) 66 3 (d3 cv (.slice sa ys.length sk) (.int .i64 0)) := SDp.out.push_box hgrow
                  obtain ⟨na, nk, hv'⟩ := ownShape hown
                  subst hv'
                  refine hK.out _ _ trivial (fun hHeld => ?_)
                  obtain ⟨⟨y0, y1, y2⟩, q0, q1, q2⟩ := d3_cells hrow9
                  clear hK hown hgrow hrow9
                  simp only [Act.put, List.setIfInBounds_toArray, List.set_cons_zero, List.set_cons_succ]
                  refine take_do (i := 13) (v := (.pointer (some ⟨w.heap.size + 1, 1, none⟩))) rfl (by kernel_rfl) (by kernel_rfl) (by kernel_rfl) (fun _ _ _ h => h) (by rfl) ?_ (by assumption) ?_
                  · intro w hSw
                    clear hSw
                    go_simp
                  simp only [Act.put, List.setIfInBounds_toArray, List.set_cons_zero, List.set_cons_succ]
                  refine take_call (i := 14) rfl (by kernel_rfl) (fun K2 hK => ?_)
                  go_simp
                  refine hK.out _ _ trivial (fun _ => ?_)
                  clear hK y0 y1 y2 q0 q1 q2
                  refine wpAnyH_done (by kernel_rfl) ?_ _
                  obtain ⟨WE, hWE⟩ : ∃ WE, WE = W9.setCell ⟨w.heap.size + 1, 1, none⟩ (.slice na (ys.length + 1) nk) := ⟨_, rfl⟩
                  rw [← hWE] at R9 ⊢
                  clear hWE
                  go_wp2_with fail
                  refine (n_any sb 50 _ R9.out.dr.1 (by omega)).mono ?_
                  rintro e WF ⟨⟨x9, rfl, x90, x91, _⟩, hD⟩
                  have x92 := x91 (by omega)
                  have R10 := Lib.hid (R9.out.draw hD)
                  clear hD R9 x91
                  go_wp2_with fail
                  go_roundw
                  case rel => exact ⟨k - 1, fr + 1 + x9, _, ys ++ [⟨fr, yy⟩], by go_num, by go_num, ⟨by omega, by omega⟩, ⟨by omega, by omega⟩, by show _ = _; have := hlen.out; simp; omega, fun e => by simp at e, R10⟩
                  case measure => simp [intOf]; omega
              · go_simp
                refine (n_any sb 1001 _ SD0.out.dr.1 (by omega)).mono ?_
                rintro e Wa ⟨⟨x4, rfl, _, _, _⟩, hD⟩
                have SDa := Lib.hid (SD0.out.draw hD)
                clear hD
                go_wp2_with fail
                refine hK.out _ _ trivial (fun hHeld => ?_)
                clear hK
                refine wpAnyH_ready (rs := [1, 5, 7]) (by kernel_rfl) (by simp) (AllReadyH.cons (at_drop (i := 1) rfl) (fun K2 hK => ?_) (AllReadyH.cons (at_drop (i := 5) rfl) (fun K2 hK => ?_) (AllReadyH.cons (at_drop (i := 7) rfl) (fun K2 hK => ?_) (AllReadyH.nil))))
                · obtain ⟨⟨l0, l1, l2⟩, _⟩ := d3_cells SDa.out.box
                  go_simp
                  refine hK.out _ _ trivial (fun hHeld => ?_)
                  clear hK
                  clear l0 l1 l2
                  refine wpAnyH_ready (rs := [5, 7]) (by kernel_rfl) (by simp) (AllReadyH.cons (at_drop (i := 5) rfl) (fun K2 hK => ?_) (AllReadyH.cons (at_drop (i := 7) rfl) (fun K2 hK => ?_) (AllReadyH.nil)))
                  · go_simp
                    refine hK.out _ _ trivial (fun hHeld => ?_)
                    clear hK
                    obtain ⟨Wb, hWb⟩ : ∃ Wb, Wb = Wa.alloc (.cells #[.int .i64 1000, .int .i64 900, .int .i64 500, .int .i64 0, .int .i64 x4] 2) := ⟨_, rfl⟩
                    have SDb : Hid (SD w sb cv (.slice sa ys.length sk) zs ys 0 Wb) := by show SD _ _ _ _ _ _ _ _; rw [hWb]; exact SDa.out.alloc _
                    have HG5 : Hid (Wb.heap[Wa.heap.size]? = some (.cells #[.int .i64 1000, .int .i64 900, .int .i64 500, .int .i64 0, .int .i64 x4] 2)) := by show _ = _; rw [hWb]; exact blk_alloc_new _ _
                    obtain ⟨g5, hg5⟩ : ∃ g5, g5 = Wa.heap.size := ⟨_, rfl⟩
                    have HN5 : Hid (w.heap.size + 2 ≤ g5) := by show _ ≤ _; rw [hg5]; exact SDa.out.box.lt
                    rw [← hg5] at HG5 ⊢
                    rw [← hWb]
                    clear hWb hg5
                    refine take_call (i := 7) rfl (by kernel_rfl) (fun K2 hK => ?_)
                    go_simp
                    refine (n_any sb 5 _ SDb.out.dr.1 (by omega)).mono ?_
                    rintro e Wc ⟨⟨x7, rfl, z7, z7a, _⟩, hD⟩
                    have z7b := z7a (by omega)
                    clear z7a
                    have SDc := Lib.hid (SDb.out.draw hD)
                    obtain ⟨yy, hyy⟩ := fiveD x4 HG5.out hD (by have := HN5.out; have := SDb.out.lt; omega) z7 z7b
                    have HYY := Lib.hid hyy
                    clear hyy
                    clear hD
                    go_wp2_with fail
                    refine hK.out _ _ trivial (fun hHeld => ?_)
                    clear hK
                    refine take_do (i := 8) (v := (.pointer (some ⟨g5, x7.toNat, none⟩))) rfl (by kernel_rfl) (by kernel_rfl) (by kernel_rfl) (fun _ _ _ h => h) (by rfl) ?_ (by assumption) ?_
                    · intro w hSw
                      clear hSw
                      go_simp
                    simp only [Act.put, List.setIfInBounds_toArray, List.set_cons_zero, List.set_cons_succ]
                    refine take_call (i := 9) rfl (by kernel_rfl) (fun K2 hK => ?_)
                    have hyy := HYY.out
                    go_simp
                    refine hK.out _ _ trivial (fun hHeld => ?_)
                    clear hK
                    clear hyy
                    refine take_do (i := 10) (v := (prV ⟨fr, yy⟩)) rfl (by kernel_rfl) (by kernel_rfl) (by kernel_rfl) (fun _ _ _ h => h) (by rfl) ?_ (by assumption) ?_
                    · intro w hSw
                      clear hSw
                      go_simp
                    simp only [Act.put, List.setIfInBounds_toArray, List.set_cons_zero, List.set_cons_succ]
                    refine take_call (i := 11) rfl (by kernel_rfl) (fun K2 hK => ?_)
                    go_simp
                    refine hK.out _ _ trivial (fun hHeld => ?_)
                    clear hK
                    obtain ⟨Wd, hWd⟩ : ∃ Wd, Wd = Wc.alloc (.cells #[.int .i64 fr, .int .i64 yy] 78) := ⟨_, rfl⟩
                    have HN9 : Hid (Wd.cell? ⟨Wc.heap.size, 0, none⟩ = some (.int .i64 fr) ∧ Wd.cell? ⟨Wc.heap.size, 1, none⟩ = some (.int .i64 yy)) := by
                      show _ ∧ _
                      rw [hWd]
                      refine ⟨?_, ?_⟩ <;> (simp only [World.cell?, blk_alloc_new]; rfl)
                    have HOW : Hid (Wd.ownsRow (w.heap.size + 2) 78 2 (.slice sa ys.length sk) ys.length (ys.flatMap prCells)) := by show World.ownsRow _ _ _ _ _ _ _; rw [hWd]; exact SDc.out.ru.alloc _
                    have HSZ9 : Hid (w.heap.size + 2 ≤ Wd.heap.size) := by show _ ≤ _; rw [hWd]; have := SDc.out.box.lt; simp; omega
                    have SDp := SDc
                    have HWD := Lib.hid hWd
                    obtain ⟨g9, hg9⟩ : ∃ g9, g9 = Wc.heap.size := ⟨_, rfl⟩
                    rw [← hg9] at HN9 ⊢
                    rw [← hWd]
                    clear hWd hg9
                    refine take_call (i := 12) rfl (by kernel_rfl) (fun K2 hK => ?_)
                    refine step_append_ownx rfl (.tmp 60) (.tmp 70) 64 rfl (w.heap.size + 2) 78 i1 (.agg #[.int .i64 0, .int .i64 0]) 2 16 Tryd.underlying64 HI1.out.1 HI1.out.2.1 HI1.out.2.2.1 HI1.out.2.2.2 rfl (by decide) (.slice sa ys.length sk) ys.length (ys.flatMap prCells) rfl HOW.out ⟨g9, 0, none⟩ 1 1 (prCells ⟨fr, yy⟩) rfl rfl ?_ ?_ (by have := hlen.out; unfold maxLen; omega) (by have := hlen.out; omega) HSZ9.out ?_
                    · intro j u hj
                      have hj2 : j = 0 ∨ j = 1 := by
                        have := (List.getElem?_eq_some_iff.1 hj).1
                        simp [prCells] at this; omega
                      rw [Addr.add_lit]
                      rcases hj2 with rfl | rfl
                      · simp [prCells] at hj; rw [← hj]; exact HN9.out.1
                      · simp [prCells] at hj; rw [← hj]; exact HN9.out.2
                    · intro u hu
                      simp [prCells] at hu
                      rcases hu with rfl | rfl <;> rfl
                    intro v' W9 hown hgrow
                    rw [HWD.out] at hgrow
                    have R9 := Lib.hid (SDp.out.pushR (x := ⟨fr, yy⟩) hgrow hown)
                    have hrow9 : W9.rowIs (w.heap.size + 1) 66 3 (d3 cv (.slice sa ys.length sk) (.int .i64 0)) := SDp.out.push_box hgrow
                    obtain ⟨na, nk, hv'⟩ := ownShape hown
                    subst hv'
                    refine hK.out _ _ trivial (fun hHeld => ?_)
                    obtain ⟨⟨y0, y1, y2⟩, q0, q1, q2⟩ := d3_cells hrow9
                    clear hK hown hgrow hrow9
                    simp only [Act.put, List.setIfInBounds_toArray, List.set_cons_zero, List.set_cons_succ]
                    refine take_do (i := 13) (v := (.pointer (some ⟨w.heap.size + 1, 1, none⟩))) rfl (by kernel_rfl) (by kernel_rfl) (by kernel_rfl) (fun _ _ _ h => h) (by rfl) ?_ (by assumption) ?_
                    · intro w hSw
                      clear hSw
                      go_simp
                    simp only [Act.put, List.setIfInBounds_toArray, List.set_cons_zero, List.set_cons_succ]
                    refine take_call (i := 14) rfl (by kernel_rfl) (fun K2 hK => ?_)
                    go_simp
                    refine hK.out _ _ trivial (fun _ => ?_)
                    clear hK y0 y1 y2 q0 q1 q2
                    refine wpAnyH_done (by kernel_rfl) ?_ _
                    obtain ⟨WE, hWE⟩ : ∃ WE, WE = W9.setCell ⟨w.heap.size + 1, 1, none⟩ (.slice na (ys.length + 1) nk) := ⟨_, rfl⟩
                    rw [← hWE] at R9 ⊢
                    clear hWE
                    go_wp2_with fail
                    refine (n_any sb 50 _ R9.out.dr.1 (by omega)).mono ?_
                    rintro e WF ⟨⟨x9, rfl, x90, x91, _⟩, hD⟩
                    have x92 := x91 (by omega)
                    have R10 := Lib.hid (R9.out.draw hD)
                    clear hD R9 x91
                    go_wp2_with fail
                    go_roundw
                    case rel => exact ⟨k - 1, fr + 1 + x9, _, ys ++ [⟨fr, yy⟩], by go_num, by go_num, ⟨by omega, by omega⟩, ⟨by omega, by omega⟩, by show _ = _; have := hlen.out; simp; omega, fun e => by simp at e, R10⟩
                    case measure => simp [intOf]; omega
                  · go_simp
                    refine (n_any sb 5 _ SDa.out.dr.1 (by omega)).mono ?_
                    rintro e Wc ⟨⟨x7, rfl, z7, z7a, _⟩, hD⟩
                    have z7b := z7a (by omega)
                    clear z7a
                    have SDc := Lib.hid (SDa.out.draw hD)
                    clear hD
                    go_wp2_with fail
                    refine hK.out _ _ trivial (fun hHeld => ?_)
                    clear hK
                    refine take_call (i := 5) rfl (by kernel_rfl) (fun K2 hK => ?_)
                    go_simp
                    refine hK.out _ _ trivial (fun hHeld => ?_)
                    clear hK
                    obtain ⟨Wb, hWb⟩ : ∃ Wb, Wb = Wc.alloc (.cells #[.int .i64 1000, .int .i64 900, .int .i64 500, .int .i64 0, .int .i64 x4] 2) := ⟨_, rfl⟩
                    have SDb : Hid (SD w sb cv (.slice sa ys.length sk) zs ys 0 Wb) := by show SD _ _ _ _ _ _ _ _; rw [hWb]; exact SDc.out.alloc _
                    have HG5 : Hid (Wb.heap[Wc.heap.size]? = some (.cells #[.int .i64 1000, .int .i64 900, .int .i64 500, .int .i64 0, .int .i64 x4] 2)) := by show _ = _; rw [hWb]; exact blk_alloc_new _ _
                    obtain ⟨g5, hg5⟩ : ∃ g5, g5 = Wc.heap.size := ⟨_, rfl⟩
                    have HN5 : Hid (w.heap.size + 2 ≤ g5) := by show _ ≤ _; rw [hg5]; exact SDc.out.box.lt
                    rw [← hg5] at HG5 ⊢
                    rw [← hWb]
                    clear hWb hg5
                    obtain ⟨yy, hyy⟩ := five x4 HG5.out z7 z7b
                    have HYY := Lib.hid hyy
                    clear hyy
                    refine take_do (i := 8) (v := (.pointer (some ⟨g5, x7.toNat, none⟩))) rfl (by kernel_rfl) (by kernel_rfl) (by kernel_rfl) (fun _ _ _ h => h) (by rfl) ?_ (by assumption) ?_
                    · intro w hSw
                      clear hSw
                      go_simp
                    simp only [Act.put, List.setIfInBounds_toArray, List.set_cons_zero, List.set_cons_succ]
                    refine take_call (i := 9) rfl (by kernel_rfl) (fun K2 hK => ?_)
                    have hyy := HYY.out
                    go_simp
                    refine hK.out _ _ trivial (fun hHeld => ?_)
                    clear hK
                    clear hyy
                    refine take_do (i := 10) (v := (prV ⟨fr, yy⟩)) rfl (by kernel_rfl) (by kernel_rfl) (by kernel_rfl) (fun _ _ _ h => h) (by rfl) ?_ (by assumption) ?_
                    · intro w hSw
                      clear hSw
                      go_simp
                    simp only [Act.put, List.setIfInBounds_toArray, List.set_cons_zero, List.set_cons_succ]
                    refine take_call (i := 11) rfl (by kernel_rfl) (fun K2 hK => ?_)
                    go_simp
                    refine hK.out _ _ trivial (fun hHeld => ?_)
                    clear hK
                    obtain ⟨Wd, hWd⟩ : ∃ Wd, Wd = Wb.alloc (.cells #[.int .i64 fr, .int .i64 yy] 78) := ⟨_, rfl⟩
                    have HN9 : Hid (Wd.cell? ⟨Wb.heap.size, 0, none⟩ = some (.int .i64 fr) ∧ Wd.cell? ⟨Wb.heap.size, 1, none⟩ = some (.int .i64 yy)) := by
                      show _ ∧ _
                      rw [hWd]
                      refine ⟨?_, ?_⟩ <;> (simp only [World.cell?, blk_alloc_new]; rfl)
                    have HOW : Hid (Wd.ownsRow (w.heap.size + 2) 78 2 (.slice sa ys.length sk) ys.length (ys.flatMap prCells)) := by show World.ownsRow _ _ _ _ _ _ _; rw [hWd]; exact SDb.out.ru.alloc _
                    have HSZ9 : Hid (w.heap.size + 2 ≤ Wd.heap.size) := by show _ ≤ _; rw [hWd]; have := SDb.out.box.lt; simp; omega
                    have SDp := SDb
                    have HWD := Lib.hid hWd
                    obtain ⟨g9, hg9⟩ : ∃ g9, g9 = Wb.heap.size := ⟨_, rfl⟩
                    rw [← hg9] at HN9 ⊢
                    rw [← hWd]
                    clear hWd hg9
                    refine take_call (i := 12) rfl (by kernel_rfl) (fun K2 hK => ?_)
                    refine step_append_ownx rfl (.tmp 60) (.tmp 70) 64 rfl (w.heap.size + 2) 78 i1 (.agg #[.int .i64 0, .int .i64 0]) 2 16 Tryd.underlying64 HI1.out.1 HI1.out.2.1 HI1.out.2.2.1 HI1.out.2.2.2 rfl (by decide) (.slice sa ys.length sk) ys.length (ys.flatMap prCells) rfl HOW.out ⟨g9, 0, none⟩ 1 1 (prCells ⟨fr, yy⟩) rfl rfl ?_ ?_ (by have := hlen.out; unfold maxLen; omega) (by have := hlen.out; omega) HSZ9.out ?_
                    · intro j u hj
                      have hj2 : j = 0 ∨ j = 1 := by
                        have := (List.getElem?_eq_some_iff.1 hj).1
                        simp [prCells] at this; omega
                      rw [Addr.add_lit]
                      rcases hj2 with rfl | rfl
                      · simp [prCells] at hj; rw [← hj]; exact HN9.out.1
                      · simp [prCells] at hj; rw [← hj]; exact HN9.out.2
                    · intro u hu
                      simp [prCells] at hu
                      rcases hu with rfl | rfl <;> rfl
                    intro v' W9 hown hgrow
                    rw [HWD.out] at hgrow
                    have R9 := Lib.hid (SDp.out.pushR (x := ⟨fr, yy⟩) hgrow hown)
                    have hrow9 : W9.rowIs (w.heap.size + 1) 66 3 (d3 cv (.slice sa ys.length sk) (.int .i64 0)) := SDp.out.push_box hgrow
                    obtain ⟨na, nk, hv'⟩ := ownShape hown
                    subst hv'
                    refine hK.out _ _ trivial (fun hHeld => ?_)
                    obtain ⟨⟨y0, y1, y2⟩, q0, q1, q2⟩ := d3_cells hrow9
                    clear hK hown hgrow hrow9
                    simp only [Act.put, List.setIfInBounds_toArray, List.set_cons_zero, List.set_cons_succ]
                    refine take_do (i := 13) (v := (.pointer (some ⟨w.heap.size + 1, 1, none⟩))) rfl (by kernel_rfl) (by kernel_rfl) (by kernel_rfl) (fun _ _ _ h => h) (by rfl) ?_ (by assumption) ?_
                    · intro w hSw
                      clear hSw
                      go_simp
                    simp only [Act.put, List.setIfInBounds_toArray, List.set_cons_zero, List.set_cons_succ]
                    refine take_call (i := 14) rfl (by kernel_rfl) (fun K2 hK => ?_)
                    go_simp
                    refine hK.out _ _ trivial (fun _ => ?_)
                    clear hK y0 y1 y2 q0 q1 q2
                    refine wpAnyH_done (by kernel_rfl) ?_ _
                    obtain ⟨WE, hWE⟩ : ∃ WE, WE = W9.setCell ⟨w.heap.size + 1, 1, none⟩ (.slice na (ys.length + 1) nk) := ⟨_, rfl⟩
                    rw [← hWE] at R9 ⊢
                    clear hWE
                    go_wp2_with fail
                    refine (n_any sb 50 _ R9.out.dr.1 (by omega)).mono ?_
                    rintro e WF ⟨⟨x9, rfl, x90, x91, _⟩, hD⟩
                    have x92 := x91 (by omega)
                    have R10 := Lib.hid (R9.out.draw hD)
                    clear hD R9 x91
                    go_wp2_with fail
                    go_roundw
                    case rel => exact ⟨k - 1, fr + 1 + x9, _, ys ++ [⟨fr, yy⟩], by go_num, by go_num, ⟨by omega, by omega⟩, ⟨by omega, by omega⟩, by show _ = _; have := hlen.out; simp; omega, fun e => by simp at e, R10⟩
                    case measure => simp [intOf]; omega
                · go_simp
                  refine hK.out _ _ trivial (fun hHeld => ?_)
                  clear hK
                  obtain ⟨Wb, hWb⟩ : ∃ Wb, Wb = Wa.alloc (.cells #[.int .i64 1000, .int .i64 900, .int .i64 500, .int .i64 0, .int .i64 x4] 2) := ⟨_, rfl⟩
                  have SDb : Hid (SD w sb cv (.slice sa ys.length sk) zs ys 0 Wb) := by show SD _ _ _ _ _ _ _ _; rw [hWb]; exact SDa.out.alloc _
                  have HG5 : Hid (Wb.heap[Wa.heap.size]? = some (.cells #[.int .i64 1000, .int .i64 900, .int .i64 500, .int .i64 0, .int .i64 x4] 2)) := by show _ = _; rw [hWb]; exact blk_alloc_new _ _
                  obtain ⟨g5, hg5⟩ : ∃ g5, g5 = Wa.heap.size := ⟨_, rfl⟩
                  have HN5 : Hid (w.heap.size + 2 ≤ g5) := by show _ ≤ _; rw [hg5]; exact SDa.out.box.lt
                  rw [← hg5] at HG5 ⊢
                  rw [← hWb]
                  clear hWb hg5
                  refine wpAnyH_ready (rs := [1, 7]) (by kernel_rfl) (by simp) (AllReadyH.cons (at_drop (i := 1) rfl) (fun K2 hK => ?_) (AllReadyH.cons (at_drop (i := 7) rfl) (fun K2 hK => ?_) (AllReadyH.nil)))
                  · obtain ⟨⟨l0, l1, l2⟩, _⟩ := d3_cells SDb.out.box
                    go_simp
                    refine hK.out _ _ trivial (fun hHeld => ?_)
                    clear hK
                    clear l0 l1 l2
                    refine take_call (i := 7) rfl (by kernel_rfl) (fun K2 hK => ?_)
                    go_simp
                    refine (n_any sb 5 _ SDb.out.dr.1 (by omega)).mono ?_
                    rintro e Wc ⟨⟨x7, rfl, z7, z7a, _⟩, hD⟩
                    have z7b := z7a (by omega)
                    clear z7a
                    have SDc := Lib.hid (SDb.out.draw hD)
                    obtain ⟨yy, hyy⟩ := fiveD x4 HG5.out hD (by have := HN5.out; have := SDb.out.lt; omega) z7 z7b
                    have HYY := Lib.hid hyy
                    clear hyy
                    clear hD
                    go_wp2_with fail
                    refine hK.out _ _ trivial (fun hHeld => ?_)
                    clear hK
                    refine take_do (i := 8) (v := (.pointer (some ⟨g5, x7.toNat, none⟩))) rfl (by kernel_rfl) (by kernel_rfl) (by kernel_rfl) (fun _ _ _ h => h) (by rfl) ?_ (by assumption) ?_
                    · intro w hSw
                      clear hSw
                      go_simp
                    simp only [Act.put, List.setIfInBounds_toArray, List.set_cons_zero, List.set_cons_succ]
                    refine take_call (i := 9) rfl (by kernel_rfl) (fun K2 hK => ?_)
                    have hyy := HYY.out
                    go_simp
                    refine hK.out _ _ trivial (fun hHeld => ?_)
                    clear hK
                    clear hyy
                    refine take_do (i := 10) (v := (prV ⟨fr, yy⟩)) rfl (by kernel_rfl) (by kernel_rfl) (by kernel_rfl) (fun _ _ _ h => h) (by rfl) ?_ (by assumption) ?_
                    · intro w hSw
                      clear hSw
                      go_simp
                    simp only [Act.put, List.setIfInBounds_toArray, List.set_cons_zero, List.set_cons_succ]
                    refine take_call (i := 11) rfl (by kernel_rfl) (fun K2 hK => ?_)
                    go_simp
                    refine hK.out _ _ trivial (fun hHeld => ?_)
                    clear hK
                    obtain ⟨Wd, hWd⟩ : ∃ Wd, Wd = Wc.alloc (.cells #[.int .i64 fr, .int .i64 yy] 78) := ⟨_, rfl⟩
                    have HN9 : Hid (Wd.cell? ⟨Wc.heap.size, 0, none⟩ = some (.int .i64 fr) ∧ Wd.cell? ⟨Wc.heap.size, 1, none⟩ = some (.int .i64 yy)) := by
                      show _ ∧ _
                      rw [hWd]
                      refine ⟨?_, ?_⟩ <;> (simp only [World.cell?, blk_alloc_new]; rfl)
                    have HOW : Hid (Wd.ownsRow (w.heap.size + 2) 78 2 (.slice sa ys.length sk) ys.length (ys.flatMap prCells)) := by show World.ownsRow _ _ _ _ _ _ _; rw [hWd]; exact SDc.out.ru.alloc _
                    have HSZ9 : Hid (w.heap.size + 2 ≤ Wd.heap.size) := by show _ ≤ _; rw [hWd]; have := SDc.out.box.lt; simp; omega
                    have SDp := SDc
                    have HWD := Lib.hid hWd
                    obtain ⟨g9, hg9⟩ : ∃ g9, g9 = Wc.heap.size := ⟨_, rfl⟩
                    rw [← hg9] at HN9 ⊢
                    rw [← hWd]
                    clear hWd hg9
                    refine take_call (i := 12) rfl (by kernel_rfl) (fun K2 hK => ?_)
                    refine step_append_ownx rfl (.tmp 60) (.tmp 70) 64 rfl (w.heap.size + 2) 78 i1 (.agg #[.int .i64 0, .int .i64 0]) 2 16 Tryd.underlying64 HI1.out.1 HI1.out.2.1 HI1.out.2.2.1 HI1.out.2.2.2 rfl (by decide) (.slice sa ys.length sk) ys.length (ys.flatMap prCells) rfl HOW.out ⟨g9, 0, none⟩ 1 1 (prCells ⟨fr, yy⟩) rfl rfl ?_ ?_ (by have := hlen.out; unfold maxLen; omega) (by have := hlen.out; omega) HSZ9.out ?_
                    · intro j u hj
                      have hj2 : j = 0 ∨ j = 1 := by
                        have := (List.getElem?_eq_some_iff.1 hj).1
                        simp [prCells] at this; omega
                      rw [Addr.add_lit]
                      rcases hj2 with rfl | rfl
                      · simp [prCells] at hj; rw [← hj]; exact HN9.out.1
                      · simp [prCells] at hj; rw [← hj]; exact HN9.out.2
                    · intro u hu
                      simp [prCells] at hu
                      rcases hu with rfl | rfl <;> rfl
                    intro v' W9 hown hgrow
                    rw [HWD.out] at hgrow
                    have R9 := Lib.hid (SDp.out.pushR (x := ⟨fr, yy⟩) hgrow hown)
                    have hrow9 : W9.rowIs (w.heap.size + 1) 66 3 (d3 cv (.slice sa ys.length sk) (.int .i64 0)) := SDp.out.push_box hgrow
                    obtain ⟨na, nk, hv'⟩ := ownShape hown
                    subst hv'
                    refine hK.out _ _ trivial (fun hHeld => ?_)
                    obtain ⟨⟨y0, y1, y2⟩, q0, q1, q2⟩ := d3_cells hrow9
                    clear hK hown hgrow hrow9
                    simp only [Act.put, List.setIfInBounds_toArray, List.set_cons_zero, List.set_cons_succ]
                    refine take_do (i := 13) (v := (.pointer (some ⟨w.heap.size + 1, 1, none⟩))) rfl (by kernel_rfl) (by kernel_rfl) (by kernel_rfl) (fun _ _ _ h => h) (by rfl) ?_ (by assumption) ?_
                    · intro w hSw
                      clear hSw
                      go_simp
                    simp only [Act.put, List.setIfInBounds_toArray, List.set_cons_zero, List.set_cons_succ]
                    refine take_call (i := 14) rfl (by kernel_rfl) (fun K2 hK => ?_)
                    go_simp
                    refine hK.out _ _ trivial (fun _ => ?_)
                    clear hK y0 y1 y2 q0 q1 q2
                    refine wpAnyH_done (by kernel_rfl) ?_ _
                    obtain ⟨WE, hWE⟩ : ∃ WE, WE = W9.setCell ⟨w.heap.size + 1, 1, none⟩ (.slice na (ys.length + 1) nk) := ⟨_, rfl⟩
                    rw [← hWE] at R9 ⊢
                    clear hWE
                    go_wp2_with fail
                    refine (n_any sb 50 _ R9.out.dr.1 (by omega)).mono ?_
                    rintro e WF ⟨⟨x9, rfl, x90, x91, _⟩, hD⟩
                    have x92 := x91 (by omega)
                    have R10 := Lib.hid (R9.out.draw hD)
                    clear hD R9 x91
                    go_wp2_with fail
                    go_roundw
                    case rel => exact ⟨k - 1, fr + 1 + x9, _, ys ++ [⟨fr, yy⟩], by go_num, by go_num, ⟨by omega, by omega⟩, ⟨by omega, by omega⟩, by show _ = _; have := hlen.out; simp; omega, fun e => by simp at e, R10⟩
                    case measure => simp [intOf]; omega
                  · go_simp
                    refine (n_any sb 5 _ SDb.out.dr.1 (by omega)).mono ?_
                    rintro e Wc ⟨⟨x7, rfl, z7, z7a, _⟩, hD⟩
                    have z7b := z7a (by omega)
                    clear z7a
                    have SDc := Lib.hid (SDb.out.draw hD)
                    obtain ⟨yy, hyy⟩ := fiveD x4 HG5.out hD (by have := HN5.out; have := SDb.out.lt; omega) z7 z7b
                    have HYY := Lib.hid hyy
                    clear hyy
                    clear hD
                    go_wp2_with fail
                    refine hK.out _ _ trivial (fun hHeld => ?_)
                    clear hK
                    refine take_do (i := 8) (v := (.pointer (some ⟨g5, x7.toNat, none⟩))) rfl (by kernel_rfl) (by kernel_rfl) (by kernel_rfl) (fun _ _ _ h => h) (by rfl) ?_ (by assumption) ?_
                    · intro w hSw
                      clear hSw
                      go_simp
                    simp only [Act.put, List.setIfInBounds_toArray, List.set_cons_zero, List.set_cons_succ]
                    refine wpAnyH_ready (rs := [1, 9]) (by kernel_rfl) (by simp) (AllReadyH.cons (at_drop (i := 1) rfl) (fun K2 hK => ?_) (AllReadyH.cons (at_drop (i := 9) rfl) (fun K2 hK => ?_) (AllReadyH.nil)))
                    · obtain ⟨⟨l0, l1, l2⟩, _⟩ := d3_cells SDc.out.box
                      go_simp
                      refine hK.out _ _ trivial (fun hHeld => ?_)
                      clear hK
                      clear l0 l1 l2
                      refine take_call (i := 9) rfl (by kernel_rfl) (fun K2 hK => ?_)
                      have hyy := HYY.out
                      go_simp
                      refine hK.out _ _ trivial (fun hHeld => ?_)
                      clear hK
                      clear hyy
                      refine take_do (i := 10) (v := (prV ⟨fr, yy⟩)) rfl (by kernel_rfl) (by kernel_rfl) (by kernel_rfl) (fun _ _ _ h => h) (by rfl) ?_ (by assumption) ?_
                      · intro w hSw
                        clear hSw
                        go_simp
                      simp only [Act.put, List.setIfInBounds_toArray, List.set_cons_zero, List.set_cons_succ]
                      refine take_call (i := 11) rfl (by kernel_rfl) (fun K2 hK => ?_)
                      go_simp
                      refine hK.out _ _ trivial (fun hHeld => ?_)
                      clear hK
                      obtain ⟨Wd, hWd⟩ : ∃ Wd, Wd = Wc.alloc (.cells #[.int .i64 fr, .int .i64 yy] 78) := ⟨_, rfl⟩
                      have HN9 : Hid (Wd.cell? ⟨Wc.heap.size, 0, none⟩ = some (.int .i64 fr) ∧ Wd.cell? ⟨Wc.heap.size, 1, none⟩ = some (.int .i64 yy)) := by
                        show _ ∧ _
                        rw [hWd]
                        refine ⟨?_, ?_⟩ <;> (simp only [World.cell?, blk_alloc_new]; rfl)
                      have HOW : Hid (Wd.ownsRow (w.heap.size + 2) 78 2 (.slice sa ys.length sk) ys.length (ys.flatMap prCells)) := by show World.ownsRow _ _ _ _ _ _ _; rw [hWd]; exact SDc.out.ru.alloc _
                      have HSZ9 : Hid (w.heap.size + 2 ≤ Wd.heap.size) := by show _ ≤ _; rw [hWd]; have := SDc.out.box.lt; simp; omega
                      have SDp := SDc
                      have HWD := Lib.hid hWd
                      obtain ⟨g9, hg9⟩ : ∃ g9, g9 = Wc.heap.size := ⟨_, rfl⟩
                      rw [← hg9] at HN9 ⊢
                      rw [← hWd]
                      clear hWd hg9
                      refine take_call (i := 12) rfl (by kernel_rfl) (fun K2 hK => ?_)
                      refine step_append_ownx rfl (.tmp 60) (.tmp 70) 64 rfl (w.heap.size + 2) 78 i1 (.agg #[.int .i64 0, .int .i64 0]) 2 16 Tryd.underlying64 HI1.out.1 HI1.out.2.1 HI1.out.2.2.1 HI1.out.2.2.2 rfl (by decide) (.slice sa ys.length sk) ys.length (ys.flatMap prCells) rfl HOW.out ⟨g9, 0, none⟩ 1 1 (prCells ⟨fr, yy⟩) rfl rfl ?_ ?_ (by have := hlen.out; unfold maxLen; omega) (by have := hlen.out; omega) HSZ9.out ?_
                      · intro j u hj
                        have hj2 : j = 0 ∨ j = 1 := by
                          have := (List.getElem?_eq_some_iff.1 hj).1
                          simp [prCells] at this; omega
                        rw [Addr.add_lit]
                        rcases hj2 with rfl | rfl
                        · simp [prCells] at hj; rw [← hj]; exact HN9.out.1
                        · simp [prCells] at hj; rw [← hj]; exact HN9.out.2
                      · intro u hu
                        simp [prCells] at hu
                        rcases hu with rfl | rfl <;> rfl
                      intro v' W9 hown hgrow
                      rw [HWD.out] at hgrow
                      have R9 := Lib.hid (SDp.out.pushR (x := ⟨fr, yy⟩) hgrow hown)
                      have hrow9 : W9.rowIs (w.heap.size + 1) 66 3 (d3 cv (.slice sa ys.length sk) (.int .i64 0)) := SDp.out.push_box hgrow
                      obtain ⟨na, nk, hv'⟩ := ownShape hown
                      subst hv'
                      refine hK.out _ _ trivial (fun hHeld => ?_)
                      obtain ⟨⟨y0, y1, y2⟩, q0, q1, q2⟩ := d3_cells hrow9
                      clear hK hown hgrow hrow9
                      simp only [Act.put, List.setIfInBounds_toArray, List.set_cons_zero, List.set_cons_succ]
                      refine take_do (i := 13) (v := (.pointer (some ⟨w.heap.size + 1, 1, none⟩))) rfl (by kernel_rfl) (by kernel_rfl) (by kernel_rfl) (fun _ _ _ h => h) (by rfl) ?_ (by assumption) ?_
                      · intro w hSw
                        clear hSw
                        go_simp
                      simp only [Act.put, List.setIfInBounds_toArray, List.set_cons_zero, List.set_cons_succ]
                      refine take_call (i := 14) rfl (by kernel_rfl) (fun K2 hK => ?_)
                      go_simp
                      refine hK.out _ _ trivial (fun _ => ?_)
                      clear hK y0 y1 y2 q0 q1 q2
                      refine wpAnyH_done (by kernel_rfl) ?_ _
                      obtain ⟨WE, hWE⟩ : ∃ WE, WE = W9.setCell ⟨w.heap.size + 1, 1, none⟩ (.slice na (ys.length + 1) nk) := ⟨_, rfl⟩
                      rw [← hWE] at R9 ⊢
                      clear hWE
                      go_wp2_with fail
                      refine (n_any sb 50 _ R9.out.dr.1 (by omega)).mono ?_
                      rintro e WF ⟨⟨x9, rfl, x90, x91, _⟩, hD⟩
                      have x92 := x91 (by omega)
                      have R10 := Lib.hid (R9.out.draw hD)
                      clear hD R9 x91
                      go_wp2_with fail
                      go_roundw
                      case rel => exact ⟨k - 1, fr + 1 + x9, _, ys ++ [⟨fr, yy⟩], by go_num, by go_num, ⟨by omega, by omega⟩, ⟨by omega, by omega⟩, by show _ = _; have := hlen.out; simp; omega, fun e => by simp at e, R10⟩
                      case measure => simp [intOf]; omega
                    · have hyy := HYY.out
                      go_simp
                      refine hK.out _ _ trivial (fun hHeld => ?_)
                      clear hK
                      clear hyy
                      refine take_do (i := 10) (v := (prV ⟨fr, yy⟩)) rfl (by kernel_rfl) (by kernel_rfl) (by kernel_rfl) (fun _ _ _ h => h) (by rfl) ?_ (by assumption) ?_
                      · intro w hSw
                        clear hSw
                        go_simp
                      simp only [Act.put, List.setIfInBounds_toArray, List.set_cons_zero, List.set_cons_succ]
                      refine wpAnyH_ready (rs := [1, 11]) (by kernel_rfl) (by simp) (AllReadyH.cons (at_drop (i := 1) rfl) (fun K2 hK => ?_) (AllReadyH.cons (at_drop (i := 11) rfl) (fun K2 hK => ?_) (AllReadyH.nil)))
                      · obtain ⟨⟨l0, l1, l2⟩, _⟩ := d3_cells SDc.out.box
                        go_simp
                        refine hK.out _ _ trivial (fun hHeld => ?_)
                        clear hK
                        clear l0 l1 l2
                        refine take_call (i := 11) rfl (by kernel_rfl) (fun K2 hK => ?_)
                        go_simp
                        refine hK.out _ _ trivial (fun hHeld => ?_)
                        clear hK
                        obtain ⟨Wd, hWd⟩ : ∃ Wd, Wd = Wc.alloc (.cells #[.int .i64 fr, .int .i64 yy] 78) := ⟨_, rfl⟩
                        have HN9 : Hid (Wd.cell? ⟨Wc.heap.size, 0, none⟩ = some (.int .i64 fr) ∧ Wd.cell? ⟨Wc.heap.size, 1, none⟩ = some (.int .i64 yy)) := by
                          show _ ∧ _
                          rw [hWd]
                          refine ⟨?_, ?_⟩ <;> (simp only [World.cell?, blk_alloc_new]; rfl)
                        have HOW : Hid (Wd.ownsRow (w.heap.size + 2) 78 2 (.slice sa ys.length sk) ys.length (ys.flatMap prCells)) := by show World.ownsRow _ _ _ _ _ _ _; rw [hWd]; exact SDc.out.ru.alloc _
                        have HSZ9 : Hid (w.heap.size + 2 ≤ Wd.heap.size) := by show _ ≤ _; rw [hWd]; have := SDc.out.box.lt; simp; omega
                        have SDp := SDc
                        have HWD := Lib.hid hWd
                        obtain ⟨g9, hg9⟩ : ∃ g9, g9 = Wc.heap.size := ⟨_, rfl⟩
                        rw [← hg9] at HN9 ⊢
                        rw [← hWd]
                        clear hWd hg9
                        refine take_call (i := 12) rfl (by kernel_rfl) (fun K2 hK => ?_)
                        refine step_append_ownx rfl (.tmp 60) (.tmp 70) 64 rfl (w.heap.size + 2) 78 i1 (.agg #[.int .i64 0, .int .i64 0]) 2 16 Tryd.underlying64 HI1.out.1 HI1.out.2.1 HI1.out.2.2.1 HI1.out.2.2.2 rfl (by decide) (.slice sa ys.length sk) ys.length (ys.flatMap prCells) rfl HOW.out ⟨g9, 0, none⟩ 1 1 (prCells ⟨fr, yy⟩) rfl rfl ?_ ?_ (by have := hlen.out; unfold maxLen; omega) (by have := hlen.out; omega) HSZ9.out ?_
                        · intro j u hj
                          have hj2 : j = 0 ∨ j = 1 := by
                            have := (List.getElem?_eq_some_iff.1 hj).1
                            simp [prCells] at this; omega
                          rw [Addr.add_lit]
                          rcases hj2 with rfl | rfl
                          · simp [prCells] at hj; rw [← hj]; exact HN9.out.1
                          · simp [prCells] at hj; rw [← hj]; exact HN9.out.2
                        · intro u hu
                          simp [prCells] at hu
                          rcases hu with rfl | rfl <;> rfl
                        intro v' W9 hown hgrow
                        rw [HWD.out] at hgrow
                        have R9 := Lib.hid (SDp.out.pushR (x := ⟨fr, yy⟩) hgrow hown)
                        have hrow9 : W9.rowIs (w.heap.size + 1) 66 3 (d3 cv (.slice sa ys.length sk) (.int .i64 0)) := SDp.out.push_box hgrow
                        obtain ⟨na, nk, hv'⟩ := ownShape hown
                        subst hv'
                        refine hK.out _ _ trivial (fun hHeld => ?_)
                        obtain ⟨⟨y0, y1, y2⟩, q0, q1, q2⟩ := d3_cells hrow9
                        clear hK hown hgrow hrow9
                        simp only [Act.put, List.setIfInBounds_toArray, List.set_cons_zero, List.set_cons_succ]
                        refine take_do (i := 13) (v := (.pointer (some ⟨w.heap.size + 1, 1, none⟩))) rfl (by kernel_rfl) (by kernel_rfl) (by kernel_rfl) (fun _ _ _ h => h) (by rfl) ?_ (by assumption) ?_
                        · intro w hSw
                          clear hSw
                          go_simp
                        simp only [Act.put, List.setIfInBounds_toArray, List.set_cons_zero, List.set_cons_succ]
                        refine take_call (i := 14) rfl (by kernel_rfl) (fun K2 hK => ?_)
                        go_simp
                        refine hK.out _ _ trivial (fun _ => ?_)
                        clear hK y0 y1 y2 q0 q1 q2
                        refine wpAnyH_done (by kernel_rfl) ?_ _
                        obtain ⟨WE, hWE⟩ : ∃ WE, WE = W9.setCell ⟨w.heap.size + 1, 1, none⟩ (.slice na (ys.length + 1) nk) := ⟨_, rfl⟩
                        rw [← hWE] at R9 ⊢
                        clear hWE
                        go_wp2_with fail
                        refine (n_any sb 50 _ R9.out.dr.1 (by omega)).mono ?_
                        rintro e WF ⟨⟨x9, rfl, x90, x91, _⟩, hD⟩
                        have x92 := x91 (by omega)
                        have R10 := Lib.hid (R9.out.draw hD)
                        clear hD R9 x91
                        go_wp2_with fail
                        go_roundw
                        case rel => exact ⟨k - 1, fr + 1 + x9, _, ys ++ [⟨fr, yy⟩], by go_num, by go_num, ⟨by omega, by omega⟩, ⟨by omega, by omega⟩, by show _ = _; have := hlen.out; simp; omega, fun e => by simp at e, R10⟩
                        case measure => simp [intOf]; omega
                      · go_simp
                        refine hK.out _ _ trivial (fun hHeld => ?_)
                        clear hK
                        obtain ⟨Wd, hWd⟩ : ∃ Wd, Wd = Wc.alloc (.cells #[.int .i64 fr, .int .i64 yy] 78) := ⟨_, rfl⟩
                        have HN9 : Hid (Wd.cell? ⟨Wc.heap.size, 0, none⟩ = some (.int .i64 fr) ∧ Wd.cell? ⟨Wc.heap.size, 1, none⟩ = some (.int .i64 yy)) := by
                          show _ ∧ _
                          rw [hWd]
                          refine ⟨?_, ?_⟩ <;> (simp only [World.cell?, blk_alloc_new]; rfl)
                        have HOW : Hid (Wd.ownsRow (w.heap.size + 2) 78 2 (.slice sa ys.length sk) ys.length (ys.flatMap prCells)) := by show World.ownsRow _ _ _ _ _ _ _; rw [hWd]; exact SDc.out.ru.alloc _
                        have HSZ9 : Hid (w.heap.size + 2 ≤ Wd.heap.size) := by show _ ≤ _; rw [hWd]; have := SDc.out.box.lt; simp; omega
                        have SDp := SDc
                        have HWD := Lib.hid hWd
                        obtain ⟨g9, hg9⟩ : ∃ g9, g9 = Wc.heap.size := ⟨_, rfl⟩
                        rw [← hg9] at HN9 ⊢
                        rw [← hWd]
                        clear hWd hg9
                        have SDq : Hid (SD w sb cv (.slice sa ys.length sk) zs ys 0 Wd) := by show SD _ _ _ _ _ _ _ _; rw [HWD.out]; exact SDp.out.alloc _
                        refine take_call (i := 1) rfl (by kernel_rfl) (fun K2 hK => ?_)
                        obtain ⟨⟨l0, l1, l2⟩, _⟩ := d3_cells SDq.out.box
                        go_simp
                        refine hK.out _ _ trivial (fun hHeld => ?_)
                        clear hK
                        clear l0 l1 l2
                        refine take_call (i := 12) rfl (by kernel_rfl) (fun K2 hK => ?_)
                        refine step_append_ownx rfl (.tmp 60) (.tmp 70) 64 rfl (w.heap.size + 2) 78 i1 (.agg #[.int .i64 0, .int .i64 0]) 2 16 Tryd.underlying64 HI1.out.1 HI1.out.2.1 HI1.out.2.2.1 HI1.out.2.2.2 rfl (by decide) (.slice sa ys.length sk) ys.length (ys.flatMap prCells) rfl HOW.out ⟨g9, 0, none⟩ 1 1 (prCells ⟨fr, yy⟩) rfl rfl ?_ ?_ (by have := hlen.out; unfold maxLen; omega) (by have := hlen.out; omega) HSZ9.out ?_
                        · intro j u hj
                          have hj2 : j = 0 ∨ j = 1 := by
                            have := (List.getElem?_eq_some_iff.1 hj).1
                            simp [prCells] at this; omega
                          rw [Addr.add_lit]
                          rcases hj2 with rfl | rfl
                          · simp [prCells] at hj; rw [← hj]; exact HN9.out.1
                          · simp [prCells] at hj; rw [← hj]; exact HN9.out.2
                        · intro u hu
                          simp [prCells] at hu
                          rcases hu with rfl | rfl <;> rfl
                        intro v' W9 hown hgrow
                        rw [HWD.out] at hgrow
                        have R9 := Lib.hid (SDp.out.pushR (x := ⟨fr, yy⟩) hgrow hown)
                        have hrow9 : W9.rowIs (w.heap.size + 1) 66 3 (d3 cv (.slice sa ys.length sk) (.int .i64 0)) := SDp.out.push_box hgrow
                        obtain ⟨na, nk, hv'⟩ := ownShape hown
                        subst hv'
                        refine hK.out _ _ trivial (fun hHeld => ?_)
                        obtain ⟨⟨y0, y1, y2⟩, q0, q1, q2⟩ := d3_cells hrow9
                        clear hK hown hgrow hrow9
                        simp only [Act.put, List.setIfInBounds_toArray, List.set_cons_zero, List.set_cons_succ]
                        refine take_do (i := 13) (v := (.pointer (some ⟨w.heap.size + 1, 1, none⟩))) rfl (by kernel_rfl) (by kernel_rfl) (by kernel_rfl) (fun _ _ _ h => h) (by rfl) ?_ (by assumption) ?_
                        · intro w hSw
                          clear hSw
                          go_simp
                        simp only [Act.put, List.setIfInBounds_toArray, List.set_cons_zero, List.set_cons_succ]
                        refine take_call (i := 14) rfl (by kernel_rfl) (fun K2 hK => ?_)
                        go_simp
                        refine hK.out _ _ trivial (fun _ => ?_)
                        clear hK y0 y1 y2 q0 q1 q2
                        refine wpAnyH_done (by kernel_rfl) ?_ _
                        obtain ⟨WE, hWE⟩ : ∃ WE, WE = W9.setCell ⟨w.heap.size + 1, 1, none⟩ (.slice na (ys.length + 1) nk) := ⟨_, rfl⟩
                        rw [← hWE] at R9 ⊢
                        clear hWE
                        go_wp2_with fail
                        refine (n_any sb 50 _ R9.out.dr.1 (by omega)).mono ?_
                        rintro e WF ⟨⟨x9, rfl, x90, x91, _⟩, hD⟩
                        have x92 := x91 (by omega)
                        have R10 := Lib.hid (R9.out.draw hD)
                        clear hD R9 x91
                        go_wp2_with fail
                        go_roundw
                        case rel => exact ⟨k - 1, fr + 1 + x9, _, ys ++ [⟨fr, yy⟩], by go_num, by go_num, ⟨by omega, by omega⟩, ⟨by omega, by omega⟩, by show _ = _; have := hlen.out; simp; omega, fun e => by simp at e, R10⟩
                        case measure => simp [intOf]; omega
                · go_simp
                  refine (n_any sb 5 _ SDa.out.dr.1 (by omega)).mono ?_
                  rintro e Wc ⟨⟨x7, rfl, z7, z7a, _⟩, hD⟩
                  have z7b := z7a (by omega)
                  clear z7a
                  have SDc := Lib.hid (SDa.out.draw hD)
                  clear hD
                  go_wp2_with fail
                  refine hK.out _ _ trivial (fun hHeld => ?_)
                  clear hK
                  refine wpAnyH_ready (rs := [1, 5]) (by kernel_rfl) (by simp) (AllReadyH.cons (at_drop (i := 1) rfl) (fun K2 hK => ?_) (AllReadyH.cons (at_drop (i := 5) rfl) (fun K2 hK => ?_) (AllReadyH.nil)))
                  · obtain ⟨⟨l0, l1, l2⟩, _⟩ := d3_cells SDc.out.box
                    go_simp
                    refine hK.out _ _ trivial (fun hHeld => ?_)
                    clear hK
                    clear l0 l1 l2
                    refine take_call (i := 5) rfl (by kernel_rfl) (fun K2 hK => ?_)
                    go_simp
                    refine hK.out _ _ trivial (fun hHeld => ?_)
                    clear hK
                    obtain ⟨Wb, hWb⟩ : ∃ Wb, Wb = Wc.alloc (.cells #[.int .i64 1000, .int .i64 900, .int .i64 500, .int .i64 0, .int .i64 x4] 2) := ⟨_, rfl⟩
                    have SDb : Hid (SD w sb cv (.slice sa ys.length sk) zs ys 0 Wb) := by show SD _ _ _ _ _ _ _ _; rw [hWb]; exact SDc.out.alloc _
                    have HG5 : Hid (Wb.heap[Wc.heap.size]? = some (.cells #[.int .i64 1000, .int .i64 900, .int .i64 500, .int .i64 0, .int .i64 x4] 2)) := by show _ = _; rw [hWb]; exact blk_alloc_new _ _
                    obtain ⟨g5, hg5⟩ : ∃ g5, g5 = Wc.heap.size := ⟨_, rfl⟩
                    have HN5 : Hid (w.heap.size + 2 ≤ g5) := by show _ ≤ _; rw [hg5]; exact SDc.out.box.lt
                    rw [← hg5] at HG5 ⊢
                    rw [← hWb]
                    clear hWb hg5
                    obtain ⟨yy, hyy⟩ := five x4 HG5.out z7 z7b
                    have HYY := Lib.hid hyy
                    clear hyy
                    refine take_do (i := 8) (v := (.pointer (some ⟨g5, x7.toNat, none⟩))) rfl (by kernel_rfl) (by kernel_rfl) (by kernel_rfl) (fun _ _ _ h => h) (by rfl) ?_ (by assumption) ?_
                    · intro w hSw
                      clear hSw
                      go_simp
                    simp only [Act.put, List.setIfInBounds_toArray, List.set_cons_zero, List.set_cons_succ]
                    refine take_call (i := 9) rfl (by kernel_rfl) (fun K2 hK => ?_)
                    have hyy := HYY.out
                    go_simp
                    refine hK.out _ _ trivial (fun hHeld => ?_)
                    clear hK
                    clear hyy
                    refine take_do (i := 10) (v := (prV ⟨fr, yy⟩)) rfl (by kernel_rfl) (by kernel_rfl) (by kernel_rfl) (fun _ _ _ h => h) (by rfl) ?_ (by assumption) ?_
                    · intro w hSw
                      clear hSw
                      go_simp
                    simp only [Act.put, List.setIfInBounds_toArray, List.set_cons_zero, List.set_cons_succ]
                    refine take_call (i := 11) rfl (by kernel_rfl) (fun K2 hK => ?_)
                    go_simp
                    refine hK.out _ _ trivial (fun hHeld => ?_)
                    clear hK
                    obtain ⟨Wd, hWd⟩ : ∃ Wd, Wd = Wb.alloc (.cells #[.int .i64 fr, .int .i64 yy] 78) := ⟨_, rfl⟩
                    have HN9 : Hid (Wd.cell? ⟨Wb.heap.size, 0, none⟩ = some (.int .i64 fr) ∧ Wd.cell? ⟨Wb.heap.size, 1, none⟩ = some (.int .i64 yy)) := by
                      show _ ∧ _
                      rw [hWd]
                      refine ⟨?_, ?_⟩ <;> (simp only [World.cell?, blk_alloc_new]; rfl)
                    have HOW : Hid (Wd.ownsRow (w.heap.size + 2) 78 2 (.slice sa ys.length sk) ys.length (ys.flatMap prCells)) := by show World.ownsRow _ _ _ _ _ _ _; rw [hWd]; exact SDb.out.ru.alloc _
                    have HSZ9 : Hid (w.heap.size + 2 ≤ Wd.heap.size) := by show _ ≤ _; rw [hWd]; have := SDb.out.box.lt; simp; omega
                    have SDp := SDb
                    have HWD := Lib.hid hWd
                    obtain ⟨g9, hg9⟩ : ∃ g9, g9 = Wb.heap.size := ⟨_, rfl⟩
                    rw [← hg9] at HN9 ⊢
                    rw [← hWd]
                    clear hWd hg9
                    refine take_call (i := 12) rfl (by kernel_rfl) (fun K2 hK => ?_)
                    refine step_append_ownx rfl (.tmp 60) (.tmp 70) 64 rfl (w.heap.size + 2) 78 i1 (.agg #[.int .i64 0, .int .i64 0]) 2 16 Tryd.underlying64 HI1.out.1 HI1.out.2.1 HI1.out.2.2.1 HI1.out.2.2.2 rfl (by decide) (.slice sa ys.length sk) ys.length (ys.flatMap prCells) rfl HOW.out ⟨g9, 0, none⟩ 1 1 (prCells ⟨fr, yy⟩) rfl rfl ?_ ?_ (by have := hlen.out; unfold maxLen; omega) (by have := hlen.out; omega) HSZ9.out ?_
                    · intro j u hj
                      have hj2 : j = 0 ∨ j = 1 := by
                        have := (List.getElem?_eq_some_iff.1 hj).1
                        simp [prCells] at this; omega
                      rw [Addr.add_lit]
                      rcases hj2 with rfl | rfl
                      · simp [prCells] at hj; rw [← hj]; exact HN9.out.1
                      · simp [prCells] at hj; rw [← hj]; exact HN9.out.2
                    · intro u hu
                      simp [prCells] at hu
                      rcases hu with rfl | rfl <;> rfl
                    intro v' W9 hown hgrow
                    rw [HWD.out] at hgrow
                    have R9 := Lib.hid (SDp.out.pushR (x := ⟨fr, yy⟩) hgrow hown)
                    have hrow9 : W9.rowIs (w.heap.size + 1) 66 3 (d3 cv (.slice sa ys.length sk) (.int .i64 0)) := SDp.out.push_box hgrow
                    obtain ⟨na, nk, hv'⟩ := ownShape hown
                    subst hv'
                    refine hK.out _ _ trivial (fun hHeld => ?_)
                    obtain ⟨⟨y0, y1, y2⟩, q0, q1, q2⟩ := d3_cells hrow9
                    clear hK hown hgrow hrow9
                    simp only [Act.put, List.setIfInBounds_toArray, List.set_cons_zero, List.set_cons_succ]
                    refine take_do (i := 13) (v := (.pointer (some ⟨w.heap.size + 1, 1, none⟩))) rfl (by kernel_rfl) (by kernel_rfl) (by kernel_rfl) (fun _ _ _ h => h) (by rfl) ?_ (by assumption) ?_
                    · intro w hSw
                      clear hSw
                      go_simp
                    simp only [Act.put, List.setIfInBounds_toArray, List.set_cons_zero, List.set_cons_succ]
                    refine take_call (i := 14) rfl (by kernel_rfl) (fun K2 hK => ?_)
                    go_simp
                    refine hK.out _ _ trivial (fun _ => ?_)
                    clear hK y0 y1 y2 q0 q1 q2
                    refine wpAnyH_done (by kernel_rfl) ?_ _
                    obtain ⟨WE, hWE⟩ : ∃ WE, WE = W9.setCell ⟨w.heap.size + 1, 1, none⟩ (.slice na (ys.length + 1) nk) := ⟨_, rfl⟩
                    rw [← hWE] at R9 ⊢
                    clear hWE
                    go_wp2_with fail
                    refine (n_any sb 50 _ R9.out.dr.1 (by omega)).mono ?_
                    rintro e WF ⟨⟨x9, rfl, x90, x91, _⟩, hD⟩
                    have x92 := x91 (by omega)
                    have R10 := Lib.hid (R9.out.draw hD)
                    clear hD R9 x91
                    go_wp2_with fail
                    go_roundw
                    case rel => exact ⟨k - 1, fr + 1 + x9, _, ys ++ [⟨fr, yy⟩], by go_num, by go_num, ⟨by omega, by omega⟩, ⟨by omega, by omega⟩, by show _ = _; have := hlen.out; simp; omega, fun e => by simp at e, R10⟩
                    case measure => simp [intOf]; omega
                  · go_simp
                    refine hK.out _ _ trivial (fun hHeld => ?_)
                    clear hK
                    obtain ⟨Wb, hWb⟩ : ∃ Wb, Wb = Wc.alloc (.cells #[.int .i64 1000, .int .i64 900, .int .i64 500, .int .i64 0, .int .i64 x4] 2) := ⟨_, rfl⟩
                    have SDb : Hid (SD w sb cv (.slice sa ys.length sk) zs ys 0 Wb) := by show SD _ _ _ _ _ _ _ _; rw [hWb]; exact SDc.out.alloc _
                    have HG5 : Hid (Wb.heap[Wc.heap.size]? = some (.cells #[.int .i64 1000, .int .i64 900, .int .i64 500, .int .i64 0, .int .i64 x4] 2)) := by show _ = _; rw [hWb]; exact blk_alloc_new _ _
                    obtain ⟨g5, hg5⟩ : ∃ g5, g5 = Wc.heap.size := ⟨_, rfl⟩
                    have HN5 : Hid (w.heap.size + 2 ≤ g5) := by show _ ≤ _; rw [hg5]; exact SDc.out.box.lt
                    rw [← hg5] at HG5 ⊢
                    rw [← hWb]
                    clear hWb hg5
                    obtain ⟨yy, hyy⟩ := five x4 HG5.out z7 z7b
                    have HYY := Lib.hid hyy
                    clear hyy
                    refine take_do (i := 8) (v := (.pointer (some ⟨g5, x7.toNat, none⟩))) rfl (by kernel_rfl) (by kernel_rfl) (by kernel_rfl) (fun _ _ _ h => h) (by rfl) ?_ (by assumption) ?_
                    · intro w hSw
                      clear hSw
                      go_simp
                    simp only [Act.put, List.setIfInBounds_toArray, List.set_cons_zero, List.set_cons_succ]
                    refine wpAnyH_ready (rs := [1, 9]) (by kernel_rfl) (by simp) (AllReadyH.cons (at_drop (i := 1) rfl) (fun K2 hK => ?_) (AllReadyH.cons (at_drop (i := 9) rfl) (fun K2 hK => ?_) (AllReadyH.nil)))
                    · obtain ⟨⟨l0, l1, l2⟩, _⟩ := d3_cells SDb.out.box
                      go_simp
                      refine hK.out _ _ trivial (fun hHeld => ?_)
                      clear hK
                      clear l0 l1 l2
                      refine take_call (i := 9) rfl (by kernel_rfl) (fun K2 hK => ?_)
                      have hyy := HYY.out
                      go_simp
                      refine hK.out _ _ trivial (fun hHeld => ?_)
                      clear hK
                      clear hyy
                      refine take_do (i := 10) (v := (prV ⟨fr, yy⟩)) rfl (by kernel_rfl) (by kernel_rfl) (by kernel_rfl) (fun _ _ _ h => h) (by rfl) ?_ (by assumption) ?_
                      · intro w hSw
                        clear hSw
                        go_simp
                      simp only [Act.put, List.setIfInBounds_toArray, List.set_cons_zero, List.set_cons_succ]
                      refine take_call (i := 11) rfl (by kernel_rfl) (fun K2 hK => ?_)
                      go_simp
                      refine hK.out _ _ trivial (fun hHeld => ?_)
                      clear hK
                      obtain ⟨Wd, hWd⟩ : ∃ Wd, Wd = Wb.alloc (.cells #[.int .i64 fr, .int .i64 yy] 78) := ⟨_, rfl⟩
                      have HN9 : Hid (Wd.cell? ⟨Wb.heap.size, 0, none⟩ = some (.int .i64 fr) ∧ Wd.cell? ⟨Wb.heap.size, 1, none⟩ = some (.int .i64 yy)) := by
                        show _ ∧ _
                        rw [hWd]
                        refine ⟨?_, ?_⟩ <;> (simp only [World.cell?, blk_alloc_new]; rfl)
                      have HOW : Hid (Wd.ownsRow (w.heap.size + 2) 78 2 (.slice sa ys.length sk) ys.length (ys.flatMap prCells)) := by show World.ownsRow _ _ _ _ _ _ _; rw [hWd]; exact SDb.out.ru.alloc _
                      have HSZ9 : Hid (w.heap.size + 2 ≤ Wd.heap.size) := by show _ ≤ _; rw [hWd]; have := SDb.out.box.lt; simp; omega
                      have SDp := SDb
                      have HWD := Lib.hid hWd
                      obtain ⟨g9, hg9⟩ : ∃ g9, g9 = Wb.heap.size := ⟨_, rfl⟩
                      rw [← hg9] at HN9 ⊢
                      rw [← hWd]
                      clear hWd hg9
                      refine take_call (i := 12) rfl (by kernel_rfl) (fun K2 hK => ?_)
                      refine step_append_ownx rfl (.tmp 60) (.tmp 70) 64 rfl (w.heap.size + 2) 78 i1 (.agg #[.int .i64 0, .int .i64 0]) 2 16 Tryd.underlying64 HI1.out.1 HI1.out.2.1 HI1.out.2.2.1 HI1.out.2.2.2 rfl (by decide) (.slice sa ys.length sk) ys.length (ys.flatMap prCells) rfl HOW.out ⟨g9, 0, none⟩ 1 1 (prCells ⟨fr, yy⟩) rfl rfl ?_ ?_ (by have := hlen.out; unfold maxLen; omega) (by have := hlen.out; omega) HSZ9.out ?_
                      · intro j u hj
                        have hj2 : j = 0 ∨ j = 1 := by
                          have := (List.getElem?_eq_some_iff.1 hj).1
                          simp [prCells] at this; omega
                        rw [Addr.add_lit]
                        rcases hj2 with rfl | rfl
                        · simp [prCells] at hj; rw [← hj]; exact HN9.out.1
                        · simp [prCells] at hj; rw [← hj]; exact HN9.out.2
                      · intro u hu
                        simp [prCells] at hu
                        rcases hu with rfl | rfl <;> rfl
                      intro v' W9 hown hgrow
                      rw [HWD.out] at hgrow
                      have R9 := Lib.hid (SDp.out.pushR (x := ⟨fr, yy⟩) hgrow hown)
                      have hrow9 : W9.rowIs (w.heap.size + 1) 66 3 (d3 cv (.slice sa ys.length sk) (.int .i64 0)) := SDp.out.push_box hgrow
                      obtain ⟨na, nk, hv'⟩ := ownShape hown
                      subst hv'
                      refine hK.out _ _ trivial (fun hHeld => ?_)
                      obtain ⟨⟨y0, y1, y2⟩, q0, q1, q2⟩ := d3_cells hrow9
                      clear hK hown hgrow hrow9
                      simp only [Act.put, List.setIfInBounds_toArray, List.set_cons_zero, List.set_cons_succ]
                      refine take_do (i := 13) (v := (.pointer (some ⟨w.heap.size + 1, 1, none⟩))) rfl (by kernel_rfl) (by kernel_rfl) (by kernel_rfl) (fun _ _ _ h => h) (by rfl) ?_ (by assumption) ?_
                      · intro w hSw
                        clear hSw
                        go_simp
                      simp only [Act.put, List.setIfInBounds_toArray, List.set_cons_zero, List.set_cons_succ]
                      refine take_call (i := 14) rfl (by kernel_rfl) (fun K2 hK => ?_)
                      go_simp
                      refine hK.out _ _ trivial (fun _ => ?_)
                      clear hK y0 y1 y2 q0 q1 q2
                      refine wpAnyH_done (by kernel_rfl) ?_ _
                      obtain ⟨WE, hWE⟩ : ∃ WE, WE = W9.setCell ⟨w.heap.size + 1, 1, none⟩ (.slice na (ys.length + 1) nk) := ⟨_, rfl⟩
                      rw [← hWE] at R9 ⊢
                      clear hWE
                      go_wp2_with fail
                      refine (n_any sb 50 _ R9.out.dr.1 (by omega)).mono ?_
                      rintro e WF ⟨⟨x9, rfl, x90, x91, _⟩, hD⟩
                      have x92 := x91 (by omega)
                      have R10 := Lib.hid (R9.out.draw hD)
                      clear hD R9 x91
                      go_wp2_with fail
                      go_roundw
                      case rel => exact ⟨k - 1, fr + 1 + x9, _, ys ++ [⟨fr, yy⟩], by go_num, by go_num, ⟨by omega, by omega⟩, ⟨by omega, by omega⟩, by show _ = _; have := hlen.out; simp; omega, fun e => by simp at e, R10⟩
                      case measure => simp [intOf]; omega
                    · have hyy := HYY.out
                      go_simp
                      refine hK.out _ _ trivial (fun hHeld => ?_)
                      clear hK
                      clear hyy
                      refine take_do (i := 10) (v := (prV ⟨fr, yy⟩)) rfl (by kernel_rfl) (by kernel_rfl) (by kernel_rfl) (fun _ _ _ h => h) (by rfl) ?_ (by assumption) ?_
                      · intro w hSw
                        clear hSw
                        go_simp
                      simp only [Act.put, List.setIfInBounds_toArray, List.set_cons_zero, List.set_cons_succ]
                      refine wpAnyH_ready (rs := [1, 11]) (by kernel_rfl) (by simp) (AllReadyH.cons (at_drop (i := 1) rfl) (fun K2 hK => ?_) (AllReadyH.cons (at_drop (i := 11) rfl) (fun K2 hK => ?_) (AllReadyH.nil)))
                      · obtain ⟨⟨l0, l1, l2⟩, _⟩ := d3_cells SDb.out.box
                        go_simp
                        refine hK.out _ _ trivial (fun hHeld => ?_)
                        clear hK
                        clear l0 l1 l2
                        refine take_call (i := 11) rfl (by kernel_rfl) (fun K2 hK => ?_)
                        go_simp
                        refine hK.out _ _ trivial (fun hHeld => ?_)
                        clear hK
                        obtain ⟨Wd, hWd⟩ : ∃ Wd, Wd = Wb.alloc (.cells #[.int .i64 fr, .int .i64 yy] 78) := ⟨_, rfl⟩
                        have HN9 : Hid (Wd.cell? ⟨Wb.heap.size, 0, none⟩ = some (.int .i64 fr) ∧ Wd.cell? ⟨Wb.heap.size, 1, none⟩ = some (.int .i64 yy)) := by
                          show _ ∧ _
                          rw [hWd]
                          refine ⟨?_, ?_⟩ <;> (simp only [World.cell?, blk_alloc_new]; rfl)
                        have HOW : Hid (Wd.ownsRow (w.heap.size + 2) 78 2 (.slice sa ys.length sk) ys.length (ys.flatMap prCells)) := by show World.ownsRow _ _ _ _ _ _ _; rw [hWd]; exact SDb.out.ru.alloc _
                        have HSZ9 : Hid (w.heap.size + 2 ≤ Wd.heap.size) := by show _ ≤ _; rw [hWd]; have := SDb.out.box.lt; simp; omega
                        have SDp := SDb
                        have HWD := Lib.hid hWd
                        obtain ⟨g9, hg9⟩ : ∃ g9, g9 = Wb.heap.size := ⟨_, rfl⟩
                        rw [← hg9] at HN9 ⊢
                        rw [← hWd]
                        clear hWd hg9
                        refine take_call (i := 12) rfl (by kernel_rfl) (fun K2 hK => ?_)
                        refine step_append_ownx rfl (.tmp 60) (.tmp 70) 64 rfl (w.heap.size + 2) 78 i1 (.agg #[.int .i64 0, .int .i64 0]) 2 16 Tryd.underlying64 HI1.out.1 HI1.out.2.1 HI1.out.2.2.1 HI1.out.2.2.2 rfl (by decide) (.slice sa ys.length sk) ys.length (ys.flatMap prCells) rfl HOW.out ⟨g9, 0, none⟩ 1 1 (prCells ⟨fr, yy⟩) rfl rfl ?_ ?_ (by have := hlen.out; unfold maxLen; omega) (by have := hlen.out; omega) HSZ9.out ?_
                        · intro j u hj
                          have hj2 : j = 0 ∨ j = 1 := by
                            have := (List.getElem?_eq_some_iff.1 hj).1
                            simp [prCells] at this; omega
                          rw [Addr.add_lit]
                          rcases hj2 with rfl | rfl
                          · simp [prCells] at hj; rw [← hj]; exact HN9.out.1
                          · simp [prCells] at hj; rw [← hj]; exact HN9.out.2
                        · intro u hu
                          simp [prCells] at hu
                          rcases hu with rfl | rfl <;> rfl
                        intro v' W9 hown hgrow
                        rw [HWD.out] at hgrow
                        have R9 := Lib.hid (SDp.out.pushR (x := ⟨fr, yy⟩) hgrow hown)
                        have hrow9 : W9.rowIs (w.heap.size + 1) 66 3 (d3 cv (.slice sa ys.length sk) (.int .i64 0)) := SDp.out.push_box hgrow
                        obtain ⟨na, nk, hv'⟩ := ownShape hown
                        subst hv'
                        refine hK.out _ _ trivial (fun hHeld => ?_)
                        obtain ⟨⟨y0, y1, y2⟩, q0, q1, q2⟩ := d3_cells hrow9
                        clear hK hown hgrow hrow9
                        simp only [Act.put, List.setIfInBounds_toArray, List.set_cons_zero, List.set_cons_succ]
                        refine take_do (i := 13) (v := (.pointer (some ⟨w.heap.size + 1, 1, none⟩))) rfl (by kernel_rfl) (by kernel_rfl) (by kernel_rfl) (fun _ _ _ h => h) (by rfl) ?_ (by assumption) ?_
                        · intro w hSw
                          clear hSw
                          go_simp
                        simp only [Act.put, List.setIfInBounds_toArray, List.set_cons_zero, List.set_cons_succ]
                        refine take_call (i := 14) rfl (by kernel_rfl) (fun K2 hK => ?_)
                        go_simp
                        refine hK.out _ _ trivial (fun _ => ?_)
                        clear hK y0 y1 y2 q0 q1 q2
                        refine wpAnyH_done (by kernel_rfl) ?_ _
                        obtain ⟨WE, hWE⟩ : ∃ WE, WE = W9.setCell ⟨w.heap.size + 1, 1, none⟩ (.slice na (ys.length + 1) nk) := ⟨_, rfl⟩
                        rw [← hWE] at R9 ⊢
                        clear hWE
                        go_wp2_with fail
                        refine (n_any sb 50 _ R9.out.dr.1 (by omega)).mono ?_
                        rintro e WF ⟨⟨x9, rfl, x90, x91, _⟩, hD⟩
                        have x92 := x91 (by omega)
                        have R10 := Lib.hid (R9.out.draw hD)
                        clear hD R9 x91
                        go_wp2_with fail
                        go_roundw
                        case rel => exact ⟨k - 1, fr + 1 + x9, _, ys ++ [⟨fr, yy⟩], by go_num, by go_num, ⟨by omega, by omega⟩, ⟨by omega, by omega⟩, by show _ = _; have := hlen.out; simp; omega, fun e => by simp at e, R10⟩
                        case measure => simp [intOf]; omega
                      · go_simp
                        refine hK.out _ _ trivial (fun hHeld => ?_)
                        clear hK
                        obtain ⟨Wd, hWd⟩ : ∃ Wd, Wd = Wb.alloc (.cells #[.int .i64 fr, .int .i64 yy] 78) := ⟨_, rfl⟩
                        have HN9 : Hid (Wd.cell? ⟨Wb.heap.size, 0, none⟩ = some (.int .i64 fr) ∧ Wd.cell? ⟨Wb.heap.size, 1, none⟩ = some (.int .i64 yy)) := by
                          show _ ∧ _
                          rw [hWd]
                          refine ⟨?_, ?_⟩ <;> (simp only [World.cell?, blk_alloc_new]; rfl)
                        have HOW : Hid (Wd.ownsRow (w.heap.size + 2) 78 2 (.slice sa ys.length sk) ys.length (ys.flatMap prCells)) := by show World.ownsRow _ _ _ _ _ _ _; rw [hWd]; exact SDb.out.ru.alloc _
                        have HSZ9 : Hid (w.heap.size + 2 ≤ Wd.heap.size) := by show _ ≤ _; rw [hWd]; have := SDb.out.box.lt; simp; omega
                        have SDp := SDb
                        have HWD := Lib.hid hWd
                        obtain ⟨g9, hg9⟩ : ∃ g9, g9 = Wb.heap.size := ⟨_, rfl⟩
                        rw [← hg9] at HN9 ⊢
                        rw [← hWd]
                        clear hWd hg9
                        have SDq : Hid (SD w sb cv (.slice sa ys.length sk) zs ys 0 Wd) := by show SD _ _ _ _ _ _ _ _; rw [HWD.out]; exact SDp.out.alloc _
                        refine take_call (i := 1) rfl (by kernel_rfl) (fun K2 hK => ?_)
                        obtain ⟨⟨l0, l1, l2⟩, _⟩ := d3_cells SDq.out.box
                        go_simp
                        refine hK.out _ _ trivial (fun hHeld => ?_)
                        clear hK
                        clear l0 l1 l2
                        refine take_call (i := 12) rfl (by kernel_rfl) (fun K2 hK => ?_)
                        refine step_append_ownx rfl (.tmp 60) (.tmp 70) 64 rfl (w.heap.size + 2) 78 i1 (.agg #[.int .i64 0, .int .i64 0]) 2 16 Tryd.underlying64 HI1.out.1 HI1.out.2.1 HI1.out.2.2.1 HI1.out.2.2.2 rfl (by decide) (.slice sa ys.length sk) ys.length (ys.flatMap prCells) rfl HOW.out ⟨g9, 0, none⟩ 1 1 (prCells ⟨fr, yy⟩) rfl rfl ?_ ?_ (by have := hlen.out; unfold maxLen; omega) (by have := hlen.out; omega) HSZ9.out ?_
                        · intro j u hj
                          have hj2 : j = 0 ∨ j = 1 := by
                            have := (List.getElem?_eq_some_iff.1 hj).1
                            simp [prCells] at this; omega
                          rw [Addr.add_lit]
                          rcases hj2 with rfl | rfl
                          · simp [prCells] at hj; rw [← hj]; exact HN9.out.1
                          · simp [prCells] at hj; rw [← hj]; exact HN9.out.2
                        · intro u hu
                          simp [prCells] at hu
                          rcases hu with rfl | rfl <;> rfl
                        intro v' W9 hown hgrow
                        rw [HWD.out] at hgrow
                        have R9 := Lib.hid (SDp.out.pushR (x := ⟨fr, yy⟩) hgrow hown)
                        have hrow9 : W9.rowIs (w.heap.size + 1) 66 3 (d3 cv (.slice sa ys.length sk) (.int .i64 0)) := SDp.out.push_box hgrow
                        obtain ⟨na, nk, hv'⟩ := ownShape hown
                        subst hv'
                        refine hK.out _ _ trivial (fun hHeld => ?_)
                        obtain ⟨⟨y0, y1, y2⟩, q0, q1, q2⟩ := d3_cells hrow9
                        clear hK hown hgrow hrow9
                        simp only [Act.put, List.setIfInBounds_toArray, List.set_cons_zero, List.set_cons_succ]
                        refine take_do (i := 13) (v := (.pointer (some ⟨w.heap.size + 1, 1, none⟩))) rfl (by kernel_rfl) (by kernel_rfl) (by kernel_rfl) (fun _ _ _ h => h) (by rfl) ?_ (by assumption) ?_
                        · intro w hSw
                          clear hSw
                          go_simp
                        simp only [Act.put, List.setIfInBounds_toArray, List.set_cons_zero, List.set_cons_succ]
                        refine take_call (i := 14) rfl (by kernel_rfl) (fun K2 hK => ?_)
                        go_simp
                        refine hK.out _ _ trivial (fun _ => ?_)
                        clear hK y0 y1 y2 q0 q1 q2
                        refine wpAnyH_done (by kernel_rfl) ?_ _
                        obtain ⟨WE, hWE⟩ : ∃ WE, WE = W9.setCell ⟨w.heap.size + 1, 1, none⟩ (.slice na (ys.length + 1) nk) := ⟨_, rfl⟩
                        rw [← hWE] at R9 ⊢
                        clear hWE
                        go_wp2_with fail
                        refine (n_any sb 50 _ R9.out.dr.1 (by omega)).mono ?_
                        rintro e WF ⟨⟨x9, rfl, x90, x91, _⟩, hD⟩
                        have x92 := x91 (by omega)
                        have R10 := Lib.hid (R9.out.draw hD)
                        clear hD R9 x91
                        go_wp2_with fail
                        go_roundw
                        case rel => exact ⟨k - 1, fr + 1 + x9, _, ys ++ [⟨fr, yy⟩], by go_num, by go_num, ⟨by omega, by omega⟩, ⟨by omega, by omega⟩, by show _ = _; have := hlen.out; simp; omega, fun e => by simp at e, R10⟩
                        case measure => simp [intOf]; omega
            · have hne : Hid (ys ≠ []) := fun e => by have := hnil0.out e; omega
              clear hnil0
              go_wp2_with fail
              refine (n_any sb u _ hD.out.dr.1 (by omega)).mono ?_
              rintro e WX ⟨⟨vv, rfl, _, _, _⟩, hDr⟩
              have S2 := Lib.hid (hD.out.draw hDr)
              clear hDr hD
              have S3 := Lib.hid (S2.out.setV vv)
              obtain ⟨⟨y0, y1, y2⟩, q0, q1, q2⟩ := d3_cells S2.out.box
              go_wp2_with fail
              clear y0 y1 y2 q0 q1 q2
              refine (one_any sb 12 _ S3.out.dr.1 (by omega)).mono ?_
              rintro e WY ⟨⟨b12, rfl⟩, hDr⟩
              have S4 := Lib.hid (S3.out.draw hDr)
              have HL1 : Hid (zs.length ≤ 31) := by show _ ≤ _; have := K0.out; omega
              have HL2 : Hid (ys.length ≤ 4) := by show _ ≤ _; have := hlen.out; omega
              have HZN : Hid (zs ≠ []) := fun e => by have := K0.out; rw [e] at this; simp at this; omega
              clear hDr S2 S3
              go_upto_if 83 with fail
              go_cut [] from 10 (fun wc => Hid (FinS w sb wc))
              case first =>
                cases b12 with
                | false =>
                  go_wp2_with fail
                  go_meet
                  case rel => exact fin_of S4.out HL1.out HL2.out
                | true =>
                  go_wp2_with fail
                  refine (n_any sb 7 _ S4.out.dr.1 (by omega)).mono ?_
                  rintro e WZ ⟨⟨z, rfl, z0, z1, _⟩, hDr⟩
                  have z2 := z1 (by omega)
                  have S5 := Lib.hid (S4.out.draw hDr)
                  clear hDr z1 S4
                  obtain ⟨g1, k1, g2, k2, e1, e2, hse⟩ := se_of S5.out HZN.out hne.out
                  have hn0 : 1 ≤ zs.length := by have := K0.out; omega
                  have hn1 := HL1.out
                  have hm0 : 1 ≤ ys.length := by
                    rcases Nat.eq_zero_or_pos ys.length with h | h
                    · exact absurd (List.length_eq_zero_iff.1 h) hne.out
                    · exact h
                  have hm1 := HL2.out
                  clear S5 e1 e2
                  generalize prList zs = c at hse
                  generalize prList ys = r at hse
                  obtain ⟨n, hn⟩ : ∃ n, n = zs.length := ⟨_, rfl⟩
                  obtain ⟨m, hm⟩ : ∃ m, m = ys.length := ⟨_, rfl⟩
                  rw [← hn] at hse hn0 hn1
                  rw [← hm] at hse hm0 hm1
                  clear hn hm
                  have HSE := Lib.hid hse
                  have SEV : Hid (∀ x, SE w sb g1 n k1 g2 m k2 c r x (WZ.setCell ⟨w.heap.size + 1, 2, none⟩ (.int .i64 x))) := fun x => hse.setV x
                  obtain ⟨⟨y0, y1, y2⟩, q0, q1, q2⟩ := d3_cells hse.box
                  obtain ⟨p0, p1⟩ := hse.cu.cells (i := n - 1) (by omega)
                  obtain ⟨r0, r1⟩ := hse.ru.cells (i := m - 1) (by omega)
                  obtain ⟨p2, p3⟩ := hse.cu.cells (i := 0) (by omega)
                  obtain ⟨r2, r3⟩ := hse.ru.cells (i := 0) (by omega)
                  simp only [Nat.zero_mul] at p2 p3 r2 r3
                  have fz1 := hse.cu.frozen
                  have fz2 := hse.ru.frozen
                  have n1 : ((n : Int) - 1).toNat = n - 1 := by omega
                  have n2 : ¬ (n : Int) - 1 < 0 := by omega
                  have n3 : (n : Int) - 1 < (n : Int) := by omega
                  have n4 : (n : Int) ≤ 31 := by omega
                  have n5 : (0 : Int) < (n : Int) := by omega
                  have n6 : ¬ (n : Int) < 1 := by omega
                  have n7 : IntKind.i64.wrap ((n : Int) - 1) = (n : Int) - 1 := by simp [IntKind.wrap, IntKind.bits, IntKind.signed]; omega
                  have m1 : ((m : Int) - 1).toNat = m - 1 := by omega
                  have m2 : ¬ (m : Int) - 1 < 0 := by omega
                  have m3 : (m : Int) - 1 < (m : Int) := by omega
                  have m4 : (m : Int) ≤ 4 := by omega
                  have m5 : (0 : Int) < (m : Int) := by omega
                  clear hse
                  have hz7 : z = 0 ∨ z = 1 ∨ z = 2 ∨ z = 3 ∨ z = 4 ∨ z = 5 ∨ z = 6 := by omega
                  rcases hz7 with rfl | rfl | rfl | rfl | rfl | rfl | rfl
                  · go_wp2_with fail
                    go_meet
                    case rel => exact (SEV.out _).fin hn1 hm1
                  · go_wp2_with fail
                    go_meet
                    case rel => exact (SEV.out _).fin hn1 hm1
                  · obtain ⟨r', hr'⟩ := HSE.out.setR 0 1
                    have HR' := Lib.hid hr'
                    clear hr'
                    go_wp2_with fail
                    go_meet
                    case rel => exact HR'.out.fin hn1 hm1
                  · obtain ⟨c', hc'⟩ := HSE.out.setC 0 (-1)
                    have HC' := Lib.hid hc'
                    clear hc'
                    go_wp2_with fail
                    go_meet
                    case rel => exact HC'.out.fin hn1 hm1
                  · have HNR := Lib.hid (HSE.out.nilR hn1)
                    go_wp2_with fail
                    go_meet
                    case rel => exact HNR.out
                  · go_wp2_with fail
                    refine wp_region_held_drew (S := BoxS w g1 n k1 g2 m k2 vv) (by kernel_rfl) (BoxS.draw HSE.out.box) (fun hHeld => ?_)
                    have HS6 : Hid (SE w sb g1 n k1 g2 m k2 c r vv WZ.drew) := HSE.out.draw ⟨HSE.out.dr.1, Chg.refl _ _⟩
                    refine take_do (i := 0) (v := (.pointer (some ⟨w.heap.size + 1, 0, none⟩))) rfl (by kernel_rfl) (by kernel_rfl) (by kernel_rfl) (fun _ _ _ h => h) (by rfl) ?_ (by assumption) ?_
                    · intro w hSw
                      obtain ⟨⟨b0, b1, b2⟩, _⟩ := d3_cells hSw
                      go_simp
                    simp only [Act.put, List.setIfInBounds_toArray, List.set_cons_zero, List.set_cons_succ]
                    refine take_do (i := 1) (v := (.slice (some ⟨g1, 0, none⟩) n k1)) rfl (by kernel_rfl) (by kernel_rfl) (by kernel_rfl) (fun _ _ _ h => h) (by rfl) ?_ (by assumption) ?_
                    · intro w hSw
                      obtain ⟨⟨b0, b1, b2⟩, _⟩ := d3_cells hSw
                      go_simp
                    simp only [Act.put, List.setIfInBounds_toArray, List.set_cons_zero, List.set_cons_succ]
                    refine take_do (i := 2) (v := (.pointer (some ⟨w.heap.size + 1, 0, none⟩))) rfl (by kernel_rfl) (by kernel_rfl) (by kernel_rfl) (fun _ _ _ h => h) (by rfl) ?_ (by assumption) ?_
                    · intro w hSw
                      obtain ⟨⟨b0, b1, b2⟩, _⟩ := d3_cells hSw
                      go_simp
                    simp only [Act.put, List.setIfInBounds_toArray, List.set_cons_zero, List.set_cons_succ]
                    refine take_do (i := 3) (v := (.slice (some ⟨g1, 0, none⟩) n k1)) rfl (by kernel_rfl) (by kernel_rfl) (by kernel_rfl) (fun _ _ _ h => h) (by rfl) ?_ (by assumption) ?_
                    · intro w hSw
                      obtain ⟨⟨b0, b1, b2⟩, _⟩ := d3_cells hSw
                      go_simp
                    simp only [Act.put, List.setIfInBounds_toArray, List.set_cons_zero, List.set_cons_succ]
                    refine take_do (i := 4) (v := (.int .i64 n)) rfl (by kernel_rfl) (by kernel_rfl) (by kernel_rfl) (fun _ _ _ h => h) (by rfl) ?_ (by assumption) ?_
                    · intro w hSw
                      obtain ⟨⟨b0, b1, b2⟩, _⟩ := d3_cells hSw
                      go_simp
                    simp only [Act.put, List.setIfInBounds_toArray, List.set_cons_zero, List.set_cons_succ]
                    refine take_do (i := 5) (v := (.int .i64 ((n : Int) - 1))) rfl (by kernel_rfl) (by kernel_rfl) (by kernel_rfl) (fun _ _ _ h => h) (by rfl) ?_ (by assumption) ?_
                    · intro w hSw
                      obtain ⟨⟨b0, b1, b2⟩, _⟩ := d3_cells hSw
                      go_simp
                    simp only [Act.put, List.setIfInBounds_toArray, List.set_cons_zero, List.set_cons_succ]
                    refine take_do (i := 6) (v := (.pointer (some ⟨sb, 0, none⟩))) rfl (by kernel_rfl) (by kernel_rfl) (by kernel_rfl) (fun _ _ _ h => h) (by rfl) ?_ (by assumption) ?_
                    · intro w hSw
                      obtain ⟨⟨b0, b1, b2⟩, _⟩ := d3_cells hSw
                      go_simp
                    simp only [Act.put, List.setIfInBounds_toArray, List.set_cons_zero, List.set_cons_succ]
                    refine take_call (i := 7) rfl (by kernel_rfl) (fun K2 hK => ?_)
                    go_simp
                    refine (n_any sb 2 _ HS6.out.dr.1 (by omega)).mono ?_
                    rintro e WT ⟨⟨x2, rfl, x20, x21, _⟩, hDr⟩
                    have x22 := x21 (by omega)
                    have HS7 := Lib.hid (HS6.out.draw hDr)
                    clear hDr x21
                    have hw9 : IntKind.i64.wrap (1000000000 + x2) = 1000000000 + x2 := by simp [IntKind.wrap, IntKind.bits, IntKind.signed]; omega
                    go_wp2_with fail
                    refine hK.out _ _ HS7.out.box (fun hHeld2 => ?_)
                    clear hK hHeld
                    have hHeld := hHeld2
                    clear hHeld2
                    refine take_do (i := 8) (v := (.int .i64 (1000000000 + x2))) rfl (by kernel_rfl) (by kernel_rfl) (by kernel_rfl) (fun _ _ _ h => h) (by rfl) ?_ (by assumption) ?_
                    · intro w hSw
                      obtain ⟨⟨b0, b1, b2⟩, _⟩ := d3_cells hSw
                      go_simp
                    simp only [Act.put, List.setIfInBounds_toArray, List.set_cons_zero, List.set_cons_succ]
                    refine take_do (i := 9) (v := (.pointer (some ⟨g1, (n - 1) * 2, none⟩))) rfl (by kernel_rfl) (by kernel_rfl) (by kernel_rfl) (fun _ _ _ h => h) (by rfl) ?_ (by assumption) ?_
                    · intro w hSw
                      obtain ⟨⟨b0, b1, b2⟩, _⟩ := d3_cells hSw
                      go_simp
                    simp only [Act.put, List.setIfInBounds_toArray, List.set_cons_zero, List.set_cons_succ]
                    refine take_do (i := 10) (v := (.pointer (some ⟨g1, (n - 1) * 2 + 1, none⟩))) rfl (by kernel_rfl) (by kernel_rfl) (by kernel_rfl) (fun _ _ _ h => h) (by rfl) ?_ (by assumption) ?_
                    · intro w hSw
                      obtain ⟨⟨b0, b1, b2⟩, _⟩ := d3_cells hSw
                      go_simp
                    simp only [Act.put, List.setIfInBounds_toArray, List.set_cons_zero, List.set_cons_succ]
                    obtain ⟨w0, w1⟩ := HS7.out.cu.cells (i := n - 1) (by omega)
                    have w2 := HS7.out.cu.frozen ((n - 1) * 2 + 1)
                    obtain ⟨c', hc'⟩ := HS7.out.setC ((n - 1) * 2 + 1) (1000000000 + x2)
                    have HC' := Lib.hid hc'
                    clear hc'
                    refine take_call (i := 11) rfl (by kernel_rfl) (fun K2 hK => ?_)
                    go_simp
                    refine hK.out _ _ HC'.out.box (fun _ => ?_)
                    clear hK
                    refine wpAnyH_done (by kernel_rfl) ?_ _
                    go_wp2_with fail
                    go_meet
                    case rel => exact HC'.out.fin hn1 hm1
                  · obtain ⟨r', hr'⟩ := HSE.out.setR ((m - 1) * 2 + 1) 1001
                    have HR' := Lib.hid hr'
                    clear hr'
                    go_wp2_with fail
                    go_meet
                    case rel => exact HR'.out.fin hn1 hm1
              case rest =>
                obtain ⟨ca, cn, ck, ra, rn, rk, v, c, r, ⟨hbox, hres⟩, hb, ⟨hpc, hpr⟩, hdr, hlt⟩ := hcut.out
                obtain ⟨⟨y0, y1, y2⟩, _⟩ := d3_cells hbox
                obtain ⟨⟨t0, t1, t2⟩, q0, q1, q2⟩ := d3_cells hres
                have HFN : Hid (∃ c r, (OwnPrs w.heap.size ca cn c (((wc.setCell ⟨w.heap.size, 0, none⟩ (.slice ca cn ck)).setCell ⟨w.heap.size, 1, none⟩ (.slice ra rn rk)).setCell ⟨w.heap.size, 2, none⟩ (.int .i64 v)) ∧ OwnPrs w.heap.size ra rn r (((wc.setCell ⟨w.heap.size, 0, none⟩ (.slice ca cn ck)).setCell ⟨w.heap.size, 1, none⟩ (.slice ra rn rk)).setCell ⟨w.heap.size, 2, none⟩ (.int .i64 v))) ∧ Drew sb w (((wc.setCell ⟨w.heap.size, 0, none⟩ (.slice ca cn ck)).setCell ⟨w.heap.size, 1, none⟩ (.slice ra rn rk)).setCell ⟨w.heap.size, 2, none⟩ (.int .i64 v))) := fin_put hpc hpr hdr hlt
                have HRW := Lib.hid (d3_set2 (d3_set1 (d3_set0 hres (.slice ca cn ck)) (.slice ra rn rk)) (.int .i64 v))
                have HBB := Lib.hid hb
                clear hbox hres hb hpc hpr hdr hlt
                go_wp2_with fail
                obtain ⟨c2, r2, hp2, hd2⟩ := HFN.out
                refine bodyPost_ret (v := .agg #[.slice ca cn ck, .slice ra rn rk, .int .i64 v]) ?_ rfl ⟨ca, cn, ck, ra, rn, rk, v, c2, r2, rfl, HBB.out, hp2, hd2⟩
                obtain ⟨⟨x0, x1, x2⟩, _⟩ := d3_cells HRW.out
                simp only [results, Tryd.results83]
                simp [go_sem, x0, x1, x2]
          · have hne : Hid (ys ≠ []) := fun e => by
              have h1 := hlen.out
              rw [e] at h1
              simp at h1
              omega
            clear hnil0
            go_wp2_with fail
            refine (n_any sb u _ hD.out.dr.1 (by omega)).mono ?_
            rintro e WX ⟨⟨vv, rfl, _, _, _⟩, hDr⟩
            have S2 := Lib.hid (hD.out.draw hDr)
            clear hDr hD
            have S3 := Lib.hid (S2.out.setV vv)
            obtain ⟨⟨y0, y1, y2⟩, q0, q1, q2⟩ := d3_cells S2.out.box
            go_wp2_with fail
            clear y0 y1 y2 q0 q1 q2
            refine (one_any sb 12 _ S3.out.dr.1 (by omega)).mono ?_
            rintro e WY ⟨⟨b12, rfl⟩, hDr⟩
            have S4 := Lib.hid (S3.out.draw hDr)
            have HL1 : Hid (zs.length ≤ 31) := by show _ ≤ _; have := K0.out; omega
            have HL2 : Hid (ys.length ≤ 4) := by show _ ≤ _; have := hlen.out; omega
            have HZN : Hid (zs ≠ []) := fun e => by have := K0.out; rw [e] at this; simp at this; omega
            clear hDr S2 S3
            go_upto_if 83 with fail
            go_cut [] from 10 (fun wc => Hid (FinS w sb wc))
            case first =>
              cases b12 with
              | false =>
                go_wp2_with fail
                go_meet
                case rel => exact fin_of S4.out HL1.out HL2.out
              | true =>
                go_wp2_with fail
                refine (n_any sb 7 _ S4.out.dr.1 (by omega)).mono ?_
                rintro e WZ ⟨⟨z, rfl, z0, z1, _⟩, hDr⟩
                have z2 := z1 (by omega)
                have S5 := Lib.hid (S4.out.draw hDr)
                clear hDr z1 S4
                obtain ⟨g1, k1, g2, k2, e1, e2, hse⟩ := se_of S5.out HZN.out hne.out
                have hn0 : 1 ≤ zs.length := by have := K0.out; omega
                have hn1 := HL1.out
                have hm0 : 1 ≤ ys.length := by
                  rcases Nat.eq_zero_or_pos ys.length with h | h
                  · exact absurd (List.length_eq_zero_iff.1 h) hne.out
                  · exact h
                have hm1 := HL2.out
                clear S5 e1 e2
                generalize prList zs = c at hse
                generalize prList ys = r at hse
                obtain ⟨n, hn⟩ : ∃ n, n = zs.length := ⟨_, rfl⟩
                obtain ⟨m, hm⟩ : ∃ m, m = ys.length := ⟨_, rfl⟩
                rw [← hn] at hse hn0 hn1
                rw [← hm] at hse hm0 hm1
                clear hn hm
                have HSE := Lib.hid hse
                have SEV : Hid (∀ x, SE w sb g1 n k1 g2 m k2 c r x (WZ.setCell ⟨w.heap.size + 1, 2, none⟩ (.int .i64 x))) := fun x => hse.setV x
                obtain ⟨⟨y0, y1, y2⟩, q0, q1, q2⟩ := d3_cells hse.box
                obtain ⟨p0, p1⟩ := hse.cu.cells (i := n - 1) (by omega)
                obtain ⟨r0, r1⟩ := hse.ru.cells (i := m - 1) (by omega)
                obtain ⟨p2, p3⟩ := hse.cu.cells (i := 0) (by omega)
                obtain ⟨r2, r3⟩ := hse.ru.cells (i := 0) (by omega)
                simp only [Nat.zero_mul] at p2 p3 r2 r3
                have fz1 := hse.cu.frozen
                have fz2 := hse.ru.frozen
                have n1 : ((n : Int) - 1).toNat = n - 1 := by omega
                have n2 : ¬ (n : Int) - 1 < 0 := by omega
                have n3 : (n : Int) - 1 < (n : Int) := by omega
                have n4 : (n : Int) ≤ 31 := by omega
                have n5 : (0 : Int) < (n : Int) := by omega
                have n6 : ¬ (n : Int) < 1 := by omega
                have n7 : IntKind.i64.wrap ((n : Int) - 1) = (n : Int) - 1 := by simp [IntKind.wrap, IntKind.bits, IntKind.signed]; omega
                have m1 : ((m : Int) - 1).toNat = m - 1 := by omega
                have m2 : ¬ (m : Int) - 1 < 0 := by omega
                have m3 : (m : Int) - 1 < (m : Int) := by omega
                have m4 : (m : Int) ≤ 4 := by omega
                have m5 : (0 : Int) < (m : Int) := by omega
                clear hse
                have hz7 : z = 0 ∨ z = 1 ∨ z = 2 ∨ z = 3 ∨ z = 4 ∨ z = 5 ∨ z = 6 := by omega
                rcases hz7 with rfl | rfl | rfl | rfl | rfl | rfl | rfl
                · go_wp2_with fail
                  go_meet
                  case rel => exact (SEV.out _).fin hn1 hm1
                · go_wp2_with fail
                  go_meet
                  case rel => exact (SEV.out _).fin hn1 hm1
                · obtain ⟨r', hr'⟩ := HSE.out.setR 0 1
                  have HR' := Lib.hid hr'
                  clear hr'
                  go_wp2_with fail
                  go_meet
                  case rel => exact HR'.out.fin hn1 hm1
                · obtain ⟨c', hc'⟩ := HSE.out.setC 0 (-1)
                  have HC' := Lib.hid hc'
                  clear hc'
                  go_wp2_with fail
                  go_meet
                  case rel => exact HC'.out.fin hn1 hm1
                · have HNR := Lib.hid (HSE.out.nilR hn1)
                  go_wp2_with fail
                  go_meet
                  case rel => exact HNR.out
                · go_wp2_with fail
                  refine wp_region_held_drew (S := BoxS w g1 n k1 g2 m k2 vv) (by kernel_rfl) (BoxS.draw HSE.out.box) (fun hHeld => ?_)
                  have HS6 : Hid (SE w sb g1 n k1 g2 m k2 c r vv WZ.drew) := HSE.out.draw ⟨HSE.out.dr.1, Chg.refl _ _⟩
                  refine take_do (i := 0) (v := (.pointer (some ⟨w.heap.size + 1, 0, none⟩))) rfl (by kernel_rfl) (by kernel_rfl) (by kernel_rfl) (fun _ _ _ h => h) (by rfl) ?_ (by assumption) ?_
                  · intro w hSw
                    obtain ⟨⟨b0, b1, b2⟩, _⟩ := d3_cells hSw
                    go_simp
                  simp only [Act.put, List.setIfInBounds_toArray, List.set_cons_zero, List.set_cons_succ]
                  refine take_do (i := 1) (v := (.slice (some ⟨g1, 0, none⟩) n k1)) rfl (by kernel_rfl) (by kernel_rfl) (by kernel_rfl) (fun _ _ _ h => h) (by rfl) ?_ (by assumption) ?_
                  · intro w hSw
                    obtain ⟨⟨b0, b1, b2⟩, _⟩ := d3_cells hSw
                    go_simp
                  simp only [Act.put, List.setIfInBounds_toArray, List.set_cons_zero, List.set_cons_succ]
                  refine take_do (i := 2) (v := (.pointer (some ⟨w.heap.size + 1, 0, none⟩))) rfl (by kernel_rfl) (by kernel_rfl) (by kernel_rfl) (fun _ _ _ h => h) (by rfl) ?_ (by assumption) ?_
                  · intro w hSw
                    obtain ⟨⟨b0, b1, b2⟩, _⟩ := d3_cells hSw
                    go_simp
                  simp only [Act.put, List.setIfInBounds_toArray, List.set_cons_zero, List.set_cons_succ]
                  refine take_do (i := 3) (v := (.slice (some ⟨g1, 0, none⟩) n k1)) rfl (by kernel_rfl) (by kernel_rfl) (by kernel_rfl) (fun _ _ _ h => h) (by rfl) ?_ (by assumption) ?_
                  · intro w hSw
                    obtain ⟨⟨b0, b1, b2⟩, _⟩ := d3_cells hSw
                    go_simp
                  simp only [Act.put, List.setIfInBounds_toArray, List.set_cons_zero, List.set_cons_succ]
                  refine take_do (i := 4) (v := (.int .i64 n)) rfl (by kernel_rfl) (by kernel_rfl) (by kernel_rfl) (fun _ _ _ h => h) (by rfl) ?_ (by assumption) ?_
                  · intro w hSw
                    obtain ⟨⟨b0, b1, b2⟩, _⟩ := d3_cells hSw
                    go_simp
                  simp only [Act.put, List.setIfInBounds_toArray, List.set_cons_zero, List.set_cons_succ]
                  refine take_do (i := 5) (v := (.int .i64 ((n : Int) - 1))) rfl (by kernel_rfl) (by kernel_rfl) (by kernel_rfl) (fun _ _ _ h => h) (by rfl) ?_ (by assumption) ?_
                  · intro w hSw
                    obtain ⟨⟨b0, b1, b2⟩, _⟩ := d3_cells hSw
                    go_simp
                  simp only [Act.put, List.setIfInBounds_toArray, List.set_cons_zero, List.set_cons_succ]
                  refine take_do (i := 6) (v := (.pointer (some ⟨sb, 0, none⟩))) rfl (by kernel_rfl) (by kernel_rfl) (by kernel_rfl) (fun _ _ _ h => h) (by rfl) ?_ (by assumption) ?_
                  · intro w hSw
                    obtain ⟨⟨b0, b1, b2⟩, _⟩ := d3_cells hSw
                    go_simp
                  simp only [Act.put, List.setIfInBounds_toArray, List.set_cons_zero, List.set_cons_succ]
                  refine take_call (i := 7) rfl (by kernel_rfl) (fun K2 hK => ?_)
                  go_simp
                  refine (n_any sb 2 _ HS6.out.dr.1 (by omega)).mono ?_
                  rintro e WT ⟨⟨x2, rfl, x20, x21, _⟩, hDr⟩
                  have x22 := x21 (by omega)
                  have HS7 := Lib.hid (HS6.out.draw hDr)
                  clear hDr x21
                  have hw9 : IntKind.i64.wrap (1000000000 + x2) = 1000000000 + x2 := by simp [IntKind.wrap, IntKind.bits, IntKind.signed]; omega
                  go_wp2_with fail
                  refine hK.out _ _ HS7.out.box (fun hHeld2 => ?_)
                  clear hK hHeld
                  have hHeld := hHeld2
                  clear hHeld2
                  refine take_do (i := 8) (v := (.int .i64 (1000000000 + x2))) rfl (by kernel_rfl) (by kernel_rfl) (by kernel_rfl) (fun _ _ _ h => h) (by rfl) ?_ (by assumption) ?_
                  · intro w hSw
                    obtain ⟨⟨b0, b1, b2⟩, _⟩ := d3_cells hSw
                    go_simp
                  simp only [Act.put, List.setIfInBounds_toArray, List.set_cons_zero, List.set_cons_succ]
                  refine take_do (i := 9) (v := (.pointer (some ⟨g1, (n - 1) * 2, none⟩))) rfl (by kernel_rfl) (by kernel_rfl) (by kernel_rfl) (fun _ _ _ h => h) (by rfl) ?_ (by assumption) ?_
                  · intro w hSw
                    obtain ⟨⟨b0, b1, b2⟩, _⟩ := d3_cells hSw
                    go_simp
                  simp only [Act.put, List.setIfInBounds_toArray, List.set_cons_zero, List.set_cons_succ]
                  refine take_do (i := 10) (v := (.pointer (some ⟨g1, (n - 1) * 2 + 1, none⟩))) rfl (by kernel_rfl) (by kernel_rfl) (by kernel_rfl) (fun _ _ _ h => h) (by rfl) ?_ (by assumption) ?_
                  · intro w hSw
                    obtain ⟨⟨b0, b1, b2⟩, _⟩ := d3_cells hSw
                    go_simp
                  simp only [Act.put, List.setIfInBounds_toArray, List.set_cons_zero, List.set_cons_succ]
                  obtain ⟨w0, w1⟩ := HS7.out.cu.cells (i := n - 1) (by omega)
                  have w2 := HS7.out.cu.frozen ((n - 1) * 2 + 1)
                  obtain ⟨c', hc'⟩ := HS7.out.setC ((n - 1) * 2 + 1) (1000000000 + x2)
                  have HC' := Lib.hid hc'
                  clear hc'
                  refine take_call (i := 11) rfl (by kernel_rfl) (fun K2 hK => ?_)
                  go_simp
                  refine hK.out _ _ HC'.out.box (fun _ => ?_)
                  clear hK
                  refine wpAnyH_done (by kernel_rfl) ?_ _
                  go_wp2_with fail
                  go_meet
                  case rel => exact HC'.out.fin hn1 hm1
                · obtain ⟨r', hr'⟩ := HSE.out.setR ((m - 1) * 2 + 1) 1001
                  have HR' := Lib.hid hr'
                  clear hr'
                  go_wp2_with fail
                  go_meet
                  case rel => exact HR'.out.fin hn1 hm1
            case rest =>
              obtain ⟨ca, cn, ck, ra, rn, rk, v, c, r, ⟨hbox, hres⟩, hb, ⟨hpc, hpr⟩, hdr, hlt⟩ := hcut.out
              obtain ⟨⟨y0, y1, y2⟩, _⟩ := d3_cells hbox
              obtain ⟨⟨t0, t1, t2⟩, q0, q1, q2⟩ := d3_cells hres
              have HFN : Hid (∃ c r, (OwnPrs w.heap.size ca cn c (((wc.setCell ⟨w.heap.size, 0, none⟩ (.slice ca cn ck)).setCell ⟨w.heap.size, 1, none⟩ (.slice ra rn rk)).setCell ⟨w.heap.size, 2, none⟩ (.int .i64 v)) ∧ OwnPrs w.heap.size ra rn r (((wc.setCell ⟨w.heap.size, 0, none⟩ (.slice ca cn ck)).setCell ⟨w.heap.size, 1, none⟩ (.slice ra rn rk)).setCell ⟨w.heap.size, 2, none⟩ (.int .i64 v))) ∧ Drew sb w (((wc.setCell ⟨w.heap.size, 0, none⟩ (.slice ca cn ck)).setCell ⟨w.heap.size, 1, none⟩ (.slice ra rn rk)).setCell ⟨w.heap.size, 2, none⟩ (.int .i64 v))) := fin_put hpc hpr hdr hlt
              have HRW := Lib.hid (d3_set2 (d3_set1 (d3_set0 hres (.slice ca cn ck)) (.slice ra rn rk)) (.int .i64 v))
              have HBB := Lib.hid hb
              clear hbox hres hb hpc hpr hdr hlt
              go_wp2_with fail
              obtain ⟨c2, r2, hp2, hd2⟩ := HFN.out
              refine bodyPost_ret (v := .agg #[.slice ca cn ck, .slice ra rn rk, .int .i64 v]) ?_ rfl ⟨ca, cn, ck, ra, rn, rk, v, c2, r2, rfl, HBB.out, hp2, hd2⟩
              obtain ⟨⟨x0, x1, x2⟩, _⟩ := d3_cells HRW.out
              simp only [results, Tryd.results83]
              simp [go_sem, x0, x1, x2]
end Go.Proofs.YtdpghhmcibiplaaDoor
