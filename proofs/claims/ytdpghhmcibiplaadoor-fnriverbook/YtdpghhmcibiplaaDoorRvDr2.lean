/-
  The contract of the draw of a river.
-/
import Derived.Test.YtdpghhmcibiplaaDoorRvDr
import Derived.Test.YtdpghhmcibiplaaDoorRvS1
import Derived.Deep.Cut
namespace Go.Proofs.YtdpghhmcibiplaaDoor
open Go.RowKit Go.Deep

/-- What the drawing of a river keeps: the list so far, the source, the old memory. -/
def RL (w : World) (sb : Nat) (v : Value) (zs : List Rv.Rc) (W : World) : Prop := W.ownsRow w.heap.size 43 5 v zs.length (zs.flatMap rcCells) ∧ Drew sb w W ∧ sb < w.heap.size
/-- .. and the reach that is drawn. -/
structure RD (w : World) (sb R : Nat) (v : Value) (zs : List Rv.Rc) (r : Rv.Rc) (W : World) : Prop where
  rl : RL w sb v zs W
  row : W.rowIs R 43 5 (rcCell r)
  far : w.heap.size ≤ R ∧ v.ownBlock ≠ some R
theorem RL.draw {w : World} {sb : Nat} {v : Value} {zs : List Rv.Rc} {W W' : World} (h : RL w sb v zs W) (hd : Drew sb W W') : RL w sb v zs W' :=
  ⟨own_far h.1 (fun k hk hl => hd.2.2.2.2.2 k hl (by have := (h.1.lt k hk).1; have := h.2.2; omega)), ⟨hd.1, h.2.1.2.trans hd.2⟩, h.2.2⟩
theorem RL.alloc {w : World} {sb : Nat} {v : Value} {zs : List Rv.Rc} {W : World} (h : RL w sb v zs W) (o : Obj) : RL w sb v zs (W.alloc o) := by
  have hb : Below W.heap.size W (W.alloc o) := (Below.refl _ _).alloc (Nat.le_refl _) _
  exact ⟨h.1.alloc _, ⟨h.2.1.1.below hb, h.2.1.2.trans (Chg.of_below hb)⟩, h.2.2⟩
theorem RL.push {w : World} {sb : Nat} {v v' : Value} {zs : List Rv.Rc} {x : Rv.Rc} {W W' : World} {o : Obj} (h : RL w sb v zs W) (hg : (W.alloc o).grownBy W' v.ownBlock)
    (hown : W'.ownsRow w.heap.size 43 5 v' (zs.length + 1) (zs.flatMap rcCells ++ rcCells x)) : RL w sb v' (zs ++ [x]) W' := by
  have hz := h.2.1.2.size
  have hrow : ∀ k, v.ownBlock = some k → w.heap.size ≤ k := fun k e => (h.1.lt k e).1
  have hk : ∀ k, k < w.heap.size → W'.heap[k]? = W.heap[k]? := fun k hk => by
    rw [hg.block k (by simp; omega) (fun e => by have := hrow k e.symm; omega)]
    exact blk_alloc_lt _ _ _ (by omega)
  refine ⟨by rw [List.flatMap_append, List.length_append]; simpa using hown, ⟨h.2.1.1.keep (fun k hk2 => hk k (by have := h.2.2; omega)), ?_⟩, h.2.2⟩
  exact ⟨hg.os.trans h.2.1.2.1, hg.tape.trans h.2.1.2.2.1, hg.output.trans h.2.1.2.2.2.1, by have := hg.size; simp at this; omega, fun k hk1 hk2 => (hk k hk1).trans (h.2.1.2.2.2.2.2 k hk1 hk2)⟩
section
variable {w : World} {sb R : Nat} {v : Value} {zs : List Rv.Rc} {r : Rv.Rc} {W W' : World}
theorem RD.draw (h : RD w sb R v zs r W) (hd : Drew sb W W') : RD w sb R v zs r W' :=
  ⟨h.rl.draw hd, h.row.of_block (hd.2.2.2.2.2 R h.row.lt (by have := h.far.1; have := h.rl.2.2; omega)), h.far⟩
theorem RD.alloc (h : RD w sb R v zs r W) (o : Obj) : RD w sb R v zs r (W.alloc o) := ⟨h.rl.alloc o, h.row.alloc o, h.far⟩
theorem RD.set {r' : Rv.Rc} (h : RD w sb R v zs r W) (k : Nat) (x : Int) (e : ∀ j, j < 5 → (if j = k then .int .i64 x else rcCell r j) = rcCell r' j) : RD w sb R v zs r' (W.setCell ⟨R, k, none⟩ (.int .i64 x)) := by
  refine ⟨⟨own_far h.rl.1 (fun j hj _ => blk_setCell_other _ _ _ _ (by show j ≠ R; intro e; subst e; exact h.far.2 hj)), ⟨h.rl.2.1.1.keep (fun j hj => blk_setCell_other _ _ _ _ (by show j ≠ R; have := h.far.1; have := h.rl.2.2; omega)), ?_⟩, h.rl.2.2⟩, (h.row.set k _).congr e, h.far⟩
  exact ⟨h.rl.2.1.2.1, h.rl.2.1.2.2.1, h.rl.2.1.2.2.2.1, by have := h.rl.2.1.2.size; simpa using this, fun j hj1 hj2 => (blk_setCell_other _ _ _ _ (by show j ≠ R; have := h.far.1; omega)).trans (h.rl.2.1.2.2.2.2.2 j hj1 hj2)⟩
theorem RD.set0 (h : RD w sb R v zs r W) (x : Int) : RD w sb R v zs { r with st := x } (W.setCell ⟨R, 0, none⟩ (.int .i64 x)) := h.set 0 x (fun j hj => by
  have : j = 0 ∨ j = 1 ∨ j = 2 ∨ j = 3 ∨ j = 4 := by omega
  rcases this with rfl | rfl | rfl | rfl | rfl <;> simp [rcCell])
theorem RD.set1 (h : RD w sb R v zs r W) (x : Int) : RD w sb R v zs { r with kp := x } (W.setCell ⟨R, 1, none⟩ (.int .i64 x)) := h.set 1 x (fun j hj => by
  have : j = 0 ∨ j = 1 ∨ j = 2 ∨ j = 3 ∨ j = 4 := by omega
  rcases this with rfl | rfl | rfl | rfl | rfl <;> simp [rcCell])
theorem RD.set2 (h : RD w sb R v zs r W) (x : Int) : RD w sb R v zs { r with dn := x } (W.setCell ⟨R, 2, none⟩ (.int .i64 x)) := h.set 2 x (fun j hj => by
  have : j = 0 ∨ j = 1 ∨ j = 2 ∨ j = 3 ∨ j = 4 := by omega
  rcases this with rfl | rfl | rfl | rfl | rfl <;> simp [rcCell])
theorem RD.cells (h : RD w sb R v zs r W) : (W.cell? ⟨R, 0, none⟩ = some (.int .i64 r.st) ∧ W.cell? ⟨R, 1, none⟩ = some (.int .i64 r.kp) ∧ W.cell? ⟨R, 2, none⟩ = some (.int .i64 r.dn) ∧ W.cell? ⟨R, 3, none⟩ = some (.int .i64 r.tk) ∧ W.cell? ⟨R, 4, none⟩ = some (.int .i64 r.ls)) ∧ (W.frozen? ⟨R, 0, none⟩ = false ∧ W.frozen? ⟨R, 1, none⟩ = false ∧ W.frozen? ⟨R, 2, none⟩ = false) ∧ R < W.heap.size :=
  ⟨⟨h.row.cell (i := 0) (by omega), h.row.cell (i := 1) (by omega), h.row.cell (i := 2) (by omega), h.row.cell (i := 3) (by omega), h.row.cell (i := 4) (by omega)⟩, ⟨h.row.frozen 0, h.row.frozen 1, h.row.frozen 2⟩, h.row.lt⟩
end
theorem rd_start {w : World} {sb : Nat} {v : Value} {zs : List Rv.Rc} {W : World} (h : RL w sb v zs W) (a b c d : Int) : RD w sb W.heap.size v zs ⟨a, b, -1, c, d⟩ (W.alloc (.cells #[.int .i64 a, .int .i64 b, .int .i64 (-1), .int .i64 c, .int .i64 d] 43)) :=
  ⟨h.alloc _, World.rowIs_alloc W #[.int .i64 a, .int .i64 b, .int .i64 (-1), .int .i64 c, .int .i64 d] 43 _ (fun i hi => by
    have hv : i = 0 ∨ i = 1 ∨ i = 2 ∨ i = 3 ∨ i = 4 := by simp at hi; omega
    rcases hv with rfl | rfl | rfl | rfl | rfl <;> rfl), h.2.1.2.size, fun e => by have := (h.1.lt _ e).2; omega⟩
/-- One of four numbers. -/
theorem four {W W' : World} {sb g : Nat} {z : Int} {n : Nat} (c : Array Value) (T : TypeId) (hc : ∀ i, i < c.size → ∃ x : Int, c[i]? = some (.int .i64 x)) (hg : W.heap[g]? = some (.cells c T)) (hs : c.size = n) (hd : Drew sb W W') (hne : g ≠ sb) (z0 : 0 ≤ z) (z1 : z < n) : ∃ x : Int, W'.cell? ⟨g, z.toNat, none⟩ = some (.int .i64 x) := by
  have hlt : g < W.heap.size := (Array.getElem?_eq_some_iff.1 hg).1
  obtain ⟨x, hx⟩ := hc z.toNat (by omega)
  refine ⟨x, ?_⟩
  rw [hd.2.cell (p := ⟨g, z.toNat, none⟩) hlt hne]
  simp [World.cell?, hg, hx]

set_option maxRecDepth 100000 in
set_option maxHeartbeats 16000000 in
theorem river_any (sb : Nat) (w : World) (h : Src sb w) :
    Calls Tryd.prog 66 #[.pointer (some ⟨sb, 0, none⟩)] w fun e w' => ∃ v, e = .returned v ∧ ∃ zs : List Rv.Rc, 1 ≤ zs.length ∧ zs.length ≤ 100 ∧ RL w sb v zs w' := by
  have H : Hid (Src sb w) := h
  have hlt := h.lt
  obtain ⟨i0, hi0, hz0, hz1, hz2⟩ := info_parts info_rc
  obtain ⟨sz, hsz, sz0, sz1⟩ : ∃ sz : Int, w.cell? ⟨sb, 3, none⟩ = some (.int .i64 sz) ∧ 0 ≤ sz ∧ sz ≤ 12 := by
    obtain ⟨a, len, cap, at_, mix, size, hc, _, _, _, h4, h5, _⟩ := h
    exact ⟨size, hc.2.2.2.1, h4, h5⟩
  clear h
  go_enter Tryd.func66, Tryd.ntmps66
  go_wp2_with fail
  refine (n_any sb _ _ H.out (by omega)).mono ?_
  rintro e w1 ⟨⟨n0, rfl, n00, n01, _⟩, hD⟩
  have n02 := n01 (by omega)
  have D1 := Lib.hid hD
  clear hD n01 hsz
  go_wp2_with fail
  refine (one_any sb 40 _ D1.out.1 (by omega)).mono ?_
  rintro e w2 ⟨⟨b1, rfl⟩, hD⟩
  have D2 : Hid (Drew sb w w2) := ⟨hD.1, D1.out.2.trans hD.2⟩
  clear hD D1
  go_upto_if 16 with fail
  go_cut [3] (fun nv wx => ∃ N : Nat, nv = .int .i64 N ∧ 1 ≤ N ∧ N ≤ 41 ∧ Hid (Drew sb w wx))
  case first =>
    cases b1
    · go_wp2_with fail
      go_meet
      exact ⟨(1 + n0).toNat, by congr 1; omega, by omega, by omega, D2⟩
    · go_wp2_with fail
      refine (n_any sb 3 _ D2.out.1 (by omega)).mono ?_
      rintro e w3 ⟨⟨n1, rfl, n10, n11, _⟩, hD⟩
      have n12 := n11 (by omega)
      have D3 : Hid (Drew sb w w3) := ⟨hD.1, D2.out.2.trans hD.2⟩
      clear hD D2 n11
      go_wp2_with fail
      go_meet
      exact ⟨(39 + n1).toNat, by congr 1; omega, by omega, by omega, D3⟩
  case rest =>
    obtain ⟨N, rfl, hN1, hN2, D4⟩ := hcut
    clear D2
    have hL0 : Hid (RL w sb (.slice (some ⟨wc.heap.size, 0, none⟩) 0 0) [] (wc.alloc (.cells #[] 43))) := by
      have hb : Below wc.heap.size wc (wc.alloc (.cells #[] 43)) := (Below.refl _ _).alloc (Nat.le_refl _) _
      have ho : (wc.alloc (.cells #[] 43)).ownsRow wc.heap.size 43 5 (.slice (some ⟨wc.heap.size, 0, none⟩) 0 0) 0 [] := World.ownsRow_made wc #[] 0 (Nat.le_refl _) (Nat.zero_le _) rfl
      refine ⟨⟨ho.1, ?_⟩, ⟨D4.out.1.below hb, D4.out.2.trans (Chg.of_below hb)⟩, hlt⟩
      rcases ho.2 with k | ⟨g, c, cur, e1, e2, e3⟩
      · exact Or.inl k
      · exact Or.inr ⟨g, c, cur, e1, Nat.le_trans D4.out.2.size e2, e3⟩
    clear D4
    go_wp2_with fail
    go_loopw [4, 5] (fun ov iv wr => ∃ (i : Nat) (zs : List Rv.Rc), i ≤ N ∧ Hid (zs.length = i) ∧ iv = .int .i64 i ∧ Hid (RL w sb ov zs wr)) (fun _ iv _ => N - (intOf iv).toNat)
    case atStart => exact ⟨0, [], Nat.zero_le _, rfl, rfl, hL0⟩
    case round =>
      obtain ⟨i, zs, hi, hzl, rfl, hR⟩ := hrel
      clear hL0
      obtain ⟨av, cv, rfl⟩ := own_shape hR.out.1
      by_cases hltN : i < N
      · have hltz : (i : Int) < (N : Int) := by omega
        go_wp2_with fail
        refine (n_any sb 2000 _ hR.out.2.1.1 (by omega)).mono ?_
        rintro e w1 ⟨⟨a1, rfl, _, _, _⟩, hD⟩
        have R1 := Lib.hid (hR.out.draw hD)
        clear hD hR
        go_wp2_with fail
        refine (n_any sb 1001 _ R1.out.2.1.1 (by omega)).mono ?_
        rintro e w2 ⟨⟨a2, rfl, _, _, _⟩, hD⟩
        have R2 := Lib.hid (R1.out.draw hD)
        clear hD R1
        go_wp2_with fail
        refine (n_any sb 300 _ R2.out.2.1.1 (by omega)).mono ?_
        rintro e w3 ⟨⟨a3, rfl, _, _, _⟩, hD⟩
        have R3 := Lib.hid (R2.out.draw hD)
        clear hD R2
        go_wp2_with fail
        refine (n_any sb 200 _ R3.out.2.1.1 (by omega)).mono ?_
        rintro e w4 ⟨⟨a4, rfl, _, _, _⟩, hD⟩
        have R4 := Lib.hid (R3.out.draw hD)
        clear hD R3
        have S : Hid (RD w sb w4.heap.size (.slice av zs.length cv) zs ⟨a1, a2, -1, a3, a4⟩ (w4.alloc (.cells #[.int .i64 a1, .int .i64 a2, .int .i64 (-1), .int .i64 a3, .int .i64 a4] 43))) := rd_start R4.out a1 a2 a3 a4
        clear R4
        go_upto_region 9 with fail
        generalize (w4.alloc (.cells #[.int .i64 a1, .int .i64 a2, .int .i64 (-1), .int .i64 a3, .int .i64 a4] 43)) = W at *
        generalize w4.heap.size = R at *
        generalize (⟨a1, a2, -1, a3, a4⟩ : Rv.Rc) = r at *
        by_cases hA : (i : Int) < (N : Int) - 1
        · go_wp2_with fail
          refine (one_any sb 6 _ S.out.rl.2.1.1 (by omega)).mono ?_
          rintro e W2 ⟨⟨b2, rfl⟩, hD⟩
          have S2 := Lib.hid (S.out.draw hD)
          clear hD S
          have S := S2
          clear S2
          cases b2
          · have hmn : min 4 ((N : Int) - 1 - (i : Int)) ≤ 4 := by omega
            go_wp2_with fail
            refine (specMin 4 ((N : Int) - 1 - (i : Int)) _).mono ?_
            rintro e W2b ⟨rfl, rfl⟩
            go_wp2_with fail
            refine (n_any sb _ _ S.out.rl.2.1.1 (by omega)).mono ?_
            rintro e W3 ⟨⟨z, rfl, z0, z1, z2⟩, hD⟩
            have z3 : z ≤ 4 := by
              by_cases k : 1 < min 4 ((N : Int) - 1 - (i : Int))
              · have := z1 k; omega
              · have := z2 (by omega); omega
            have S2 := Lib.hid (S.out.draw hD)
            clear hD S z1 z2
            have S3 := Lib.hid (S2.out.set2 ((i : Int) + 1 + z))
            obtain ⟨⟨_, _, x2, _, _⟩, ⟨_, _, f2⟩, zR⟩ := S2.out.cells
            clear S2
            have S := S3
            clear S3
            go_upto_region 11 with fail
            clear x2 f2 zR hmn
            generalize W3.setCell ⟨R, 2, none⟩ (.int .i64 ((i : Int) + 1 + z)) = W at *
            have hr : ∃ r', Hid (RD w sb R (.slice av zs.length cv) zs r' W) := ⟨_, S⟩
            clear S
            obtain ⟨r, S⟩ := hr
            go_wp2_with fail
            refine (one_any sb 30 _ S.out.rl.2.1.1 (by omega)).mono ?_
            rintro e W2 ⟨⟨b2, rfl⟩, hD⟩
            have S2 := Lib.hid (S.out.draw hD)
            clear hD S
            have S := S2
            clear S2
            cases b2
            · go_upto_region 13 with fail
              generalize W2 = W at *
              have hr : ∃ r', Hid (RD w sb R (.slice av zs.length cv) zs r' W) := ⟨_, S⟩
              clear S
              obtain ⟨r, S⟩ := hr
              go_wp2_with fail
              refine (one_any sb 30 _ S.out.rl.2.1.1 (by omega)).mono ?_
              rintro e W2 ⟨⟨b2, rfl⟩, hD⟩
              have S2 := Lib.hid (S.out.draw hD)
              clear hD S
              have S := S2
              clear S2
              cases b2
              · go_upto_region 15 with fail
                generalize W2 = W at *
                have hr : ∃ r', Hid (RD w sb R (.slice av zs.length cv) zs r' W) := ⟨_, S⟩
                clear S
                obtain ⟨r, S⟩ := hr
                go_wp2_with fail
                refine (one_any sb 60 _ S.out.rl.2.1.1 (by omega)).mono ?_
                rintro e W2 ⟨⟨b2, rfl⟩, hD⟩
                have S2 := Lib.hid (S.out.draw hD)
                clear hD S
                have S := S2
                clear S2
                cases b2
                · go_upto_region 17 with fail
                  generalize W2 = W at *
                  have hr : ∃ r', Hid (RD w sb R (.slice av zs.length cv) zs r' W) := ⟨_, S⟩
                  clear S
                  obtain ⟨r, S⟩ := hr
                  obtain ⟨⟨x0, x1, x2, x3, x4⟩, _, zR⟩ := S.out.cells
                  have zw : w.heap.size ≤ W.heap.size := S.out.rl.2.1.2.size
                  go_wp2_with (at_builtin; refine wpList_append_own _ rfl _ _ 25 rfl w.heap.size 43 i0 (.agg #[.int .i64 0, .int .i64 0, .int .i64 0, .int .i64 0, .int .i64 0]) 5 40 Tryd.underlying25 hi0 hz0 hz1 hz2 rfl (by decide) _ _ _ rfl (S.out.rl.1.alloc _) ⟨W.heap.size, 0, none⟩ 1 1 (rcCells r) rfl rfl ?c1a ?c1b ?c1c ?c1d ?c1e ?_)
                  try (case c1a => (intro j u hj; match j, hj with
                    | 0, hj => (simp [rcCells] at hj; subst hj; simp [Addr.add])
                    | 1, hj => (simp [rcCells] at hj; subst hj; simp [Addr.add])
                    | 2, hj => (simp [rcCells] at hj; subst hj; simp [Addr.add])
                    | 3, hj => (simp [rcCells] at hj; subst hj; simp [Addr.add])
                    | 4, hj => (simp [rcCells] at hj; subst hj; simp [Addr.add])))
                  try (case c1b => (intro u hu; simp [rcCells] at hu; rcases hu with rfl | rfl | rfl | rfl | rfl <;> rfl))
                  try (case c1c => (have := hzl.out; unfold maxLen; omega))
                  try (case c1d => (have := hzl.out; omega))
                  try (case c1e => first | omega | (simp; omega))
                  intro v' W9 hown hgrow hnil
                  have R9 := Lib.hid (S.out.rl.push (x := r) hgrow hown)
                  clear hown hgrow hnil S x0 x1 x2 x3 x4
                  go_wp2_with fail
                  go_roundw
                  case rel => exact ⟨i + 1, zs ++ [r], by omega, by show _ = _; have := hzl.out; simp; omega, by go_num, R9⟩
                  case measure => simp [intOf]; omega
                · go_wp2_with fail
                  refine (n_any sb 2 _ S.out.rl.2.1.1 (by omega)).mono ?_
                  rintro e W3 ⟨⟨z, rfl, z0, z1, _⟩, hD⟩
                  have z2 := z1 (by omega)
                  have S2 := Lib.hid (S.out.draw hD)
                  clear hD S z1
                  have S3 := Lib.hid (S2.out.set2 ((i : Int) - z))
                  obtain ⟨⟨_, _, x2, _, _⟩, ⟨_, _, f2⟩, zR⟩ := S2.out.cells
                  clear S2
                  have S := S3
                  clear S3
                  go_upto_region 17 with fail
                  clear x2 f2 zR
                  generalize W3.setCell ⟨R, 2, none⟩ (.int .i64 ((i : Int) - z)) = W at *
                  have hr : ∃ r', Hid (RD w sb R (.slice av zs.length cv) zs r' W) := ⟨_, S⟩
                  clear S
                  obtain ⟨r, S⟩ := hr
                  obtain ⟨⟨x0, x1, x2, x3, x4⟩, _, zR⟩ := S.out.cells
                  have zw : w.heap.size ≤ W.heap.size := S.out.rl.2.1.2.size
                  go_wp2_with (at_builtin; refine wpList_append_own _ rfl _ _ 25 rfl w.heap.size 43 i0 (.agg #[.int .i64 0, .int .i64 0, .int .i64 0, .int .i64 0, .int .i64 0]) 5 40 Tryd.underlying25 hi0 hz0 hz1 hz2 rfl (by decide) _ _ _ rfl (S.out.rl.1.alloc _) ⟨W.heap.size, 0, none⟩ 1 1 (rcCells r) rfl rfl ?c2a ?c2b ?c2c ?c2d ?c2e ?_)
                  try (case c2a => (intro j u hj; match j, hj with
                    | 0, hj => (simp [rcCells] at hj; subst hj; simp [Addr.add])
                    | 1, hj => (simp [rcCells] at hj; subst hj; simp [Addr.add])
                    | 2, hj => (simp [rcCells] at hj; subst hj; simp [Addr.add])
                    | 3, hj => (simp [rcCells] at hj; subst hj; simp [Addr.add])
                    | 4, hj => (simp [rcCells] at hj; subst hj; simp [Addr.add])))
                  try (case c2b => (intro u hu; simp [rcCells] at hu; rcases hu with rfl | rfl | rfl | rfl | rfl <;> rfl))
                  try (case c2c => (have := hzl.out; unfold maxLen; omega))
                  try (case c2d => (have := hzl.out; omega))
                  try (case c2e => first | omega | (simp; omega))
                  intro v' W9 hown hgrow hnil
                  have R9 := Lib.hid (S.out.rl.push (x := r) hgrow hown)
                  clear hown hgrow hnil S x0 x1 x2 x3 x4
                  go_wp2_with fail
                  go_roundw
                  case rel => exact ⟨i + 1, zs ++ [r], by omega, by show _ = _; have := hzl.out; simp; omega, by go_num, R9⟩
                  case measure => simp [intOf]; omega
              · have hgg : (W2.alloc (.cells #[.int .i64 0, .int .i64 1000, .int .i64 1001, .int .i64 (-1)] 2)).heap[W2.heap.size]? = some (.cells #[.int .i64 0, .int .i64 1000, .int .i64 1001, .int .i64 (-1)] 2) := blk_alloc_new _ _
                have hne : W2.heap.size ≠ sb := by have := S.out.rl.2.1.2.size; have := S.out.rl.2.2; omega
                go_wp2_with fail
                refine (n_any sb 4 _ (S.out.alloc _).rl.2.1.1 (by omega)).mono ?_
                rintro e W3 ⟨⟨z, rfl, z0, z1, _⟩, hD⟩
                have z2 := z1 (by omega)
                obtain ⟨x, hx⟩ := four (z := z) (n := 4) #[.int .i64 0, .int .i64 1000, .int .i64 1001, .int .i64 (-1)] 2 (fun j hj => by
                  have hv : j = 0 ∨ j = 1 ∨ j = 2 ∨ j = 3 := by simp at hj; omega
                  rcases hv with rfl | rfl | rfl | rfl <;> exact ⟨_, rfl⟩) hgg rfl hD hne z0 (by omega)
                have S2 := Lib.hid ((S.out.alloc (.cells #[.int .i64 0, .int .i64 1000, .int .i64 1001, .int .i64 (-1)] 2)).draw hD)
                clear hD S z1 hgg
                have S3 := Lib.hid (S2.out.set1 x)
                obtain ⟨⟨x0, x1, _, _, _⟩, ⟨f0, f1, _⟩, zR⟩ := S2.out.cells
                clear S2
                have S := S3
                clear S3
                go_upto_region 15 with fail
                clear hx x0 x1 f0 f1 zR hne
                generalize W3.setCell ⟨R, 1, none⟩ (.int .i64 x) = W at *
                have hr : ∃ r', Hid (RD w sb R (.slice av zs.length cv) zs r' W) := ⟨_, S⟩
                clear S
                obtain ⟨r, S⟩ := hr
                go_wp2_with fail
                refine (one_any sb 60 _ S.out.rl.2.1.1 (by omega)).mono ?_
                rintro e W2 ⟨⟨b2, rfl⟩, hD⟩
                have S2 := Lib.hid (S.out.draw hD)
                clear hD S
                have S := S2
                clear S2
                cases b2
                · go_upto_region 17 with fail
                  generalize W2 = W at *
                  have hr : ∃ r', Hid (RD w sb R (.slice av zs.length cv) zs r' W) := ⟨_, S⟩
                  clear S
                  obtain ⟨r, S⟩ := hr
                  obtain ⟨⟨x0, x1, x2, x3, x4⟩, _, zR⟩ := S.out.cells
                  have zw : w.heap.size ≤ W.heap.size := S.out.rl.2.1.2.size
                  go_wp2_with (at_builtin; refine wpList_append_own _ rfl _ _ 25 rfl w.heap.size 43 i0 (.agg #[.int .i64 0, .int .i64 0, .int .i64 0, .int .i64 0, .int .i64 0]) 5 40 Tryd.underlying25 hi0 hz0 hz1 hz2 rfl (by decide) _ _ _ rfl (S.out.rl.1.alloc _) ⟨W.heap.size, 0, none⟩ 1 1 (rcCells r) rfl rfl ?c3a ?c3b ?c3c ?c3d ?c3e ?_)
                  try (case c3a => (intro j u hj; match j, hj with
                    | 0, hj => (simp [rcCells] at hj; subst hj; simp [Addr.add])
                    | 1, hj => (simp [rcCells] at hj; subst hj; simp [Addr.add])
                    | 2, hj => (simp [rcCells] at hj; subst hj; simp [Addr.add])
                    | 3, hj => (simp [rcCells] at hj; subst hj; simp [Addr.add])
                    | 4, hj => (simp [rcCells] at hj; subst hj; simp [Addr.add])))
                  try (case c3b => (intro u hu; simp [rcCells] at hu; rcases hu with rfl | rfl | rfl | rfl | rfl <;> rfl))
                  try (case c3c => (have := hzl.out; unfold maxLen; omega))
                  try (case c3d => (have := hzl.out; omega))
                  try (case c3e => first | omega | (simp; omega))
                  intro v' W9 hown hgrow hnil
                  have R9 := Lib.hid (S.out.rl.push (x := r) hgrow hown)
                  clear hown hgrow hnil S x0 x1 x2 x3 x4
                  go_wp2_with fail
                  go_roundw
                  case rel => exact ⟨i + 1, zs ++ [r], by omega, by show _ = _; have := hzl.out; simp; omega, by go_num, R9⟩
                  case measure => simp [intOf]; omega
                · go_wp2_with fail
                  refine (n_any sb 2 _ S.out.rl.2.1.1 (by omega)).mono ?_
                  rintro e W3 ⟨⟨z, rfl, z0, z1, _⟩, hD⟩
                  have z2 := z1 (by omega)
                  have S2 := Lib.hid (S.out.draw hD)
                  clear hD S z1
                  have S3 := Lib.hid (S2.out.set2 ((i : Int) - z))
                  obtain ⟨⟨_, _, x2, _, _⟩, ⟨_, _, f2⟩, zR⟩ := S2.out.cells
                  clear S2
                  have S := S3
                  clear S3
                  go_upto_region 17 with fail
                  clear x2 f2 zR
                  generalize W3.setCell ⟨R, 2, none⟩ (.int .i64 ((i : Int) - z)) = W at *
                  have hr : ∃ r', Hid (RD w sb R (.slice av zs.length cv) zs r' W) := ⟨_, S⟩
                  clear S
                  obtain ⟨r, S⟩ := hr
                  obtain ⟨⟨x0, x1, x2, x3, x4⟩, _, zR⟩ := S.out.cells
                  have zw : w.heap.size ≤ W.heap.size := S.out.rl.2.1.2.size
                  go_wp2_with (at_builtin; refine wpList_append_own _ rfl _ _ 25 rfl w.heap.size 43 i0 (.agg #[.int .i64 0, .int .i64 0, .int .i64 0, .int .i64 0, .int .i64 0]) 5 40 Tryd.underlying25 hi0 hz0 hz1 hz2 rfl (by decide) _ _ _ rfl (S.out.rl.1.alloc _) ⟨W.heap.size, 0, none⟩ 1 1 (rcCells r) rfl rfl ?c4a ?c4b ?c4c ?c4d ?c4e ?_)
                  try (case c4a => (intro j u hj; match j, hj with
                    | 0, hj => (simp [rcCells] at hj; subst hj; simp [Addr.add])
                    | 1, hj => (simp [rcCells] at hj; subst hj; simp [Addr.add])
                    | 2, hj => (simp [rcCells] at hj; subst hj; simp [Addr.add])
                    | 3, hj => (simp [rcCells] at hj; subst hj; simp [Addr.add])
                    | 4, hj => (simp [rcCells] at hj; subst hj; simp [Addr.add])))
                  try (case c4b => (intro u hu; simp [rcCells] at hu; rcases hu with rfl | rfl | rfl | rfl | rfl <;> rfl))
                  try (case c4c => (have := hzl.out; unfold maxLen; omega))
                  try (case c4d => (have := hzl.out; omega))
                  try (case c4e => first | omega | (simp; omega))
                  intro v' W9 hown hgrow hnil
                  have R9 := Lib.hid (S.out.rl.push (x := r) hgrow hown)
                  clear hown hgrow hnil S x0 x1 x2 x3 x4
                  go_wp2_with fail
                  go_roundw
                  case rel => exact ⟨i + 1, zs ++ [r], by omega, by show _ = _; have := hzl.out; simp; omega, by go_num, R9⟩
                  case measure => simp [intOf]; omega
            · have hgg : (W2.alloc (.cells #[.int .i64 0, .int .i64 1000000000, .int .i64 1000000001, .int .i64 (-1)] 2)).heap[W2.heap.size]? = some (.cells #[.int .i64 0, .int .i64 1000000000, .int .i64 1000000001, .int .i64 (-1)] 2) := blk_alloc_new _ _
              have hne : W2.heap.size ≠ sb := by have := S.out.rl.2.1.2.size; have := S.out.rl.2.2; omega
              go_wp2_with fail
              refine (n_any sb 4 _ (S.out.alloc _).rl.2.1.1 (by omega)).mono ?_
              rintro e W3 ⟨⟨z, rfl, z0, z1, _⟩, hD⟩
              have z2 := z1 (by omega)
              obtain ⟨x, hx⟩ := four (z := z) (n := 4) #[.int .i64 0, .int .i64 1000000000, .int .i64 1000000001, .int .i64 (-1)] 2 (fun j hj => by
                have hv : j = 0 ∨ j = 1 ∨ j = 2 ∨ j = 3 := by simp at hj; omega
                rcases hv with rfl | rfl | rfl | rfl <;> exact ⟨_, rfl⟩) hgg rfl hD hne z0 (by omega)
              have S2 := Lib.hid ((S.out.alloc (.cells #[.int .i64 0, .int .i64 1000000000, .int .i64 1000000001, .int .i64 (-1)] 2)).draw hD)
              clear hD S z1 hgg
              have S3 := Lib.hid (S2.out.set0 x)
              obtain ⟨⟨x0, x1, _, _, _⟩, ⟨f0, f1, _⟩, zR⟩ := S2.out.cells
              clear S2
              have S := S3
              clear S3
              go_upto_region 13 with fail
              clear hx x0 x1 f0 f1 zR hne
              generalize W3.setCell ⟨R, 0, none⟩ (.int .i64 x) = W at *
              have hr : ∃ r', Hid (RD w sb R (.slice av zs.length cv) zs r' W) := ⟨_, S⟩
              clear S
              obtain ⟨r, S⟩ := hr
              go_wp2_with fail
              refine (one_any sb 30 _ S.out.rl.2.1.1 (by omega)).mono ?_
              rintro e W2 ⟨⟨b2, rfl⟩, hD⟩
              have S2 := Lib.hid (S.out.draw hD)
              clear hD S
              have S := S2
              clear S2
              cases b2
              · go_upto_region 15 with fail
                generalize W2 = W at *
                have hr : ∃ r', Hid (RD w sb R (.slice av zs.length cv) zs r' W) := ⟨_, S⟩
                clear S
                obtain ⟨r, S⟩ := hr
                go_wp2_with fail
                refine (one_any sb 60 _ S.out.rl.2.1.1 (by omega)).mono ?_
                rintro e W2 ⟨⟨b2, rfl⟩, hD⟩
                have S2 := Lib.hid (S.out.draw hD)
                clear hD S
                have S := S2
                clear S2
                cases b2
                · go_upto_region 17 with fail
                  generalize W2 = W at *
                  have hr : ∃ r', Hid (RD w sb R (.slice av zs.length cv) zs r' W) := ⟨_, S⟩
                  clear S
                  obtain ⟨r, S⟩ := hr
                  obtain ⟨⟨x0, x1, x2, x3, x4⟩, _, zR⟩ := S.out.cells
                  have zw : w.heap.size ≤ W.heap.size := S.out.rl.2.1.2.size
                  go_wp2_with (at_builtin; refine wpList_append_own _ rfl _ _ 25 rfl w.heap.size 43 i0 (.agg #[.int .i64 0, .int .i64 0, .int .i64 0, .int .i64 0, .int .i64 0]) 5 40 Tryd.underlying25 hi0 hz0 hz1 hz2 rfl (by decide) _ _ _ rfl (S.out.rl.1.alloc _) ⟨W.heap.size, 0, none⟩ 1 1 (rcCells r) rfl rfl ?c5a ?c5b ?c5c ?c5d ?c5e ?_)
                  try (case c5a => (intro j u hj; match j, hj with
                    | 0, hj => (simp [rcCells] at hj; subst hj; simp [Addr.add])
                    | 1, hj => (simp [rcCells] at hj; subst hj; simp [Addr.add])
                    | 2, hj => (simp [rcCells] at hj; subst hj; simp [Addr.add])
                    | 3, hj => (simp [rcCells] at hj; subst hj; simp [Addr.add])
                    | 4, hj => (simp [rcCells] at hj; subst hj; simp [Addr.add])))
                  try (case c5b => (intro u hu; simp [rcCells] at hu; rcases hu with rfl | rfl | rfl | rfl | rfl <;> rfl))
                  try (case c5c => (have := hzl.out; unfold maxLen; omega))
                  try (case c5d => (have := hzl.out; omega))
                  try (case c5e => first | omega | (simp; omega))
                  intro v' W9 hown hgrow hnil
                  have R9 := Lib.hid (S.out.rl.push (x := r) hgrow hown)
                  clear hown hgrow hnil S x0 x1 x2 x3 x4
                  go_wp2_with fail
                  go_roundw
                  case rel => exact ⟨i + 1, zs ++ [r], by omega, by show _ = _; have := hzl.out; simp; omega, by go_num, R9⟩
                  case measure => simp [intOf]; omega
                · go_wp2_with fail
                  refine (n_any sb 2 _ S.out.rl.2.1.1 (by omega)).mono ?_
                  rintro e W3 ⟨⟨z, rfl, z0, z1, _⟩, hD⟩
                  have z2 := z1 (by omega)
                  have S2 := Lib.hid (S.out.draw hD)
                  clear hD S z1
                  have S3 := Lib.hid (S2.out.set2 ((i : Int) - z))
                  obtain ⟨⟨_, _, x2, _, _⟩, ⟨_, _, f2⟩, zR⟩ := S2.out.cells
                  clear S2
                  have S := S3
                  clear S3
                  go_upto_region 17 with fail
                  clear x2 f2 zR
                  generalize W3.setCell ⟨R, 2, none⟩ (.int .i64 ((i : Int) - z)) = W at *
                  have hr : ∃ r', Hid (RD w sb R (.slice av zs.length cv) zs r' W) := ⟨_, S⟩
                  clear S
                  obtain ⟨r, S⟩ := hr
                  obtain ⟨⟨x0, x1, x2, x3, x4⟩, _, zR⟩ := S.out.cells
                  have zw : w.heap.size ≤ W.heap.size := S.out.rl.2.1.2.size
                  go_wp2_with (at_builtin; refine wpList_append_own _ rfl _ _ 25 rfl w.heap.size 43 i0 (.agg #[.int .i64 0, .int .i64 0, .int .i64 0, .int .i64 0, .int .i64 0]) 5 40 Tryd.underlying25 hi0 hz0 hz1 hz2 rfl (by decide) _ _ _ rfl (S.out.rl.1.alloc _) ⟨W.heap.size, 0, none⟩ 1 1 (rcCells r) rfl rfl ?c6a ?c6b ?c6c ?c6d ?c6e ?_)
                  try (case c6a => (intro j u hj; match j, hj with
                    | 0, hj => (simp [rcCells] at hj; subst hj; simp [Addr.add])
                    | 1, hj => (simp [rcCells] at hj; subst hj; simp [Addr.add])
                    | 2, hj => (simp [rcCells] at hj; subst hj; simp [Addr.add])
                    | 3, hj => (simp [rcCells] at hj; subst hj; simp [Addr.add])
                    | 4, hj => (simp [rcCells] at hj; subst hj; simp [Addr.add])))
                  try (case c6b => (intro u hu; simp [rcCells] at hu; rcases hu with rfl | rfl | rfl | rfl | rfl <;> rfl))
                  try (case c6c => (have := hzl.out; unfold maxLen; omega))
                  try (case c6d => (have := hzl.out; omega))
                  try (case c6e => first | omega | (simp; omega))
                  intro v' W9 hown hgrow hnil
                  have R9 := Lib.hid (S.out.rl.push (x := r) hgrow hown)
                  clear hown hgrow hnil S x0 x1 x2 x3 x4
                  go_wp2_with fail
                  go_roundw
                  case rel => exact ⟨i + 1, zs ++ [r], by omega, by show _ = _; have := hzl.out; simp; omega, by go_num, R9⟩
                  case measure => simp [intOf]; omega
              · have hgg : (W2.alloc (.cells #[.int .i64 0, .int .i64 1000, .int .i64 1001, .int .i64 (-1)] 2)).heap[W2.heap.size]? = some (.cells #[.int .i64 0, .int .i64 1000, .int .i64 1001, .int .i64 (-1)] 2) := blk_alloc_new _ _
                have hne : W2.heap.size ≠ sb := by have := S.out.rl.2.1.2.size; have := S.out.rl.2.2; omega
                go_wp2_with fail
                refine (n_any sb 4 _ (S.out.alloc _).rl.2.1.1 (by omega)).mono ?_
                rintro e W3 ⟨⟨z, rfl, z0, z1, _⟩, hD⟩
                have z2 := z1 (by omega)
                obtain ⟨x, hx⟩ := four (z := z) (n := 4) #[.int .i64 0, .int .i64 1000, .int .i64 1001, .int .i64 (-1)] 2 (fun j hj => by
                  have hv : j = 0 ∨ j = 1 ∨ j = 2 ∨ j = 3 := by simp at hj; omega
                  rcases hv with rfl | rfl | rfl | rfl <;> exact ⟨_, rfl⟩) hgg rfl hD hne z0 (by omega)
                have S2 := Lib.hid ((S.out.alloc (.cells #[.int .i64 0, .int .i64 1000, .int .i64 1001, .int .i64 (-1)] 2)).draw hD)
                clear hD S z1 hgg
                have S3 := Lib.hid (S2.out.set1 x)
                obtain ⟨⟨x0, x1, _, _, _⟩, ⟨f0, f1, _⟩, zR⟩ := S2.out.cells
                clear S2
                have S := S3
                clear S3
                go_upto_region 15 with fail
                clear hx x0 x1 f0 f1 zR hne
                generalize W3.setCell ⟨R, 1, none⟩ (.int .i64 x) = W at *
                have hr : ∃ r', Hid (RD w sb R (.slice av zs.length cv) zs r' W) := ⟨_, S⟩
                clear S
                obtain ⟨r, S⟩ := hr
                go_wp2_with fail
                refine (one_any sb 60 _ S.out.rl.2.1.1 (by omega)).mono ?_
                rintro e W2 ⟨⟨b2, rfl⟩, hD⟩
                have S2 := Lib.hid (S.out.draw hD)
                clear hD S
                have S := S2
                clear S2
                cases b2
                · go_upto_region 17 with fail
                  generalize W2 = W at *
                  have hr : ∃ r', Hid (RD w sb R (.slice av zs.length cv) zs r' W) := ⟨_, S⟩
                  clear S
                  obtain ⟨r, S⟩ := hr
                  obtain ⟨⟨x0, x1, x2, x3, x4⟩, _, zR⟩ := S.out.cells
                  have zw : w.heap.size ≤ W.heap.size := S.out.rl.2.1.2.size
                  go_wp2_with (at_builtin; refine wpList_append_own _ rfl _ _ 25 rfl w.heap.size 43 i0 (.agg #[.int .i64 0, .int .i64 0, .int .i64 0, .int .i64 0, .int .i64 0]) 5 40 Tryd.underlying25 hi0 hz0 hz1 hz2 rfl (by decide) _ _ _ rfl (S.out.rl.1.alloc _) ⟨W.heap.size, 0, none⟩ 1 1 (rcCells r) rfl rfl ?c7a ?c7b ?c7c ?c7d ?c7e ?_)
                  try (case c7a => (intro j u hj; match j, hj with
                    | 0, hj => (simp [rcCells] at hj; subst hj; simp [Addr.add])
                    | 1, hj => (simp [rcCells] at hj; subst hj; simp [Addr.add])
                    | 2, hj => (simp [rcCells] at hj; subst hj; simp [Addr.add])
                    | 3, hj => (simp [rcCells] at hj; subst hj; simp [Addr.add])
                    | 4, hj => (simp [rcCells] at hj; subst hj; simp [Addr.add])))
                  try (case c7b => (intro u hu; simp [rcCells] at hu; rcases hu with rfl | rfl | rfl | rfl | rfl <;> rfl))
                  try (case c7c => (have := hzl.out; unfold maxLen; omega))
                  try (case c7d => (have := hzl.out; omega))
                  try (case c7e => first | omega | (simp; omega))
                  intro v' W9 hown hgrow hnil
                  have R9 := Lib.hid (S.out.rl.push (x := r) hgrow hown)
                  clear hown hgrow hnil S x0 x1 x2 x3 x4
                  go_wp2_with fail
                  go_roundw
                  case rel => exact ⟨i + 1, zs ++ [r], by omega, by show _ = _; have := hzl.out; simp; omega, by go_num, R9⟩
                  case measure => simp [intOf]; omega
                · go_wp2_with fail
                  refine (n_any sb 2 _ S.out.rl.2.1.1 (by omega)).mono ?_
                  rintro e W3 ⟨⟨z, rfl, z0, z1, _⟩, hD⟩
                  have z2 := z1 (by omega)
                  have S2 := Lib.hid (S.out.draw hD)
                  clear hD S z1
                  have S3 := Lib.hid (S2.out.set2 ((i : Int) - z))
                  obtain ⟨⟨_, _, x2, _, _⟩, ⟨_, _, f2⟩, zR⟩ := S2.out.cells
                  clear S2
                  have S := S3
                  clear S3
                  go_upto_region 17 with fail
                  clear x2 f2 zR
                  generalize W3.setCell ⟨R, 2, none⟩ (.int .i64 ((i : Int) - z)) = W at *
                  have hr : ∃ r', Hid (RD w sb R (.slice av zs.length cv) zs r' W) := ⟨_, S⟩
                  clear S
                  obtain ⟨r, S⟩ := hr
                  obtain ⟨⟨x0, x1, x2, x3, x4⟩, _, zR⟩ := S.out.cells
                  have zw : w.heap.size ≤ W.heap.size := S.out.rl.2.1.2.size
                  go_wp2_with (at_builtin; refine wpList_append_own _ rfl _ _ 25 rfl w.heap.size 43 i0 (.agg #[.int .i64 0, .int .i64 0, .int .i64 0, .int .i64 0, .int .i64 0]) 5 40 Tryd.underlying25 hi0 hz0 hz1 hz2 rfl (by decide) _ _ _ rfl (S.out.rl.1.alloc _) ⟨W.heap.size, 0, none⟩ 1 1 (rcCells r) rfl rfl ?c8a ?c8b ?c8c ?c8d ?c8e ?_)
                  try (case c8a => (intro j u hj; match j, hj with
                    | 0, hj => (simp [rcCells] at hj; subst hj; simp [Addr.add])
                    | 1, hj => (simp [rcCells] at hj; subst hj; simp [Addr.add])
                    | 2, hj => (simp [rcCells] at hj; subst hj; simp [Addr.add])
                    | 3, hj => (simp [rcCells] at hj; subst hj; simp [Addr.add])
                    | 4, hj => (simp [rcCells] at hj; subst hj; simp [Addr.add])))
                  try (case c8b => (intro u hu; simp [rcCells] at hu; rcases hu with rfl | rfl | rfl | rfl | rfl <;> rfl))
                  try (case c8c => (have := hzl.out; unfold maxLen; omega))
                  try (case c8d => (have := hzl.out; omega))
                  try (case c8e => first | omega | (simp; omega))
                  intro v' W9 hown hgrow hnil
                  have R9 := Lib.hid (S.out.rl.push (x := r) hgrow hown)
                  clear hown hgrow hnil S x0 x1 x2 x3 x4
                  go_wp2_with fail
                  go_roundw
                  case rel => exact ⟨i + 1, zs ++ [r], by omega, by show _ = _; have := hzl.out; simp; omega, by go_num, R9⟩
                  case measure => simp [intOf]; omega
          · go_upto_region 11 with fail
            generalize W2 = W at *
            have hr : ∃ r', Hid (RD w sb R (.slice av zs.length cv) zs r' W) := ⟨_, S⟩
            clear S
            obtain ⟨r, S⟩ := hr
            go_wp2_with fail
            refine (one_any sb 30 _ S.out.rl.2.1.1 (by omega)).mono ?_
            rintro e W2 ⟨⟨b2, rfl⟩, hD⟩
            have S2 := Lib.hid (S.out.draw hD)
            clear hD S
            have S := S2
            clear S2
            cases b2
            · go_upto_region 13 with fail
              generalize W2 = W at *
              have hr : ∃ r', Hid (RD w sb R (.slice av zs.length cv) zs r' W) := ⟨_, S⟩
              clear S
              obtain ⟨r, S⟩ := hr
              go_wp2_with fail
              refine (one_any sb 30 _ S.out.rl.2.1.1 (by omega)).mono ?_
              rintro e W2 ⟨⟨b2, rfl⟩, hD⟩
              have S2 := Lib.hid (S.out.draw hD)
              clear hD S
              have S := S2
              clear S2
              cases b2
              · go_upto_region 15 with fail
                generalize W2 = W at *
                have hr : ∃ r', Hid (RD w sb R (.slice av zs.length cv) zs r' W) := ⟨_, S⟩
                clear S
                obtain ⟨r, S⟩ := hr
                go_wp2_with fail
                refine (one_any sb 60 _ S.out.rl.2.1.1 (by omega)).mono ?_
                rintro e W2 ⟨⟨b2, rfl⟩, hD⟩
                have S2 := Lib.hid (S.out.draw hD)
                clear hD S
                have S := S2
                clear S2
                cases b2
                · go_upto_region 17 with fail
                  generalize W2 = W at *
                  have hr : ∃ r', Hid (RD w sb R (.slice av zs.length cv) zs r' W) := ⟨_, S⟩
                  clear S
                  obtain ⟨r, S⟩ := hr
                  obtain ⟨⟨x0, x1, x2, x3, x4⟩, _, zR⟩ := S.out.cells
                  have zw : w.heap.size ≤ W.heap.size := S.out.rl.2.1.2.size
                  go_wp2_with (at_builtin; refine wpList_append_own _ rfl _ _ 25 rfl w.heap.size 43 i0 (.agg #[.int .i64 0, .int .i64 0, .int .i64 0, .int .i64 0, .int .i64 0]) 5 40 Tryd.underlying25 hi0 hz0 hz1 hz2 rfl (by decide) _ _ _ rfl (S.out.rl.1.alloc _) ⟨W.heap.size, 0, none⟩ 1 1 (rcCells r) rfl rfl ?c9a ?c9b ?c9c ?c9d ?c9e ?_)
                  try (case c9a => (intro j u hj; match j, hj with
                    | 0, hj => (simp [rcCells] at hj; subst hj; simp [Addr.add])
                    | 1, hj => (simp [rcCells] at hj; subst hj; simp [Addr.add])
                    | 2, hj => (simp [rcCells] at hj; subst hj; simp [Addr.add])
                    | 3, hj => (simp [rcCells] at hj; subst hj; simp [Addr.add])
                    | 4, hj => (simp [rcCells] at hj; subst hj; simp [Addr.add])))
                  try (case c9b => (intro u hu; simp [rcCells] at hu; rcases hu with rfl | rfl | rfl | rfl | rfl <;> rfl))
                  try (case c9c => (have := hzl.out; unfold maxLen; omega))
                  try (case c9d => (have := hzl.out; omega))
                  try (case c9e => first | omega | (simp; omega))
                  intro v' W9 hown hgrow hnil
                  have R9 := Lib.hid (S.out.rl.push (x := r) hgrow hown)
                  clear hown hgrow hnil S x0 x1 x2 x3 x4
                  go_wp2_with fail
                  go_roundw
                  case rel => exact ⟨i + 1, zs ++ [r], by omega, by show _ = _; have := hzl.out; simp; omega, by go_num, R9⟩
                  case measure => simp [intOf]; omega
                · go_wp2_with fail
                  refine (n_any sb 2 _ S.out.rl.2.1.1 (by omega)).mono ?_
                  rintro e W3 ⟨⟨z, rfl, z0, z1, _⟩, hD⟩
                  have z2 := z1 (by omega)
                  have S2 := Lib.hid (S.out.draw hD)
                  clear hD S z1
                  have S3 := Lib.hid (S2.out.set2 ((i : Int) - z))
                  obtain ⟨⟨_, _, x2, _, _⟩, ⟨_, _, f2⟩, zR⟩ := S2.out.cells
                  clear S2
                  have S := S3
                  clear S3
                  go_upto_region 17 with fail
                  clear x2 f2 zR
                  generalize W3.setCell ⟨R, 2, none⟩ (.int .i64 ((i : Int) - z)) = W at *
                  have hr : ∃ r', Hid (RD w sb R (.slice av zs.length cv) zs r' W) := ⟨_, S⟩
                  clear S
                  obtain ⟨r, S⟩ := hr
                  obtain ⟨⟨x0, x1, x2, x3, x4⟩, _, zR⟩ := S.out.cells
                  have zw : w.heap.size ≤ W.heap.size := S.out.rl.2.1.2.size
                  go_wp2_with (at_builtin; refine wpList_append_own _ rfl _ _ 25 rfl w.heap.size 43 i0 (.agg #[.int .i64 0, .int .i64 0, .int .i64 0, .int .i64 0, .int .i64 0]) 5 40 Tryd.underlying25 hi0 hz0 hz1 hz2 rfl (by decide) _ _ _ rfl (S.out.rl.1.alloc _) ⟨W.heap.size, 0, none⟩ 1 1 (rcCells r) rfl rfl ?c10a ?c10b ?c10c ?c10d ?c10e ?_)
                  try (case c10a => (intro j u hj; match j, hj with
                    | 0, hj => (simp [rcCells] at hj; subst hj; simp [Addr.add])
                    | 1, hj => (simp [rcCells] at hj; subst hj; simp [Addr.add])
                    | 2, hj => (simp [rcCells] at hj; subst hj; simp [Addr.add])
                    | 3, hj => (simp [rcCells] at hj; subst hj; simp [Addr.add])
                    | 4, hj => (simp [rcCells] at hj; subst hj; simp [Addr.add])))
                  try (case c10b => (intro u hu; simp [rcCells] at hu; rcases hu with rfl | rfl | rfl | rfl | rfl <;> rfl))
                  try (case c10c => (have := hzl.out; unfold maxLen; omega))
                  try (case c10d => (have := hzl.out; omega))
                  try (case c10e => first | omega | (simp; omega))
                  intro v' W9 hown hgrow hnil
                  have R9 := Lib.hid (S.out.rl.push (x := r) hgrow hown)
                  clear hown hgrow hnil S x0 x1 x2 x3 x4
                  go_wp2_with fail
                  go_roundw
                  case rel => exact ⟨i + 1, zs ++ [r], by omega, by show _ = _; have := hzl.out; simp; omega, by go_num, R9⟩
                  case measure => simp [intOf]; omega
              · have hgg : (W2.alloc (.cells #[.int .i64 0, .int .i64 1000, .int .i64 1001, .int .i64 (-1)] 2)).heap[W2.heap.size]? = some (.cells #[.int .i64 0, .int .i64 1000, .int .i64 1001, .int .i64 (-1)] 2) := blk_alloc_new _ _
                have hne : W2.heap.size ≠ sb := by have := S.out.rl.2.1.2.size; have := S.out.rl.2.2; omega
                go_wp2_with fail
                refine (n_any sb 4 _ (S.out.alloc _).rl.2.1.1 (by omega)).mono ?_
                rintro e W3 ⟨⟨z, rfl, z0, z1, _⟩, hD⟩
                have z2 := z1 (by omega)
                obtain ⟨x, hx⟩ := four (z := z) (n := 4) #[.int .i64 0, .int .i64 1000, .int .i64 1001, .int .i64 (-1)] 2 (fun j hj => by
                  have hv : j = 0 ∨ j = 1 ∨ j = 2 ∨ j = 3 := by simp at hj; omega
                  rcases hv with rfl | rfl | rfl | rfl <;> exact ⟨_, rfl⟩) hgg rfl hD hne z0 (by omega)
                have S2 := Lib.hid ((S.out.alloc (.cells #[.int .i64 0, .int .i64 1000, .int .i64 1001, .int .i64 (-1)] 2)).draw hD)
                clear hD S z1 hgg
                have S3 := Lib.hid (S2.out.set1 x)
                obtain ⟨⟨x0, x1, _, _, _⟩, ⟨f0, f1, _⟩, zR⟩ := S2.out.cells
                clear S2
                have S := S3
                clear S3
                go_upto_region 15 with fail
                clear hx x0 x1 f0 f1 zR hne
                generalize W3.setCell ⟨R, 1, none⟩ (.int .i64 x) = W at *
                have hr : ∃ r', Hid (RD w sb R (.slice av zs.length cv) zs r' W) := ⟨_, S⟩
                clear S
                obtain ⟨r, S⟩ := hr
                go_wp2_with fail
                refine (one_any sb 60 _ S.out.rl.2.1.1 (by omega)).mono ?_
                rintro e W2 ⟨⟨b2, rfl⟩, hD⟩
                have S2 := Lib.hid (S.out.draw hD)
                clear hD S
                have S := S2
                clear S2
                cases b2
                · go_upto_region 17 with fail
                  generalize W2 = W at *
                  have hr : ∃ r', Hid (RD w sb R (.slice av zs.length cv) zs r' W) := ⟨_, S⟩
                  clear S
                  obtain ⟨r, S⟩ := hr
                  obtain ⟨⟨x0, x1, x2, x3, x4⟩, _, zR⟩ := S.out.cells
                  have zw : w.heap.size ≤ W.heap.size := S.out.rl.2.1.2.size
                  go_wp2_with (at_builtin; refine wpList_append_own _ rfl _ _ 25 rfl w.heap.size 43 i0 (.agg #[.int .i64 0, .int .i64 0, .int .i64 0, .int .i64 0, .int .i64 0]) 5 40 Tryd.underlying25 hi0 hz0 hz1 hz2 rfl (by decide) _ _ _ rfl (S.out.rl.1.alloc _) ⟨W.heap.size, 0, none⟩ 1 1 (rcCells r) rfl rfl ?c11a ?c11b ?c11c ?c11d ?c11e ?_)
                  try (case c11a => (intro j u hj; match j, hj with
                    | 0, hj => (simp [rcCells] at hj; subst hj; simp [Addr.add])
                    | 1, hj => (simp [rcCells] at hj; subst hj; simp [Addr.add])
                    | 2, hj => (simp [rcCells] at hj; subst hj; simp [Addr.add])
                    | 3, hj => (simp [rcCells] at hj; subst hj; simp [Addr.add])
                    | 4, hj => (simp [rcCells] at hj; subst hj; simp [Addr.add])))
                  try (case c11b => (intro u hu; simp [rcCells] at hu; rcases hu with rfl | rfl | rfl | rfl | rfl <;> rfl))
                  try (case c11c => (have := hzl.out; unfold maxLen; omega))
                  try (case c11d => (have := hzl.out; omega))
                  try (case c11e => first | omega | (simp; omega))
                  intro v' W9 hown hgrow hnil
                  have R9 := Lib.hid (S.out.rl.push (x := r) hgrow hown)
                  clear hown hgrow hnil S x0 x1 x2 x3 x4
                  go_wp2_with fail
                  go_roundw
                  case rel => exact ⟨i + 1, zs ++ [r], by omega, by show _ = _; have := hzl.out; simp; omega, by go_num, R9⟩
                  case measure => simp [intOf]; omega
                · go_wp2_with fail
                  refine (n_any sb 2 _ S.out.rl.2.1.1 (by omega)).mono ?_
                  rintro e W3 ⟨⟨z, rfl, z0, z1, _⟩, hD⟩
                  have z2 := z1 (by omega)
                  have S2 := Lib.hid (S.out.draw hD)
                  clear hD S z1
                  have S3 := Lib.hid (S2.out.set2 ((i : Int) - z))
                  obtain ⟨⟨_, _, x2, _, _⟩, ⟨_, _, f2⟩, zR⟩ := S2.out.cells
                  clear S2
                  have S := S3
                  clear S3
                  go_upto_region 17 with fail
                  clear x2 f2 zR
                  generalize W3.setCell ⟨R, 2, none⟩ (.int .i64 ((i : Int) - z)) = W at *
                  have hr : ∃ r', Hid (RD w sb R (.slice av zs.length cv) zs r' W) := ⟨_, S⟩
                  clear S
                  obtain ⟨r, S⟩ := hr
                  obtain ⟨⟨x0, x1, x2, x3, x4⟩, _, zR⟩ := S.out.cells
                  have zw : w.heap.size ≤ W.heap.size := S.out.rl.2.1.2.size
                  go_wp2_with (at_builtin; refine wpList_append_own _ rfl _ _ 25 rfl w.heap.size 43 i0 (.agg #[.int .i64 0, .int .i64 0, .int .i64 0, .int .i64 0, .int .i64 0]) 5 40 Tryd.underlying25 hi0 hz0 hz1 hz2 rfl (by decide) _ _ _ rfl (S.out.rl.1.alloc _) ⟨W.heap.size, 0, none⟩ 1 1 (rcCells r) rfl rfl ?c12a ?c12b ?c12c ?c12d ?c12e ?_)
                  try (case c12a => (intro j u hj; match j, hj with
                    | 0, hj => (simp [rcCells] at hj; subst hj; simp [Addr.add])
                    | 1, hj => (simp [rcCells] at hj; subst hj; simp [Addr.add])
                    | 2, hj => (simp [rcCells] at hj; subst hj; simp [Addr.add])
                    | 3, hj => (simp [rcCells] at hj; subst hj; simp [Addr.add])
                    | 4, hj => (simp [rcCells] at hj; subst hj; simp [Addr.add])))
                  try (case c12b => (intro u hu; simp [rcCells] at hu; rcases hu with rfl | rfl | rfl | rfl | rfl <;> rfl))
                  try (case c12c => (have := hzl.out; unfold maxLen; omega))
                  try (case c12d => (have := hzl.out; omega))
                  try (case c12e => first | omega | (simp; omega))
                  intro v' W9 hown hgrow hnil
                  have R9 := Lib.hid (S.out.rl.push (x := r) hgrow hown)
                  clear hown hgrow hnil S x0 x1 x2 x3 x4
                  go_wp2_with fail
                  go_roundw
                  case rel => exact ⟨i + 1, zs ++ [r], by omega, by show _ = _; have := hzl.out; simp; omega, by go_num, R9⟩
                  case measure => simp [intOf]; omega
            · have hgg : (W2.alloc (.cells #[.int .i64 0, .int .i64 1000000000, .int .i64 1000000001, .int .i64 (-1)] 2)).heap[W2.heap.size]? = some (.cells #[.int .i64 0, .int .i64 1000000000, .int .i64 1000000001, .int .i64 (-1)] 2) := blk_alloc_new _ _
              have hne : W2.heap.size ≠ sb := by have := S.out.rl.2.1.2.size; have := S.out.rl.2.2; omega
              go_wp2_with fail
              refine (n_any sb 4 _ (S.out.alloc _).rl.2.1.1 (by omega)).mono ?_
              rintro e W3 ⟨⟨z, rfl, z0, z1, _⟩, hD⟩
              have z2 := z1 (by omega)
              obtain ⟨x, hx⟩ := four (z := z) (n := 4) #[.int .i64 0, .int .i64 1000000000, .int .i64 1000000001, .int .i64 (-1)] 2 (fun j hj => by
                have hv : j = 0 ∨ j = 1 ∨ j = 2 ∨ j = 3 := by simp at hj; omega
                rcases hv with rfl | rfl | rfl | rfl <;> exact ⟨_, rfl⟩) hgg rfl hD hne z0 (by omega)
              have S2 := Lib.hid ((S.out.alloc (.cells #[.int .i64 0, .int .i64 1000000000, .int .i64 1000000001, .int .i64 (-1)] 2)).draw hD)
              clear hD S z1 hgg
              have S3 := Lib.hid (S2.out.set0 x)
              obtain ⟨⟨x0, x1, _, _, _⟩, ⟨f0, f1, _⟩, zR⟩ := S2.out.cells
              clear S2
              have S := S3
              clear S3
              go_upto_region 13 with fail
              clear hx x0 x1 f0 f1 zR hne
              generalize W3.setCell ⟨R, 0, none⟩ (.int .i64 x) = W at *
              have hr : ∃ r', Hid (RD w sb R (.slice av zs.length cv) zs r' W) := ⟨_, S⟩
              clear S
              obtain ⟨r, S⟩ := hr
              go_wp2_with fail
              refine (one_any sb 30 _ S.out.rl.2.1.1 (by omega)).mono ?_
              rintro e W2 ⟨⟨b2, rfl⟩, hD⟩
              have S2 := Lib.hid (S.out.draw hD)
              clear hD S
              have S := S2
              clear S2
              cases b2
              · go_upto_region 15 with fail
                generalize W2 = W at *
                have hr : ∃ r', Hid (RD w sb R (.slice av zs.length cv) zs r' W) := ⟨_, S⟩
                clear S
                obtain ⟨r, S⟩ := hr
                go_wp2_with fail
                refine (one_any sb 60 _ S.out.rl.2.1.1 (by omega)).mono ?_
                rintro e W2 ⟨⟨b2, rfl⟩, hD⟩
                have S2 := Lib.hid (S.out.draw hD)
                clear hD S
                have S := S2
                clear S2
                cases b2
                · go_upto_region 17 with fail
                  generalize W2 = W at *
                  have hr : ∃ r', Hid (RD w sb R (.slice av zs.length cv) zs r' W) := ⟨_, S⟩
                  clear S
                  obtain ⟨r, S⟩ := hr
                  obtain ⟨⟨x0, x1, x2, x3, x4⟩, _, zR⟩ := S.out.cells
                  have zw : w.heap.size ≤ W.heap.size := S.out.rl.2.1.2.size
                  go_wp2_with (at_builtin; refine wpList_append_own _ rfl _ _ 25 rfl w.heap.size 43 i0 (.agg #[.int .i64 0, .int .i64 0, .int .i64 0, .int .i64 0, .int .i64 0]) 5 40 Tryd.underlying25 hi0 hz0 hz1 hz2 rfl (by decide) _ _ _ rfl (S.out.rl.1.alloc _) ⟨W.heap.size, 0, none⟩ 1 1 (rcCells r) rfl rfl ?c13a ?c13b ?c13c ?c13d ?c13e ?_)
                  try (case c13a => (intro j u hj; match j, hj with
                    | 0, hj => (simp [rcCells] at hj; subst hj; simp [Addr.add])
                    | 1, hj => (simp [rcCells] at hj; subst hj; simp [Addr.add])
                    | 2, hj => (simp [rcCells] at hj; subst hj; simp [Addr.add])
                    | 3, hj => (simp [rcCells] at hj; subst hj; simp [Addr.add])
                    | 4, hj => (simp [rcCells] at hj; subst hj; simp [Addr.add])))
                  try (case c13b => (intro u hu; simp [rcCells] at hu; rcases hu with rfl | rfl | rfl | rfl | rfl <;> rfl))
                  try (case c13c => (have := hzl.out; unfold maxLen; omega))
                  try (case c13d => (have := hzl.out; omega))
                  try (case c13e => first | omega | (simp; omega))
                  intro v' W9 hown hgrow hnil
                  have R9 := Lib.hid (S.out.rl.push (x := r) hgrow hown)
                  clear hown hgrow hnil S x0 x1 x2 x3 x4
                  go_wp2_with fail
                  go_roundw
                  case rel => exact ⟨i + 1, zs ++ [r], by omega, by show _ = _; have := hzl.out; simp; omega, by go_num, R9⟩
                  case measure => simp [intOf]; omega
                · go_wp2_with fail
                  refine (n_any sb 2 _ S.out.rl.2.1.1 (by omega)).mono ?_
                  rintro e W3 ⟨⟨z, rfl, z0, z1, _⟩, hD⟩
                  have z2 := z1 (by omega)
                  have S2 := Lib.hid (S.out.draw hD)
                  clear hD S z1
                  have S3 := Lib.hid (S2.out.set2 ((i : Int) - z))
                  obtain ⟨⟨_, _, x2, _, _⟩, ⟨_, _, f2⟩, zR⟩ := S2.out.cells
                  clear S2
                  have S := S3
                  clear S3
                  go_upto_region 17 with fail
                  clear x2 f2 zR
                  generalize W3.setCell ⟨R, 2, none⟩ (.int .i64 ((i : Int) - z)) = W at *
                  have hr : ∃ r', Hid (RD w sb R (.slice av zs.length cv) zs r' W) := ⟨_, S⟩
                  clear S
                  obtain ⟨r, S⟩ := hr
                  obtain ⟨⟨x0, x1, x2, x3, x4⟩, _, zR⟩ := S.out.cells
                  have zw : w.heap.size ≤ W.heap.size := S.out.rl.2.1.2.size
                  go_wp2_with (at_builtin; refine wpList_append_own _ rfl _ _ 25 rfl w.heap.size 43 i0 (.agg #[.int .i64 0, .int .i64 0, .int .i64 0, .int .i64 0, .int .i64 0]) 5 40 Tryd.underlying25 hi0 hz0 hz1 hz2 rfl (by decide) _ _ _ rfl (S.out.rl.1.alloc _) ⟨W.heap.size, 0, none⟩ 1 1 (rcCells r) rfl rfl ?c14a ?c14b ?c14c ?c14d ?c14e ?_)
                  try (case c14a => (intro j u hj; match j, hj with
                    | 0, hj => (simp [rcCells] at hj; subst hj; simp [Addr.add])
                    | 1, hj => (simp [rcCells] at hj; subst hj; simp [Addr.add])
                    | 2, hj => (simp [rcCells] at hj; subst hj; simp [Addr.add])
                    | 3, hj => (simp [rcCells] at hj; subst hj; simp [Addr.add])
                    | 4, hj => (simp [rcCells] at hj; subst hj; simp [Addr.add])))
                  try (case c14b => (intro u hu; simp [rcCells] at hu; rcases hu with rfl | rfl | rfl | rfl | rfl <;> rfl))
                  try (case c14c => (have := hzl.out; unfold maxLen; omega))
                  try (case c14d => (have := hzl.out; omega))
                  try (case c14e => first | omega | (simp; omega))
                  intro v' W9 hown hgrow hnil
                  have R9 := Lib.hid (S.out.rl.push (x := r) hgrow hown)
                  clear hown hgrow hnil S x0 x1 x2 x3 x4
                  go_wp2_with fail
                  go_roundw
                  case rel => exact ⟨i + 1, zs ++ [r], by omega, by show _ = _; have := hzl.out; simp; omega, by go_num, R9⟩
                  case measure => simp [intOf]; omega
              · have hgg : (W2.alloc (.cells #[.int .i64 0, .int .i64 1000, .int .i64 1001, .int .i64 (-1)] 2)).heap[W2.heap.size]? = some (.cells #[.int .i64 0, .int .i64 1000, .int .i64 1001, .int .i64 (-1)] 2) := blk_alloc_new _ _
                have hne : W2.heap.size ≠ sb := by have := S.out.rl.2.1.2.size; have := S.out.rl.2.2; omega
                go_wp2_with fail
                refine (n_any sb 4 _ (S.out.alloc _).rl.2.1.1 (by omega)).mono ?_
                rintro e W3 ⟨⟨z, rfl, z0, z1, _⟩, hD⟩
                have z2 := z1 (by omega)
                obtain ⟨x, hx⟩ := four (z := z) (n := 4) #[.int .i64 0, .int .i64 1000, .int .i64 1001, .int .i64 (-1)] 2 (fun j hj => by
                  have hv : j = 0 ∨ j = 1 ∨ j = 2 ∨ j = 3 := by simp at hj; omega
                  rcases hv with rfl | rfl | rfl | rfl <;> exact ⟨_, rfl⟩) hgg rfl hD hne z0 (by omega)
                have S2 := Lib.hid ((S.out.alloc (.cells #[.int .i64 0, .int .i64 1000, .int .i64 1001, .int .i64 (-1)] 2)).draw hD)
                clear hD S z1 hgg
                have S3 := Lib.hid (S2.out.set1 x)
                obtain ⟨⟨x0, x1, _, _, _⟩, ⟨f0, f1, _⟩, zR⟩ := S2.out.cells
                clear S2
                have S := S3
                clear S3
                go_upto_region 15 with fail
                clear hx x0 x1 f0 f1 zR hne
                generalize W3.setCell ⟨R, 1, none⟩ (.int .i64 x) = W at *
                have hr : ∃ r', Hid (RD w sb R (.slice av zs.length cv) zs r' W) := ⟨_, S⟩
                clear S
                obtain ⟨r, S⟩ := hr
                go_wp2_with fail
                refine (one_any sb 60 _ S.out.rl.2.1.1 (by omega)).mono ?_
                rintro e W2 ⟨⟨b2, rfl⟩, hD⟩
                have S2 := Lib.hid (S.out.draw hD)
                clear hD S
                have S := S2
                clear S2
                cases b2
                · go_upto_region 17 with fail
                  generalize W2 = W at *
                  have hr : ∃ r', Hid (RD w sb R (.slice av zs.length cv) zs r' W) := ⟨_, S⟩
                  clear S
                  obtain ⟨r, S⟩ := hr
                  obtain ⟨⟨x0, x1, x2, x3, x4⟩, _, zR⟩ := S.out.cells
                  have zw : w.heap.size ≤ W.heap.size := S.out.rl.2.1.2.size
                  go_wp2_with (at_builtin; refine wpList_append_own _ rfl _ _ 25 rfl w.heap.size 43 i0 (.agg #[.int .i64 0, .int .i64 0, .int .i64 0, .int .i64 0, .int .i64 0]) 5 40 Tryd.underlying25 hi0 hz0 hz1 hz2 rfl (by decide) _ _ _ rfl (S.out.rl.1.alloc _) ⟨W.heap.size, 0, none⟩ 1 1 (rcCells r) rfl rfl ?c15a ?c15b ?c15c ?c15d ?c15e ?_)
                  try (case c15a => (intro j u hj; match j, hj with
                    | 0, hj => (simp [rcCells] at hj; subst hj; simp [Addr.add])
                    | 1, hj => (simp [rcCells] at hj; subst hj; simp [Addr.add])
                    | 2, hj => (simp [rcCells] at hj; subst hj; simp [Addr.add])
                    | 3, hj => (simp [rcCells] at hj; subst hj; simp [Addr.add])
                    | 4, hj => (simp [rcCells] at hj; subst hj; simp [Addr.add])))
                  try (case c15b => (intro u hu; simp [rcCells] at hu; rcases hu with rfl | rfl | rfl | rfl | rfl <;> rfl))
                  try (case c15c => (have := hzl.out; unfold maxLen; omega))
                  try (case c15d => (have := hzl.out; omega))
                  try (case c15e => first | omega | (simp; omega))
                  intro v' W9 hown hgrow hnil
                  have R9 := Lib.hid (S.out.rl.push (x := r) hgrow hown)
                  clear hown hgrow hnil S x0 x1 x2 x3 x4
                  go_wp2_with fail
                  go_roundw
                  case rel => exact ⟨i + 1, zs ++ [r], by omega, by show _ = _; have := hzl.out; simp; omega, by go_num, R9⟩
                  case measure => simp [intOf]; omega
                · go_wp2_with fail
                  refine (n_any sb 2 _ S.out.rl.2.1.1 (by omega)).mono ?_
                  rintro e W3 ⟨⟨z, rfl, z0, z1, _⟩, hD⟩
                  have z2 := z1 (by omega)
                  have S2 := Lib.hid (S.out.draw hD)
                  clear hD S z1
                  have S3 := Lib.hid (S2.out.set2 ((i : Int) - z))
                  obtain ⟨⟨_, _, x2, _, _⟩, ⟨_, _, f2⟩, zR⟩ := S2.out.cells
                  clear S2
                  have S := S3
                  clear S3
                  go_upto_region 17 with fail
                  clear x2 f2 zR
                  generalize W3.setCell ⟨R, 2, none⟩ (.int .i64 ((i : Int) - z)) = W at *
                  have hr : ∃ r', Hid (RD w sb R (.slice av zs.length cv) zs r' W) := ⟨_, S⟩
                  clear S
                  obtain ⟨r, S⟩ := hr
                  obtain ⟨⟨x0, x1, x2, x3, x4⟩, _, zR⟩ := S.out.cells
                  have zw : w.heap.size ≤ W.heap.size := S.out.rl.2.1.2.size
                  go_wp2_with (at_builtin; refine wpList_append_own _ rfl _ _ 25 rfl w.heap.size 43 i0 (.agg #[.int .i64 0, .int .i64 0, .int .i64 0, .int .i64 0, .int .i64 0]) 5 40 Tryd.underlying25 hi0 hz0 hz1 hz2 rfl (by decide) _ _ _ rfl (S.out.rl.1.alloc _) ⟨W.heap.size, 0, none⟩ 1 1 (rcCells r) rfl rfl ?c16a ?c16b ?c16c ?c16d ?c16e ?_)
                  try (case c16a => (intro j u hj; match j, hj with
                    | 0, hj => (simp [rcCells] at hj; subst hj; simp [Addr.add])
                    | 1, hj => (simp [rcCells] at hj; subst hj; simp [Addr.add])
                    | 2, hj => (simp [rcCells] at hj; subst hj; simp [Addr.add])
                    | 3, hj => (simp [rcCells] at hj; subst hj; simp [Addr.add])
                    | 4, hj => (simp [rcCells] at hj; subst hj; simp [Addr.add])))
                  try (case c16b => (intro u hu; simp [rcCells] at hu; rcases hu with rfl | rfl | rfl | rfl | rfl <;> rfl))
                  try (case c16c => (have := hzl.out; unfold maxLen; omega))
                  try (case c16d => (have := hzl.out; omega))
                  try (case c16e => first | omega | (simp; omega))
                  intro v' W9 hown hgrow hnil
                  have R9 := Lib.hid (S.out.rl.push (x := r) hgrow hown)
                  clear hown hgrow hnil S x0 x1 x2 x3 x4
                  go_wp2_with fail
                  go_roundw
                  case rel => exact ⟨i + 1, zs ++ [r], by omega, by show _ = _; have := hzl.out; simp; omega, by go_num, R9⟩
                  case measure => simp [intOf]; omega
        · go_upto_region 11 with fail
          go_wp2_with fail
          refine (one_any sb 30 _ S.out.rl.2.1.1 (by omega)).mono ?_
          rintro e W2 ⟨⟨b2, rfl⟩, hD⟩
          have S2 := Lib.hid (S.out.draw hD)
          clear hD S
          have S := S2
          clear S2
          cases b2
          · go_upto_region 13 with fail
            generalize W2 = W at *
            have hr : ∃ r', Hid (RD w sb R (.slice av zs.length cv) zs r' W) := ⟨_, S⟩
            clear S
            obtain ⟨r, S⟩ := hr
            go_wp2_with fail
            refine (one_any sb 30 _ S.out.rl.2.1.1 (by omega)).mono ?_
            rintro e W2 ⟨⟨b2, rfl⟩, hD⟩
            have S2 := Lib.hid (S.out.draw hD)
            clear hD S
            have S := S2
            clear S2
            cases b2
            · go_upto_region 15 with fail
              generalize W2 = W at *
              have hr : ∃ r', Hid (RD w sb R (.slice av zs.length cv) zs r' W) := ⟨_, S⟩
              clear S
              obtain ⟨r, S⟩ := hr
              go_wp2_with fail
              refine (one_any sb 60 _ S.out.rl.2.1.1 (by omega)).mono ?_
              rintro e W2 ⟨⟨b2, rfl⟩, hD⟩
              have S2 := Lib.hid (S.out.draw hD)
              clear hD S
              have S := S2
              clear S2
              cases b2
              · go_upto_region 17 with fail
                generalize W2 = W at *
                have hr : ∃ r', Hid (RD w sb R (.slice av zs.length cv) zs r' W) := ⟨_, S⟩
                clear S
                obtain ⟨r, S⟩ := hr
                obtain ⟨⟨x0, x1, x2, x3, x4⟩, _, zR⟩ := S.out.cells
                have zw : w.heap.size ≤ W.heap.size := S.out.rl.2.1.2.size
                go_wp2_with (at_builtin; refine wpList_append_own _ rfl _ _ 25 rfl w.heap.size 43 i0 (.agg #[.int .i64 0, .int .i64 0, .int .i64 0, .int .i64 0, .int .i64 0]) 5 40 Tryd.underlying25 hi0 hz0 hz1 hz2 rfl (by decide) _ _ _ rfl (S.out.rl.1.alloc _) ⟨W.heap.size, 0, none⟩ 1 1 (rcCells r) rfl rfl ?c17a ?c17b ?c17c ?c17d ?c17e ?_)
                try (case c17a => (intro j u hj; match j, hj with
                  | 0, hj => (simp [rcCells] at hj; subst hj; simp [Addr.add])
                  | 1, hj => (simp [rcCells] at hj; subst hj; simp [Addr.add])
                  | 2, hj => (simp [rcCells] at hj; subst hj; simp [Addr.add])
                  | 3, hj => (simp [rcCells] at hj; subst hj; simp [Addr.add])
                  | 4, hj => (simp [rcCells] at hj; subst hj; simp [Addr.add])))
                try (case c17b => (intro u hu; simp [rcCells] at hu; rcases hu with rfl | rfl | rfl | rfl | rfl <;> rfl))
                try (case c17c => (have := hzl.out; unfold maxLen; omega))
                try (case c17d => (have := hzl.out; omega))
                try (case c17e => first | omega | (simp; omega))
                intro v' W9 hown hgrow hnil
                have R9 := Lib.hid (S.out.rl.push (x := r) hgrow hown)
                clear hown hgrow hnil S x0 x1 x2 x3 x4
                go_wp2_with fail
                go_roundw
                case rel => exact ⟨i + 1, zs ++ [r], by omega, by show _ = _; have := hzl.out; simp; omega, by go_num, R9⟩
                case measure => simp [intOf]; omega
              · go_wp2_with fail
                refine (n_any sb 2 _ S.out.rl.2.1.1 (by omega)).mono ?_
                rintro e W3 ⟨⟨z, rfl, z0, z1, _⟩, hD⟩
                have z2 := z1 (by omega)
                have S2 := Lib.hid (S.out.draw hD)
                clear hD S z1
                have S3 := Lib.hid (S2.out.set2 ((i : Int) - z))
                obtain ⟨⟨_, _, x2, _, _⟩, ⟨_, _, f2⟩, zR⟩ := S2.out.cells
                clear S2
                have S := S3
                clear S3
                go_upto_region 17 with fail
                clear x2 f2 zR
                generalize W3.setCell ⟨R, 2, none⟩ (.int .i64 ((i : Int) - z)) = W at *
                have hr : ∃ r', Hid (RD w sb R (.slice av zs.length cv) zs r' W) := ⟨_, S⟩
                clear S
                obtain ⟨r, S⟩ := hr
                obtain ⟨⟨x0, x1, x2, x3, x4⟩, _, zR⟩ := S.out.cells
                have zw : w.heap.size ≤ W.heap.size := S.out.rl.2.1.2.size
                go_wp2_with (at_builtin; refine wpList_append_own _ rfl _ _ 25 rfl w.heap.size 43 i0 (.agg #[.int .i64 0, .int .i64 0, .int .i64 0, .int .i64 0, .int .i64 0]) 5 40 Tryd.underlying25 hi0 hz0 hz1 hz2 rfl (by decide) _ _ _ rfl (S.out.rl.1.alloc _) ⟨W.heap.size, 0, none⟩ 1 1 (rcCells r) rfl rfl ?c18a ?c18b ?c18c ?c18d ?c18e ?_)
                try (case c18a => (intro j u hj; match j, hj with
                  | 0, hj => (simp [rcCells] at hj; subst hj; simp [Addr.add])
                  | 1, hj => (simp [rcCells] at hj; subst hj; simp [Addr.add])
                  | 2, hj => (simp [rcCells] at hj; subst hj; simp [Addr.add])
                  | 3, hj => (simp [rcCells] at hj; subst hj; simp [Addr.add])
                  | 4, hj => (simp [rcCells] at hj; subst hj; simp [Addr.add])))
                try (case c18b => (intro u hu; simp [rcCells] at hu; rcases hu with rfl | rfl | rfl | rfl | rfl <;> rfl))
                try (case c18c => (have := hzl.out; unfold maxLen; omega))
                try (case c18d => (have := hzl.out; omega))
                try (case c18e => first | omega | (simp; omega))
                intro v' W9 hown hgrow hnil
                have R9 := Lib.hid (S.out.rl.push (x := r) hgrow hown)
                clear hown hgrow hnil S x0 x1 x2 x3 x4
                go_wp2_with fail
                go_roundw
                case rel => exact ⟨i + 1, zs ++ [r], by omega, by show _ = _; have := hzl.out; simp; omega, by go_num, R9⟩
                case measure => simp [intOf]; omega
            · have hgg : (W2.alloc (.cells #[.int .i64 0, .int .i64 1000, .int .i64 1001, .int .i64 (-1)] 2)).heap[W2.heap.size]? = some (.cells #[.int .i64 0, .int .i64 1000, .int .i64 1001, .int .i64 (-1)] 2) := blk_alloc_new _ _
              have hne : W2.heap.size ≠ sb := by have := S.out.rl.2.1.2.size; have := S.out.rl.2.2; omega
              go_wp2_with fail
              refine (n_any sb 4 _ (S.out.alloc _).rl.2.1.1 (by omega)).mono ?_
              rintro e W3 ⟨⟨z, rfl, z0, z1, _⟩, hD⟩
              have z2 := z1 (by omega)
              obtain ⟨x, hx⟩ := four (z := z) (n := 4) #[.int .i64 0, .int .i64 1000, .int .i64 1001, .int .i64 (-1)] 2 (fun j hj => by
                have hv : j = 0 ∨ j = 1 ∨ j = 2 ∨ j = 3 := by simp at hj; omega
                rcases hv with rfl | rfl | rfl | rfl <;> exact ⟨_, rfl⟩) hgg rfl hD hne z0 (by omega)
              have S2 := Lib.hid ((S.out.alloc (.cells #[.int .i64 0, .int .i64 1000, .int .i64 1001, .int .i64 (-1)] 2)).draw hD)
              clear hD S z1 hgg
              have S3 := Lib.hid (S2.out.set1 x)
              obtain ⟨⟨x0, x1, _, _, _⟩, ⟨f0, f1, _⟩, zR⟩ := S2.out.cells
              clear S2
              have S := S3
              clear S3
              go_upto_region 15 with fail
              clear hx x0 x1 f0 f1 zR hne
              generalize W3.setCell ⟨R, 1, none⟩ (.int .i64 x) = W at *
              have hr : ∃ r', Hid (RD w sb R (.slice av zs.length cv) zs r' W) := ⟨_, S⟩
              clear S
              obtain ⟨r, S⟩ := hr
              go_wp2_with fail
              refine (one_any sb 60 _ S.out.rl.2.1.1 (by omega)).mono ?_
              rintro e W2 ⟨⟨b2, rfl⟩, hD⟩
              have S2 := Lib.hid (S.out.draw hD)
              clear hD S
              have S := S2
              clear S2
              cases b2
              · go_upto_region 17 with fail
                generalize W2 = W at *
                have hr : ∃ r', Hid (RD w sb R (.slice av zs.length cv) zs r' W) := ⟨_, S⟩
                clear S
                obtain ⟨r, S⟩ := hr
                obtain ⟨⟨x0, x1, x2, x3, x4⟩, _, zR⟩ := S.out.cells
                have zw : w.heap.size ≤ W.heap.size := S.out.rl.2.1.2.size
                go_wp2_with (at_builtin; refine wpList_append_own _ rfl _ _ 25 rfl w.heap.size 43 i0 (.agg #[.int .i64 0, .int .i64 0, .int .i64 0, .int .i64 0, .int .i64 0]) 5 40 Tryd.underlying25 hi0 hz0 hz1 hz2 rfl (by decide) _ _ _ rfl (S.out.rl.1.alloc _) ⟨W.heap.size, 0, none⟩ 1 1 (rcCells r) rfl rfl ?c19a ?c19b ?c19c ?c19d ?c19e ?_)
                try (case c19a => (intro j u hj; match j, hj with
                  | 0, hj => (simp [rcCells] at hj; subst hj; simp [Addr.add])
                  | 1, hj => (simp [rcCells] at hj; subst hj; simp [Addr.add])
                  | 2, hj => (simp [rcCells] at hj; subst hj; simp [Addr.add])
                  | 3, hj => (simp [rcCells] at hj; subst hj; simp [Addr.add])
                  | 4, hj => (simp [rcCells] at hj; subst hj; simp [Addr.add])))
                try (case c19b => (intro u hu; simp [rcCells] at hu; rcases hu with rfl | rfl | rfl | rfl | rfl <;> rfl))
                try (case c19c => (have := hzl.out; unfold maxLen; omega))
                try (case c19d => (have := hzl.out; omega))
                try (case c19e => first | omega | (simp; omega))
                intro v' W9 hown hgrow hnil
                have R9 := Lib.hid (S.out.rl.push (x := r) hgrow hown)
                clear hown hgrow hnil S x0 x1 x2 x3 x4
                go_wp2_with fail
                go_roundw
                case rel => exact ⟨i + 1, zs ++ [r], by omega, by show _ = _; have := hzl.out; simp; omega, by go_num, R9⟩
                case measure => simp [intOf]; omega
              · go_wp2_with fail
                refine (n_any sb 2 _ S.out.rl.2.1.1 (by omega)).mono ?_
                rintro e W3 ⟨⟨z, rfl, z0, z1, _⟩, hD⟩
                have z2 := z1 (by omega)
                have S2 := Lib.hid (S.out.draw hD)
                clear hD S z1
                have S3 := Lib.hid (S2.out.set2 ((i : Int) - z))
                obtain ⟨⟨_, _, x2, _, _⟩, ⟨_, _, f2⟩, zR⟩ := S2.out.cells
                clear S2
                have S := S3
                clear S3
                go_upto_region 17 with fail
                clear x2 f2 zR
                generalize W3.setCell ⟨R, 2, none⟩ (.int .i64 ((i : Int) - z)) = W at *
                have hr : ∃ r', Hid (RD w sb R (.slice av zs.length cv) zs r' W) := ⟨_, S⟩
                clear S
                obtain ⟨r, S⟩ := hr
                obtain ⟨⟨x0, x1, x2, x3, x4⟩, _, zR⟩ := S.out.cells
                have zw : w.heap.size ≤ W.heap.size := S.out.rl.2.1.2.size
                go_wp2_with (at_builtin; refine wpList_append_own _ rfl _ _ 25 rfl w.heap.size 43 i0 (.agg #[.int .i64 0, .int .i64 0, .int .i64 0, .int .i64 0, .int .i64 0]) 5 40 Tryd.underlying25 hi0 hz0 hz1 hz2 rfl (by decide) _ _ _ rfl (S.out.rl.1.alloc _) ⟨W.heap.size, 0, none⟩ 1 1 (rcCells r) rfl rfl ?c20a ?c20b ?c20c ?c20d ?c20e ?_)
                try (case c20a => (intro j u hj; match j, hj with
                  | 0, hj => (simp [rcCells] at hj; subst hj; simp [Addr.add])
                  | 1, hj => (simp [rcCells] at hj; subst hj; simp [Addr.add])
                  | 2, hj => (simp [rcCells] at hj; subst hj; simp [Addr.add])
                  | 3, hj => (simp [rcCells] at hj; subst hj; simp [Addr.add])
                  | 4, hj => (simp [rcCells] at hj; subst hj; simp [Addr.add])))
                try (case c20b => (intro u hu; simp [rcCells] at hu; rcases hu with rfl | rfl | rfl | rfl | rfl <;> rfl))
                try (case c20c => (have := hzl.out; unfold maxLen; omega))
                try (case c20d => (have := hzl.out; omega))
                try (case c20e => first | omega | (simp; omega))
                intro v' W9 hown hgrow hnil
                have R9 := Lib.hid (S.out.rl.push (x := r) hgrow hown)
                clear hown hgrow hnil S x0 x1 x2 x3 x4
                go_wp2_with fail
                go_roundw
                case rel => exact ⟨i + 1, zs ++ [r], by omega, by show _ = _; have := hzl.out; simp; omega, by go_num, R9⟩
                case measure => simp [intOf]; omega
          · have hgg : (W2.alloc (.cells #[.int .i64 0, .int .i64 1000000000, .int .i64 1000000001, .int .i64 (-1)] 2)).heap[W2.heap.size]? = some (.cells #[.int .i64 0, .int .i64 1000000000, .int .i64 1000000001, .int .i64 (-1)] 2) := blk_alloc_new _ _
            have hne : W2.heap.size ≠ sb := by have := S.out.rl.2.1.2.size; have := S.out.rl.2.2; omega
            go_wp2_with fail
            refine (n_any sb 4 _ (S.out.alloc _).rl.2.1.1 (by omega)).mono ?_
            rintro e W3 ⟨⟨z, rfl, z0, z1, _⟩, hD⟩
            have z2 := z1 (by omega)
            obtain ⟨x, hx⟩ := four (z := z) (n := 4) #[.int .i64 0, .int .i64 1000000000, .int .i64 1000000001, .int .i64 (-1)] 2 (fun j hj => by
              have hv : j = 0 ∨ j = 1 ∨ j = 2 ∨ j = 3 := by simp at hj; omega
              rcases hv with rfl | rfl | rfl | rfl <;> exact ⟨_, rfl⟩) hgg rfl hD hne z0 (by omega)
            have S2 := Lib.hid ((S.out.alloc (.cells #[.int .i64 0, .int .i64 1000000000, .int .i64 1000000001, .int .i64 (-1)] 2)).draw hD)
            clear hD S z1 hgg
            have S3 := Lib.hid (S2.out.set0 x)
            obtain ⟨⟨x0, x1, _, _, _⟩, ⟨f0, f1, _⟩, zR⟩ := S2.out.cells
            clear S2
            have S := S3
            clear S3
            go_upto_region 13 with fail
            clear hx x0 x1 f0 f1 zR hne
            generalize W3.setCell ⟨R, 0, none⟩ (.int .i64 x) = W at *
            have hr : ∃ r', Hid (RD w sb R (.slice av zs.length cv) zs r' W) := ⟨_, S⟩
            clear S
            obtain ⟨r, S⟩ := hr
            go_wp2_with fail
            refine (one_any sb 30 _ S.out.rl.2.1.1 (by omega)).mono ?_
            rintro e W2 ⟨⟨b2, rfl⟩, hD⟩
            have S2 := Lib.hid (S.out.draw hD)
            clear hD S
            have S := S2
            clear S2
            cases b2
            · go_upto_region 15 with fail
              generalize W2 = W at *
              have hr : ∃ r', Hid (RD w sb R (.slice av zs.length cv) zs r' W) := ⟨_, S⟩
              clear S
              obtain ⟨r, S⟩ := hr
              go_wp2_with fail
              refine (one_any sb 60 _ S.out.rl.2.1.1 (by omega)).mono ?_
              rintro e W2 ⟨⟨b2, rfl⟩, hD⟩
              have S2 := Lib.hid (S.out.draw hD)
              clear hD S
              have S := S2
              clear S2
              cases b2
              · go_upto_region 17 with fail
                generalize W2 = W at *
                have hr : ∃ r', Hid (RD w sb R (.slice av zs.length cv) zs r' W) := ⟨_, S⟩
                clear S
                obtain ⟨r, S⟩ := hr
                obtain ⟨⟨x0, x1, x2, x3, x4⟩, _, zR⟩ := S.out.cells
                have zw : w.heap.size ≤ W.heap.size := S.out.rl.2.1.2.size
                go_wp2_with (at_builtin; refine wpList_append_own _ rfl _ _ 25 rfl w.heap.size 43 i0 (.agg #[.int .i64 0, .int .i64 0, .int .i64 0, .int .i64 0, .int .i64 0]) 5 40 Tryd.underlying25 hi0 hz0 hz1 hz2 rfl (by decide) _ _ _ rfl (S.out.rl.1.alloc _) ⟨W.heap.size, 0, none⟩ 1 1 (rcCells r) rfl rfl ?c21a ?c21b ?c21c ?c21d ?c21e ?_)
                try (case c21a => (intro j u hj; match j, hj with
                  | 0, hj => (simp [rcCells] at hj; subst hj; simp [Addr.add])
                  | 1, hj => (simp [rcCells] at hj; subst hj; simp [Addr.add])
                  | 2, hj => (simp [rcCells] at hj; subst hj; simp [Addr.add])
                  | 3, hj => (simp [rcCells] at hj; subst hj; simp [Addr.add])
                  | 4, hj => (simp [rcCells] at hj; subst hj; simp [Addr.add])))
                try (case c21b => (intro u hu; simp [rcCells] at hu; rcases hu with rfl | rfl | rfl | rfl | rfl <;> rfl))
                try (case c21c => (have := hzl.out; unfold maxLen; omega))
                try (case c21d => (have := hzl.out; omega))
                try (case c21e => first | omega | (simp; omega))
                intro v' W9 hown hgrow hnil
                have R9 := Lib.hid (S.out.rl.push (x := r) hgrow hown)
                clear hown hgrow hnil S x0 x1 x2 x3 x4
                go_wp2_with fail
                go_roundw
                case rel => exact ⟨i + 1, zs ++ [r], by omega, by show _ = _; have := hzl.out; simp; omega, by go_num, R9⟩
                case measure => simp [intOf]; omega
              · go_wp2_with fail
                refine (n_any sb 2 _ S.out.rl.2.1.1 (by omega)).mono ?_
                rintro e W3 ⟨⟨z, rfl, z0, z1, _⟩, hD⟩
                have z2 := z1 (by omega)
                have S2 := Lib.hid (S.out.draw hD)
                clear hD S z1
                have S3 := Lib.hid (S2.out.set2 ((i : Int) - z))
                obtain ⟨⟨_, _, x2, _, _⟩, ⟨_, _, f2⟩, zR⟩ := S2.out.cells
                clear S2
                have S := S3
                clear S3
                go_upto_region 17 with fail
                clear x2 f2 zR
                generalize W3.setCell ⟨R, 2, none⟩ (.int .i64 ((i : Int) - z)) = W at *
                have hr : ∃ r', Hid (RD w sb R (.slice av zs.length cv) zs r' W) := ⟨_, S⟩
                clear S
                obtain ⟨r, S⟩ := hr
                obtain ⟨⟨x0, x1, x2, x3, x4⟩, _, zR⟩ := S.out.cells
                have zw : w.heap.size ≤ W.heap.size := S.out.rl.2.1.2.size
                go_wp2_with (at_builtin; refine wpList_append_own _ rfl _ _ 25 rfl w.heap.size 43 i0 (.agg #[.int .i64 0, .int .i64 0, .int .i64 0, .int .i64 0, .int .i64 0]) 5 40 Tryd.underlying25 hi0 hz0 hz1 hz2 rfl (by decide) _ _ _ rfl (S.out.rl.1.alloc _) ⟨W.heap.size, 0, none⟩ 1 1 (rcCells r) rfl rfl ?c22a ?c22b ?c22c ?c22d ?c22e ?_)
                try (case c22a => (intro j u hj; match j, hj with
                  | 0, hj => (simp [rcCells] at hj; subst hj; simp [Addr.add])
                  | 1, hj => (simp [rcCells] at hj; subst hj; simp [Addr.add])
                  | 2, hj => (simp [rcCells] at hj; subst hj; simp [Addr.add])
                  | 3, hj => (simp [rcCells] at hj; subst hj; simp [Addr.add])
                  | 4, hj => (simp [rcCells] at hj; subst hj; simp [Addr.add])))
                try (case c22b => (intro u hu; simp [rcCells] at hu; rcases hu with rfl | rfl | rfl | rfl | rfl <;> rfl))
                try (case c22c => (have := hzl.out; unfold maxLen; omega))
                try (case c22d => (have := hzl.out; omega))
                try (case c22e => first | omega | (simp; omega))
                intro v' W9 hown hgrow hnil
                have R9 := Lib.hid (S.out.rl.push (x := r) hgrow hown)
                clear hown hgrow hnil S x0 x1 x2 x3 x4
                go_wp2_with fail
                go_roundw
                case rel => exact ⟨i + 1, zs ++ [r], by omega, by show _ = _; have := hzl.out; simp; omega, by go_num, R9⟩
                case measure => simp [intOf]; omega
            · have hgg : (W2.alloc (.cells #[.int .i64 0, .int .i64 1000, .int .i64 1001, .int .i64 (-1)] 2)).heap[W2.heap.size]? = some (.cells #[.int .i64 0, .int .i64 1000, .int .i64 1001, .int .i64 (-1)] 2) := blk_alloc_new _ _
              have hne : W2.heap.size ≠ sb := by have := S.out.rl.2.1.2.size; have := S.out.rl.2.2; omega
              go_wp2_with fail
              refine (n_any sb 4 _ (S.out.alloc _).rl.2.1.1 (by omega)).mono ?_
              rintro e W3 ⟨⟨z, rfl, z0, z1, _⟩, hD⟩
              have z2 := z1 (by omega)
              obtain ⟨x, hx⟩ := four (z := z) (n := 4) #[.int .i64 0, .int .i64 1000, .int .i64 1001, .int .i64 (-1)] 2 (fun j hj => by
                have hv : j = 0 ∨ j = 1 ∨ j = 2 ∨ j = 3 := by simp at hj; omega
                rcases hv with rfl | rfl | rfl | rfl <;> exact ⟨_, rfl⟩) hgg rfl hD hne z0 (by omega)
              have S2 := Lib.hid ((S.out.alloc (.cells #[.int .i64 0, .int .i64 1000, .int .i64 1001, .int .i64 (-1)] 2)).draw hD)
              clear hD S z1 hgg
              have S3 := Lib.hid (S2.out.set1 x)
              obtain ⟨⟨x0, x1, _, _, _⟩, ⟨f0, f1, _⟩, zR⟩ := S2.out.cells
              clear S2
              have S := S3
              clear S3
              go_upto_region 15 with fail
              clear hx x0 x1 f0 f1 zR hne
              generalize W3.setCell ⟨R, 1, none⟩ (.int .i64 x) = W at *
              have hr : ∃ r', Hid (RD w sb R (.slice av zs.length cv) zs r' W) := ⟨_, S⟩
              clear S
              obtain ⟨r, S⟩ := hr
              go_wp2_with fail
              refine (one_any sb 60 _ S.out.rl.2.1.1 (by omega)).mono ?_
              rintro e W2 ⟨⟨b2, rfl⟩, hD⟩
              have S2 := Lib.hid (S.out.draw hD)
              clear hD S
              have S := S2
              clear S2
              cases b2
              · go_upto_region 17 with fail
                generalize W2 = W at *
                have hr : ∃ r', Hid (RD w sb R (.slice av zs.length cv) zs r' W) := ⟨_, S⟩
                clear S
                obtain ⟨r, S⟩ := hr
                obtain ⟨⟨x0, x1, x2, x3, x4⟩, _, zR⟩ := S.out.cells
                have zw : w.heap.size ≤ W.heap.size := S.out.rl.2.1.2.size
                go_wp2_with (at_builtin; refine wpList_append_own _ rfl _ _ 25 rfl w.heap.size 43 i0 (.agg #[.int .i64 0, .int .i64 0, .int .i64 0, .int .i64 0, .int .i64 0]) 5 40 Tryd.underlying25 hi0 hz0 hz1 hz2 rfl (by decide) _ _ _ rfl (S.out.rl.1.alloc _) ⟨W.heap.size, 0, none⟩ 1 1 (rcCells r) rfl rfl ?c23a ?c23b ?c23c ?c23d ?c23e ?_)
                try (case c23a => (intro j u hj; match j, hj with
                  | 0, hj => (simp [rcCells] at hj; subst hj; simp [Addr.add])
                  | 1, hj => (simp [rcCells] at hj; subst hj; simp [Addr.add])
                  | 2, hj => (simp [rcCells] at hj; subst hj; simp [Addr.add])
                  | 3, hj => (simp [rcCells] at hj; subst hj; simp [Addr.add])
                  | 4, hj => (simp [rcCells] at hj; subst hj; simp [Addr.add])))
                try (case c23b => (intro u hu; simp [rcCells] at hu; rcases hu with rfl | rfl | rfl | rfl | rfl <;> rfl))
                try (case c23c => (have := hzl.out; unfold maxLen; omega))
                try (case c23d => (have := hzl.out; omega))
                try (case c23e => first | omega | (simp; omega))
                intro v' W9 hown hgrow hnil
                have R9 := Lib.hid (S.out.rl.push (x := r) hgrow hown)
                clear hown hgrow hnil S x0 x1 x2 x3 x4
                go_wp2_with fail
                go_roundw
                case rel => exact ⟨i + 1, zs ++ [r], by omega, by show _ = _; have := hzl.out; simp; omega, by go_num, R9⟩
                case measure => simp [intOf]; omega
              · go_wp2_with fail
                refine (n_any sb 2 _ S.out.rl.2.1.1 (by omega)).mono ?_
                rintro e W3 ⟨⟨z, rfl, z0, z1, _⟩, hD⟩
                have z2 := z1 (by omega)
                have S2 := Lib.hid (S.out.draw hD)
                clear hD S z1
                have S3 := Lib.hid (S2.out.set2 ((i : Int) - z))
                obtain ⟨⟨_, _, x2, _, _⟩, ⟨_, _, f2⟩, zR⟩ := S2.out.cells
                clear S2
                have S := S3
                clear S3
                go_upto_region 17 with fail
                clear x2 f2 zR
                generalize W3.setCell ⟨R, 2, none⟩ (.int .i64 ((i : Int) - z)) = W at *
                have hr : ∃ r', Hid (RD w sb R (.slice av zs.length cv) zs r' W) := ⟨_, S⟩
                clear S
                obtain ⟨r, S⟩ := hr
                obtain ⟨⟨x0, x1, x2, x3, x4⟩, _, zR⟩ := S.out.cells
                have zw : w.heap.size ≤ W.heap.size := S.out.rl.2.1.2.size
                go_wp2_with (at_builtin; refine wpList_append_own _ rfl _ _ 25 rfl w.heap.size 43 i0 (.agg #[.int .i64 0, .int .i64 0, .int .i64 0, .int .i64 0, .int .i64 0]) 5 40 Tryd.underlying25 hi0 hz0 hz1 hz2 rfl (by decide) _ _ _ rfl (S.out.rl.1.alloc _) ⟨W.heap.size, 0, none⟩ 1 1 (rcCells r) rfl rfl ?c24a ?c24b ?c24c ?c24d ?c24e ?_)
                try (case c24a => (intro j u hj; match j, hj with
                  | 0, hj => (simp [rcCells] at hj; subst hj; simp [Addr.add])
                  | 1, hj => (simp [rcCells] at hj; subst hj; simp [Addr.add])
                  | 2, hj => (simp [rcCells] at hj; subst hj; simp [Addr.add])
                  | 3, hj => (simp [rcCells] at hj; subst hj; simp [Addr.add])
                  | 4, hj => (simp [rcCells] at hj; subst hj; simp [Addr.add])))
                try (case c24b => (intro u hu; simp [rcCells] at hu; rcases hu with rfl | rfl | rfl | rfl | rfl <;> rfl))
                try (case c24c => (have := hzl.out; unfold maxLen; omega))
                try (case c24d => (have := hzl.out; omega))
                try (case c24e => first | omega | (simp; omega))
                intro v' W9 hown hgrow hnil
                have R9 := Lib.hid (S.out.rl.push (x := r) hgrow hown)
                clear hown hgrow hnil S x0 x1 x2 x3 x4
                go_wp2_with fail
                go_roundw
                case rel => exact ⟨i + 1, zs ++ [r], by omega, by show _ = _; have := hzl.out; simp; omega, by go_num, R9⟩
                case measure => simp [intOf]; omega
      · obtain rfl : i = N := by omega
        go_wp2_with fail
        go_ret
        exact ⟨_, rfl, zs, by have := hzl.out; omega, by have := hzl.out; omega, hR.out⟩
end Go.Proofs.YtdpghhmcibiplaaDoor
