/-
  The draw of a bill.
-/
import Derived.Test.YtnbnfifgajfomaaDoorBiDt
namespace Go.Proofs.YtnbnfifgajfomaaDoor
open Go Go.RowKit Go.Deep

/-- The source, the tariff, its list, the result's variable. -/
structure DmS (sb s6 : Nat) (t : Bi.T) (la : Option Addr) (lk : Nat) (w W : World) : Prop where
  src : Src sb W
  bel : Below w.heap.size w W
  res : W.rowIs w.heap.size 25 4 (rowN [.int .i64 0, .slice none 0 0, .int .i64 0, .int .i64 0])
  row : W.rowIs s6 25 4 (rowN (tfL t la lk))
  ls : LsOwn 73 2 (sb + 1) t.bn la lk t.B W
  lo : w.heap.size < sb
  hi : sb < s6
section
variable {sb s6 : Nat} {t : Bi.T} {la : Option Addr} {lk : Nat} {w W W' : World}
theorem DmS.drew (h : DmS sb s6 t la lk w W) (hd : Drew sb W W') : DmS sb s6 t la lk w W' :=
  ⟨hd.1, h.bel.trans (hd.2.below (Nat.le_of_lt h.lo) h.bel.size), h.res.of_block (hd.2.2.2.2.2 _ h.res.lt (by have := h.lo; omega)), h.row.of_block (hd.2.2.2.2.2 _ h.row.lt (by have := h.hi; omega)), h.ls.same (fun k hk hl => hd.2.2.2.2.2 k hl (by omega)), h.lo, h.hi⟩
theorem DmS.below (h : DmS sb s6 t la lk w W) (hb : Below W.heap.size W W') : DmS sb s6 t la lk w W' :=
  ⟨h.src.below hb, h.bel.trans (hb.mono h.bel.size), nrow_below h.res hb, nrow_below h.row hb, h.ls.below hb, h.lo, h.hi⟩
end
set_option maxRecDepth 100000 in
set_option maxHeartbeats 8000000 in
theorem drawBill_any (a : Option Addr) (len cap : Nat) (w : World) (h : Bytes a len w) (hl : len ≤ 4194304) :
    Calls Tryd.prog 8 #[.slice a len cap] w fun e w' => (∃ (t : Bi.T) (la : Option Addr) (lk : Nat) (d x : Int), e = .returned (.tuple #[tfV t la lk, .int .i64 d, .int .i64 x]) ∧ t.bn ≤ 10 ∧ LsOwn 73 2 w.heap.size t.bn la lk t.B w') ∧ Below w.heap.size w w' := by
  obtain ⟨W, hW⟩ : ∃ W, W = w.alloc (.cells #[.int .i64 0, .slice none 0 0, .int .i64 0, .int .i64 0] 25) := ⟨_, rfl⟩
  have hb : Below w.heap.size w W := by rw [hW]; exact nbel_alloc _ _
  have HR : Hid (W.rowIs w.heap.size 25 4 (rowN [.int .i64 0, .slice none 0 0, .int .i64 0, .int .i64 0])) := by show World.rowIs _ _ _ _ _; rw [hW]; exact rowN_alloc w _ _
  have H := Lib.hid (h.below hb)
  have HB := Lib.hid hb
  have HW := Lib.hid hW
  clear hW h hb
  go_enter Tryd.func8, Tryd.ntmps8
  go_wp2_with fail
  rw [← HW.out]
  clear HW
  refine (source_any a len cap _ H.out hl).mono ?_
  rintro e w1 ⟨rfl, hsrc, hb⟩
  obtain ⟨sb, hsb⟩ : ∃ s, s = W.heap.size := ⟨_, rfl⟩
  rw [← hsb] at hsrc ⊢
  have HLO : Hid (w.heap.size < sb) := by show _ < _; rw [hsb]; exact HR.out.lt
  replace HB : Hid (Below w.heap.size w w1) := HB.out.trans (hb.mono HB.out.size)
  replace HR := Lib.hid (nrow_below HR.out hb)
  have HS := Lib.hid hsrc
  clear hsrc hb hsb H
  go_wp2_with fail
  refine (tariff_any sb _ HS.out).mono ?_
  rintro e w2 ⟨⟨t, la, lk, rfl, hbn, hls⟩, hD⟩
  obtain ⟨W3, hW3⟩ : ∃ W, W = w2.alloc (.cells #[.int .i64 t.day, .slice la t.bn lk, .int .i64 t.sew, .int .i64 t.tax] 25) := ⟨_, rfl⟩
  obtain ⟨s6, hs6⟩ : ∃ s, s = w2.heap.size := ⟨_, rfl⟩
  have hb3 : Below w2.heap.size w2 W3 := by rw [hW3]; exact nbel_alloc _ _
  have HT : Hid (DmS sb s6 t la lk w W3) := by
    have hlo := HLO.out
    refine ⟨hD.1.below hb3, (HB.out.trans (hD.2.below (Nat.le_of_lt hlo) HB.out.size)).trans (hb3.mono ?_), nrow_below (HR.out.of_block (hD.2.2.2.2.2 _ HR.out.lt (by omega))) hb3, by rw [hW3, hs6]; exact rowN_alloc w2 _ _, (hls.low HS.out.lt).below hb3, hlo, by rw [hs6]; exact hD.1.lt⟩
    exact Nat.le_trans HB.out.size hD.2.2.2.2.1
  have HW3 := Lib.hid hW3
  have HS6 := Lib.hid hs6
  have HBN := Lib.hid hbn
  clear hls hD hb3 hW3 hs6 hbn HR HB HS HLO
  go_wp2_with fail
  rw [← HW3.out, ← HS6.out]
  clear HW3 HS6
  refine (n_any sb 120 _ HT.out.src (by omega)).mono ?_
  rintro e w4 ⟨⟨d0, rfl, _, _, _⟩, hD⟩
  replace HT := Lib.hid (HT.out.drew hD)
  clear hD
  go_wp2_with fail
  refine (one_any sb 20 _ HT.out.src (by omega)).mono ?_
  rintro e w5 ⟨⟨b, rfl⟩, hD⟩
  replace HT := Lib.hid (HT.out.drew hD)
  clear hD
  go_upto_if 15 with fail
  go_cut [7] from 16 to 20 (fun dv wx => ∃ d : Int, dv = .int .i64 d ∧ Hid (DmS sb s6 t la lk w wx))
  case first =>
    cases b
    · go_wp2_with fail
      go_meet
      case rel => exact ⟨_, rfl, HT⟩
    · obtain ⟨W6, hW6⟩ : ∃ W, W = w5.alloc (.cells #[.int .i64 (-1), .int .i64 1000, .int .i64 1001] 2) := ⟨_, rfl⟩
      have hb6 : Below w5.heap.size w5 W6 := by rw [hW6]; exact nbel_alloc _ _
      obtain ⟨gq, hgq⟩ : ∃ g, g = w5.heap.size := ⟨_, rfl⟩
      have HQ : Hid (W6.rowIs gq 2 3 (rowN [.int .i64 (-1), .int .i64 1000, .int .i64 1001])) := by show World.rowIs _ _ _ _ _; rw [hW6, hgq]; exact rowN_alloc _ _ _
      have HQL : Hid (sb < gq) := by show _ < _; rw [hgq]; exact HT.out.src.lt
      replace HT := Lib.hid (HT.out.below hb6)
      have HW6 := Lib.hid hW6
      have HGQ := Lib.hid hgq
      clear hb6 hW6 hgq
      go_wp2_with fail
      rw [← HW6.out, ← HGQ.out]
      clear HW6 HGQ
      refine (n_any sb 3 _ HT.out.src (by omega)).mono ?_
      rintro e w7 ⟨⟨y, rfl, y0, y1, _⟩, hD⟩
      have y2 : y < 3 := y1 (by omega)
      replace HT := Lib.hid (HT.out.drew hD)
      replace HQ := Lib.hid (HQ.out.of_block (hD.2.2.2.2.2 _ HQ.out.lt (by have := HQL.out; omega)))
      clear hD y1
      have y3 : y = 0 ∨ y = 1 ∨ y = 2 := by omega
      clear y0 y2
      obtain ⟨⟨q0, q1, q2⟩, _⟩ := rowN3 HQ.out
      rcases y3 with rfl | rfl | rfl <;> (go_wp2_with fail; go_meet; exact ⟨_, rfl, HT⟩)
  case rest =>
    clear HT
    obtain ⟨d, rfl, HT⟩ := hcut
    obtain ⟨V1, hV1⟩ : ∃ w', w' = wc := ⟨_, rfl⟩
    rw [← hV1] at HT ⊢
    clear hV1
    go_wp2_with fail
    refine wp_region_held_drew (S := fun V => V.rowIs s6 25 4 (rowN (tfL t la lk))) (by kernel_rfl) (nrow_below HT.out.row (Below.refl _ _).drew) (fun hHeld => ?_)
    obtain ⟨Z, hZ⟩ : ∃ Z, Z = V1.drew := ⟨_, rfl⟩
    replace HT := Lib.hid (HT.out.below (Below.refl _ _).drew)
    rw [← hZ] at hHeld HT ⊢
    clear hZ
    refine take_do (i := 0) (v := (tfV t la lk)) rfl (by kernel_rfl) (by kernel_rfl) (by kernel_rfl) (fun _ _ _ h => h) (by rfl) ?_ (by assumption) ?_
    · intro w hSw
      obtain ⟨⟨q0, q1, q2, q3⟩, _⟩ := rowN4 hSw
      go_simp
    simp only [Act.put, List.setIfInBounds_toArray, List.set_cons_zero, List.set_cons_succ]
    refine take_do (i := 1) (v := (.int .i64 d)) rfl (by kernel_rfl) (by kernel_rfl) (by kernel_rfl) (fun _ _ _ h => h) (by rfl) ?_ (by assumption) ?_
    · intro w hSw
      skip
      go_simp
    simp only [Act.put, List.setIfInBounds_toArray, List.set_cons_zero, List.set_cons_succ]
    refine take_do (i := 2) (v := (.pointer (some ⟨sb, 0, none⟩))) rfl (by kernel_rfl) (by kernel_rfl) (by kernel_rfl) (fun _ _ _ h => h) (by rfl) ?_ (by assumption) ?_
    · intro w hSw
      skip
      go_simp
    simp only [Act.put, List.setIfInBounds_toArray, List.set_cons_zero, List.set_cons_succ]
    refine take_call (i := 3) rfl (by kernel_rfl) (fun K2 hK => ?_)
    go_simp
    refine (water_any sb _ HT.out.src).mono ?_
    rintro e Z1 ⟨⟨x, rfl⟩, hD⟩
    replace HT := Lib.hid (HT.out.drew hD)
    clear hD
    go_wp2_with fail
    refine hK.out _ _ HT.out.row (fun hHeld2 => ?_)
    clear hK hHeld
    have hHeld := hHeld2
    clear hHeld2
    try simp only [Act.put, List.setIfInBounds_toArray, List.set_cons_zero, List.set_cons_succ]
    obtain ⟨⟨o0, o1, o2, o3⟩, z0, z1, z2, z3⟩ := rowN4 HT.out.res
    have l0 := HT.out.res.lt
    have hlo := HT.out.lo
    have hhi := HT.out.hi
    obtain ⟨Y, hY⟩ : ∃ Y, Y = ((((Z1.setCell ⟨w.heap.size, 0, none⟩ (.int .i64 t.day)).setCell ⟨w.heap.size, 1, none⟩ (.slice la t.bn lk)).setCell ⟨w.heap.size, 2, none⟩ (.int .i64 t.sew)).setCell ⟨w.heap.size, 3, none⟩ (.int .i64 t.tax)) := ⟨_, rfl⟩
    have YO : Hid (∀ g, g ≠ w.heap.size → Y.heap[g]? = Z1.heap[g]?) := by intro g hg; rw [hY]; exact ac4o hg _ _ _ _
    have YR : Hid (Y.rowIs w.heap.size 25 4 (rowN (tfL t la lk))) := by show World.rowIs _ _ _ _ _; rw [hY]; exact ac4 HT.out.res _ _ _ _
    have YB : Hid (Below w.heap.size w Y) := by show Below _ _ _; rw [hY]; exact ac4b HT.out.bel (Nat.le_refl _) _ _ _ _
    have Y6 : Hid (Y.rowIs s6 25 4 (rowN (tfL t la lk))) := HT.out.row.of_block (YO.out _ (by omega))
    have YL : Hid (LsOwn 73 2 w.heap.size t.bn la lk t.B Y) := (HT.out.ls.same (fun k hk _ => YO.out k (by omega))).low (by omega)
    have HY := Lib.hid hY
    clear hY
    refine take_call (i := 4) rfl (by kernel_rfl) (fun K2 hK => ?_)
    go_simp
    rw [← HY.out]
    clear o0 o1 o2 o3 z0 z1 z2 z3 l0 hlo hhi HY HT YO
    refine hK.out _ _ Y6.out (fun hHeld2 => ?_)
    clear hK hHeld
    have hHeld := hHeld2
    clear hHeld2
    try simp only [Act.put, List.setIfInBounds_toArray, List.set_cons_zero, List.set_cons_succ]
    refine take_call (i := 5) rfl (by kernel_rfl) (fun K2 hK => ?_)
    go_simp
    refine hK.out _ _ Y6.out (fun hHeld2 => ?_)
    clear hK hHeld
    have hHeld := hHeld2
    clear hHeld2
    try simp only [Act.put, List.setIfInBounds_toArray, List.set_cons_zero, List.set_cons_succ]
    refine take_call (i := 6) rfl (by kernel_rfl) (fun K2 hK => ?_)
    go_simp
    refine hK.out _ _ Y6.out (fun hHeld2 => ?_)
    clear hK hHeld
    have hHeld := hHeld2
    clear hHeld2
    try simp only [Act.put, List.setIfInBounds_toArray, List.set_cons_zero, List.set_cons_succ]
    refine wpAnyH_done (by kernel_rfl) ?_ _
    go_wp2_with fail
    refine bodyPost_ret (v := .tuple #[tfV t la lk, .int .i64 d, .int .i64 x]) ?_ rfl ⟨⟨t, la, lk, d, x, rfl, HBN.out, YL.out⟩, YB.out⟩
    obtain ⟨⟨c0, c1, c2, c3⟩, _⟩ := rowN4 YR.out
    simp only [results, Tryd.results8]
    simp [go_sem, c0, c1, c2, c3]
end Go.Proofs.YtnbnfifgajfomaaDoor
