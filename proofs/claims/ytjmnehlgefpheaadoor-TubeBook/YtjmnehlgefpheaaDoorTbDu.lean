/-
  The draw of a run of a tube; the laws' sums of parcels.
-/
import Derived.Test.YtjmnehlgefpheaaDoorTbDs
namespace Go.Proofs.YtjmnehlgefpheaaDoor
open Go.RowKit Go.Deep

/-- What stands while a run is drawn. -/
structure DuS (sb q : Nat) (r : Int) (aT : Option Addr) (l : List Tb.Pc) (c : Nat) (w W : World) : Prop where
  src : Src sb W
  res : W.rowIs w.heap.size 25 2 (rowN [.int .i64 0, .slice none 0 0])
  var : W.rowIs q 25 2 (rowN [.int .i64 r, .slice aT l.length c])
  tl : OwL 38 (sb + 1) (l.length * 3) aT c (Tb.fl l) W
  lo : w.heap.size < sb ∧ sb < q
  sz : w.heap.size + 1 ≤ W.heap.size
  bel : Below w.heap.size w W
theorem DuS.drew {sb q : Nat} {r : Int} {aT : Option Addr} {l : List Tb.Pc} {c : Nat} {w W W' : World} (h : DuS sb q r aT l c w W) (hd : Drew sb W W') : DuS sb q r aT l c w W' :=
  ⟨hd.1, hd.2.row h.res (by have := h.lo; omega), hd.2.row h.var (by have := h.lo; omega), h.tl.keep (fun k e hk => hd.2.2.2.2.2 k hk (by have := (h.tl.lt e).1; omega)), h.lo, Nat.le_trans h.sz hd.2.size, h.bel.trans (hd.2.below (by have := h.lo; omega) (by have := h.sz; omega))⟩
theorem DuS.below {sb q : Nat} {r : Int} {aT : Option Addr} {l : List Tb.Pc} {c : Nat} {w W W' : World} (h : DuS sb q r aT l c w W) (hb : Below W.heap.size W W') : DuS sb q r aT l c w W' :=
  ⟨h.src.below hb, nrow_below h.res hb, nrow_below h.var hb, h.tl.below hb, h.lo, Nat.le_trans h.sz hb.size, h.bel.trans (hb.mono (by have := h.sz; omega))⟩
set_option maxRecDepth 100000 in
set_option maxHeartbeats 8000000 in
theorem drawRun_any (a : Option Addr) (len cap : Nat) (w : World) (h : Bytes a len w) (hl : len ≤ 4194304) :
    Calls Tryd.prog 7 #[.slice a len cap] w fun e w' => (∃ (r : Int) (aT : Option Addr) (l : List Tb.Pc) (c : Nat) (pa : Option Addr) (pl : List Tb.Pc) (kp : Nat) (mill : Int), e = .returned (.tuple #[tbV r aT l.length c, .slice pa pl.length kp, .int .i64 mill]) ∧ OwL 38 w.heap.size (l.length * 3) aT c (Tb.fl l) w' ∧ OwL 38 w.heap.size (pl.length * 3) pa kp (Tb.fl pl) w' ∧ l.length ≤ 61 ∧ pl.length ≤ 1000) ∧ Below w.heap.size w w' := by
  obtain ⟨W, hW⟩ : ∃ W, W = w.alloc (.cells #[.int .i64 0, .slice none 0 0] 25) := ⟨_, rfl⟩
  have hb : Below w.heap.size w W := by rw [hW]; exact nbel_alloc _ _
  have HR : Hid (W.rowIs w.heap.size 25 2 (rowN [.int .i64 0, .slice none 0 0])) := by show World.rowIs _ _ _ _ _; rw [hW]; exact rowN_alloc w _ _
  have HY : Hid (Bytes a len W) := fun i hi => by
    obtain ⟨cb, co, y, e, hc, y0, y1⟩ := h i hi
    exact ⟨cb, co, y, e, (hb.cell (World.block_lt_of_cell? _ _ hc)).trans hc, y0, y1⟩
  have HB := Lib.hid hb
  have HW := Lib.hid hW
  clear hW hb h
  go_enter Tryd.func7, Tryd.ntmps7
  go_wp2_with fail
  rw [← HW.out]
  clear HW
  refine (source_any a len cap _ HY.out hl).mono ?_
  rintro e w1 ⟨rfl, hsrc, hb1⟩
  obtain ⟨sb, hsb⟩ : ∃ sb, sb = W.heap.size := ⟨_, rfl⟩
  rw [← hsb] at hsrc ⊢
  have HS := Lib.hid hsrc
  have HR1 := Lib.hid (nrow_below HR.out hb1)
  have HB1 : Hid (Below w.heap.size w w1) := HB.out.trans (hb1.mono HB.out.size)
  have HLO : Hid (w.heap.size < sb) := by show _ < _; rw [hsb]; exact HR.out.lt
  clear hsrc hb1 HR HB hsb
  go_wp2_with fail
  refine (l10Tube_any _ _ HS.out).mono ?_
  rintro e w2 ⟨⟨r, aT, l, c, rfl, ho, hll, hr0, hr1⟩, hD⟩
  obtain ⟨V, hV⟩ : ∃ V, V = w2.alloc (.cells #[.int .i64 r, .slice aT l.length c] 25) := ⟨_, rfl⟩
  have hbv : Below w2.heap.size w2 V := by rw [hV]; exact nbel_alloc _ _
  obtain ⟨q, hq⟩ : ∃ q, q = w2.heap.size := ⟨_, rfl⟩
  have hsl := HS.out.lt
  have hlo := HLO.out
  have hd2 := hD.2.size
  have HU : Hid (DuS sb q r aT l c w V) := ⟨hD.1.below hbv, nrow_below (hD.2.row HR1.out (by omega)) hbv, by rw [hV, hq]; exact rowN_alloc w2 _ _, (ho.below hbv).low (by omega), ⟨hlo, by omega⟩, by have := hbv.size; omega, (HB1.out.trans (hD.2.below (by omega) HB1.out.size)).trans (hbv.mono (by omega))⟩
  have HV := Lib.hid hV
  have HQ := Lib.hid hq
  clear hV hq hbv hD ho hsl hlo hd2 HS HR1 HB1
  obtain ⟨sa, slen, scap, sat, smix, size, hC, _, _, _, hz0, hz1, _⟩ := HU.out.src
  have c3 := hC.2.2.2.1
  rw [HV.out] at c3
  clear hC
  go_wp2_with fail
  rw [← HV.out, ← HQ.out]
  clear HV HQ c3
  refine (n_any sb _ _ HU.out.src (by omega)).mono ?_
  rintro e w3 ⟨⟨v, rfl, v0, v1, v2⟩, hD⟩
  have HU3 := Lib.hid (HU.out.drew hD)
  have hv := v1 (by omega)
  clear hD HU v1 v2
  go_wp2_with fail
  refine (one_any sb _ _ HU3.out.src (by omega)).mono ?_
  rintro e w4 ⟨⟨b, rfl⟩, hD⟩
  have HU4 := Lib.hid (HU3.out.drew hD)
  clear hD HU3
  rcases b with _ | _
  · obtain ⟨n, rfl⟩ : ∃ n : Nat, v = (n : Int) := ⟨v.toNat, by omega⟩
    have hn61 : n ≤ 1000 := by omega
    have HS := HU4
    clear HU4
    obtain ⟨wN, hwN⟩ : ∃ wN, wN = w4 := ⟨_, rfl⟩
    rw [← hwN] at HS ⊢
    clear hwN
    go_wp2_with fail
    refine wp_region_held_drew (S := (fun V => V.rowIs q 25 2 (rowN [.int .i64 r, .slice aT l.length c]) ∧ ∃ v0 v1, V.rowIs w.heap.size 25 2 (rowN [v0, v1]))) (by kernel_rfl) ⟨nrow_below HS.out.var (Below.refl _ _).drew, _, _, nrow_below HS.out.res (Below.refl _ _).drew⟩ (fun hHeld => ?_)
    have HZ := Lib.hid (HS.out.below (Below.refl _ _).drew)
    obtain ⟨Z, hZ⟩ : ∃ Z, Z = wN.drew := ⟨_, rfl⟩
    rw [← hZ] at hHeld HZ ⊢
    clear hZ HS
    refine take_do (i := 0) (v := .agg #[.int .i64 r, .slice aT l.length c]) rfl (by kernel_rfl) (by kernel_rfl) (by kernel_rfl) (fun _ _ _ h => h) (by rfl) ?_ (by assumption) ?_
    · intro w hSw
      obtain ⟨⟨x0, x1⟩, _⟩ := rowN2 hSw.1
      go_simp
    simp only [Act.put, List.setIfInBounds_toArray, List.set_cons_zero, List.set_cons_succ]
    refine take_do (i := 1) (v := .pointer (some ⟨sb, 0, none⟩)) rfl (by kernel_rfl) (by kernel_rfl) (by kernel_rfl) (fun _ _ _ h => h) (by rfl) ?_ (by assumption) ?_
    · intro w hSw
      go_simp
    simp only [Act.put, List.setIfInBounds_toArray, List.set_cons_zero, List.set_cons_succ]
    refine take_do (i := 2) (v := .int .i64 n) rfl (by kernel_rfl) (by kernel_rfl) (by kernel_rfl) (fun _ _ _ h => h) (by rfl) ?_ (by assumption) ?_
    · intro w hSw
      go_simp
    simp only [Act.put, List.setIfInBounds_toArray, List.set_cons_zero, List.set_cons_succ]
    refine take_do (i := 4) (v := .pointer (some ⟨sb, 0, none⟩)) rfl (by kernel_rfl) (by kernel_rfl) (by kernel_rfl) (fun _ _ _ h => h) (by rfl) ?_ (by assumption) ?_
    · intro w hSw
      go_simp
    simp only [Act.put, List.setIfInBounds_toArray, List.set_cons_zero, List.set_cons_succ]
    refine take_call (i := 3) rfl (by kernel_rfl) (fun K2 hK => ?_)
    go_simp
    refine (l10Ps_any sb n _ HZ.out.src hn61).mono ?_
    rintro e Z1 ⟨⟨pa, pl, kp, rfl, hop, hpl⟩, hD⟩
    have HZ1 := Lib.hid (HZ.out.drew hD)
    have HOP : Hid (OwL 38 (sb + 1) (pl.length * 3) pa kp (Tb.fl pl) Z1) := Lib.hid (hop.low (by have := HZ.out.var.lt; have := HZ.out.lo; omega))
    clear hop hD HZ
    go_wp2_with fail
    refine hK.out _ _ ⟨HZ1.out.var, _, _, HZ1.out.res⟩ (fun hHeld2 => ?_)
    clear hK hHeld
    have hHeld := hHeld2
    clear hHeld2
    refine take_call (i := 5) rfl (by kernel_rfl) (fun K2 hK => ?_)
    go_simp
    refine (n_any sb _ _ HZ1.out.src (by omega)).mono ?_
    rintro e Z2 ⟨⟨y, rfl, ya, yb, yc⟩, hD⟩
    have HZ2 := Lib.hid (HZ1.out.drew hD)
    have hlo := HZ1.out.lo
    have HOP2 : Hid (OwL 38 (sb + 1) (pl.length * 3) pa kp (Tb.fl pl) Z2) := (HOP.out.keep (fun k e hk => hD.2.2.2.2.2 k hk (by have := (HOP.out.lt e).1; omega)))
    have hy := yb (by omega)
    clear hD HZ1 HOP yb yc
    go_wp2_with fail
    refine hK.out _ _ ⟨HZ2.out.var, _, _, HZ2.out.res⟩ (fun hHeld2 => ?_)
    clear hK hHeld
    have hHeld := hHeld2
    clear hHeld2
    refine take_do (i := 6) (v := .int .i64 (y - 1)) rfl (by kernel_rfl) (by kernel_rfl) (by kernel_rfl) (fun _ _ _ h => h) (by rfl) ?_ (by assumption) ?_
    · intro w hSw
      go_simp
      exact twrap (by omega) (by omega)
    simp only [Act.put, List.setIfInBounds_toArray, List.set_cons_zero, List.set_cons_succ]
    obtain ⟨⟨t0, t1⟩, f0, f1⟩ := rowN2 HZ2.out.res
    have htl := HZ2.out.res.lt
    have zr := rowN_put (rowN_put HZ2.out.res 0 (.int .i64 r) (by simp)) 1 (.slice aT l.length c) (by simp)
    have zb : Below w.heap.size Z2 ((Z2.setCell ⟨w.heap.size, 0, none⟩ (.int .i64 r)).setCell ⟨w.heap.size, 1, none⟩ (.slice aT l.length c)) := ((Below.refl _ _).setCell (p := ⟨w.heap.size, 0, none⟩) (Nat.le_refl _) _).setCell (p := ⟨w.heap.size, 1, none⟩) (Nat.le_refl _) _
    have zk : ∀ k, k ≠ w.heap.size → ((Z2.setCell ⟨w.heap.size, 0, none⟩ (.int .i64 r)).setCell ⟨w.heap.size, 1, none⟩ (.slice aT l.length c)).heap[k]? = Z2.heap[k]? := fun k hk => by rw [Below.heap_setCell _ _ _ _ (by show k ≠ w.heap.size; exact hk), Below.heap_setCell _ _ _ _ (by show k ≠ w.heap.size; exact hk)]
    refine take_call (i := 7) rfl (by kernel_rfl) (fun K2 hK => ?_)
    go_simp
    clear t0 t1 f0 f1
    generalize (Z2.setCell ⟨w.heap.size, 0, none⟩ (.int .i64 r)).setCell ⟨w.heap.size, 1, none⟩ (.slice aT l.length c) = Y at zr zb zk ⊢
    have hql := HZ2.out.lo
    refine hK.out _ _ ⟨HZ2.out.var.of_block (zk _ (by omega)), _, _, zr⟩ (fun hHeld2 => ?_)
    clear hK hHeld
    have hHeld := hHeld2
    clear hHeld2
    refine take_do (i := 8) (v := .slice pa pl.length kp) rfl (by kernel_rfl) (by kernel_rfl) (by kernel_rfl) (fun _ _ _ h => h) (by rfl) ?_ (by assumption) ?_
    · intro w hSw
      go_simp
    simp only [Act.put, List.setIfInBounds_toArray, List.set_cons_zero, List.set_cons_succ]
    refine take_do (i := 9) (v := .int .i64 (y - 1)) rfl (by kernel_rfl) (by kernel_rfl) (by kernel_rfl) (fun _ _ _ h => h) (by rfl) ?_ (by assumption) ?_
    · intro w hSw
      go_simp
    simp only [Act.put, List.setIfInBounds_toArray, List.set_cons_zero, List.set_cons_succ]
    refine wpAnyH_done (by kernel_rfl) ?_ _
    obtain ⟨⟨y0, y1⟩, _⟩ := rowN2 zr
    have HOT : Hid (OwL 38 w.heap.size (l.length * 3) aT c (Tb.fl l) Y) := (HZ2.out.tl.keep (fun k e _ => zk k (by have := (HZ2.out.tl.lt e).1; omega))).low (by omega)
    have HOQ : Hid (OwL 38 w.heap.size (pl.length * 3) pa kp (Tb.fl pl) Y) := (HOP2.out.keep (fun k e _ => zk k (by have := (HOP2.out.lt e).1; omega))).low (by omega)
    have HBY : Hid (Below w.heap.size w Y) := HZ2.out.bel.trans zb
    clear hHeld zr zb zk
    go_wp2_with fail
    exact bodyPost_ret (v := .tuple #[tbV r aT l.length c, .slice pa pl.length kp, .int .i64 (y - 1)]) (by simp only [results, Tryd.results7]; simp [go_sem, y0, y1]) rfl ⟨⟨r, aT, l, c, pa, pl, kp, y - 1, rfl, HOT.out, HOQ.out, hll, hpl⟩, HBY.out⟩
  · go_wp2_with fail
    refine (n_any sb _ _ HU4.out.src (by omega)).mono ?_
    rintro e wN ⟨⟨x, rfl, xa, xb, xc⟩, hD⟩
    have HS := Lib.hid (HU4.out.drew hD)
    have hx := xb (by omega)
    obtain ⟨n, hn⟩ : ∃ n : Nat, (n : Int) = 59 + x := ⟨(59 + x).toNat, by omega⟩
    have hn61 : n ≤ 1000 := by omega
    have hnx : 59 + x = (n : Int) := hn.symm
    clear hD HU4 xb xc hn
    go_wp2_with fail
    refine wp_region_held_drew (S := (fun V => V.rowIs q 25 2 (rowN [.int .i64 r, .slice aT l.length c]) ∧ ∃ v0 v1, V.rowIs w.heap.size 25 2 (rowN [v0, v1]))) (by kernel_rfl) ⟨nrow_below HS.out.var (Below.refl _ _).drew, _, _, nrow_below HS.out.res (Below.refl _ _).drew⟩ (fun hHeld => ?_)
    have HZ := Lib.hid (HS.out.below (Below.refl _ _).drew)
    obtain ⟨Z, hZ⟩ : ∃ Z, Z = wN.drew := ⟨_, rfl⟩
    rw [← hZ] at hHeld HZ ⊢
    clear hZ HS
    refine take_do (i := 0) (v := .agg #[.int .i64 r, .slice aT l.length c]) rfl (by kernel_rfl) (by kernel_rfl) (by kernel_rfl) (fun _ _ _ h => h) (by rfl) ?_ (by assumption) ?_
    · intro w hSw
      obtain ⟨⟨x0, x1⟩, _⟩ := rowN2 hSw.1
      go_simp
    simp only [Act.put, List.setIfInBounds_toArray, List.set_cons_zero, List.set_cons_succ]
    refine take_do (i := 1) (v := .pointer (some ⟨sb, 0, none⟩)) rfl (by kernel_rfl) (by kernel_rfl) (by kernel_rfl) (fun _ _ _ h => h) (by rfl) ?_ (by assumption) ?_
    · intro w hSw
      go_simp
    simp only [Act.put, List.setIfInBounds_toArray, List.set_cons_zero, List.set_cons_succ]
    refine take_do (i := 2) (v := .int .i64 n) rfl (by kernel_rfl) (by kernel_rfl) (by kernel_rfl) (fun _ _ _ h => h) (by rfl) ?_ (by assumption) ?_
    · intro w hSw
      go_simp
    simp only [Act.put, List.setIfInBounds_toArray, List.set_cons_zero, List.set_cons_succ]
    refine take_do (i := 4) (v := .pointer (some ⟨sb, 0, none⟩)) rfl (by kernel_rfl) (by kernel_rfl) (by kernel_rfl) (fun _ _ _ h => h) (by rfl) ?_ (by assumption) ?_
    · intro w hSw
      go_simp
    simp only [Act.put, List.setIfInBounds_toArray, List.set_cons_zero, List.set_cons_succ]
    refine take_call (i := 3) rfl (by kernel_rfl) (fun K2 hK => ?_)
    go_simp
    refine (l10Ps_any sb n _ HZ.out.src hn61).mono ?_
    rintro e Z1 ⟨⟨pa, pl, kp, rfl, hop, hpl⟩, hD⟩
    have HZ1 := Lib.hid (HZ.out.drew hD)
    have HOP : Hid (OwL 38 (sb + 1) (pl.length * 3) pa kp (Tb.fl pl) Z1) := Lib.hid (hop.low (by have := HZ.out.var.lt; have := HZ.out.lo; omega))
    clear hop hD HZ
    go_wp2_with fail
    refine hK.out _ _ ⟨HZ1.out.var, _, _, HZ1.out.res⟩ (fun hHeld2 => ?_)
    clear hK hHeld
    have hHeld := hHeld2
    clear hHeld2
    refine take_call (i := 5) rfl (by kernel_rfl) (fun K2 hK => ?_)
    go_simp
    refine (n_any sb _ _ HZ1.out.src (by omega)).mono ?_
    rintro e Z2 ⟨⟨y, rfl, ya, yb, yc⟩, hD⟩
    have HZ2 := Lib.hid (HZ1.out.drew hD)
    have hlo := HZ1.out.lo
    have HOP2 : Hid (OwL 38 (sb + 1) (pl.length * 3) pa kp (Tb.fl pl) Z2) := (HOP.out.keep (fun k e hk => hD.2.2.2.2.2 k hk (by have := (HOP.out.lt e).1; omega)))
    have hy := yb (by omega)
    clear hD HZ1 HOP yb yc
    go_wp2_with fail
    refine hK.out _ _ ⟨HZ2.out.var, _, _, HZ2.out.res⟩ (fun hHeld2 => ?_)
    clear hK hHeld
    have hHeld := hHeld2
    clear hHeld2
    refine take_do (i := 6) (v := .int .i64 (y - 1)) rfl (by kernel_rfl) (by kernel_rfl) (by kernel_rfl) (fun _ _ _ h => h) (by rfl) ?_ (by assumption) ?_
    · intro w hSw
      go_simp
      exact twrap (by omega) (by omega)
    simp only [Act.put, List.setIfInBounds_toArray, List.set_cons_zero, List.set_cons_succ]
    obtain ⟨⟨t0, t1⟩, f0, f1⟩ := rowN2 HZ2.out.res
    have htl := HZ2.out.res.lt
    have zr := rowN_put (rowN_put HZ2.out.res 0 (.int .i64 r) (by simp)) 1 (.slice aT l.length c) (by simp)
    have zb : Below w.heap.size Z2 ((Z2.setCell ⟨w.heap.size, 0, none⟩ (.int .i64 r)).setCell ⟨w.heap.size, 1, none⟩ (.slice aT l.length c)) := ((Below.refl _ _).setCell (p := ⟨w.heap.size, 0, none⟩) (Nat.le_refl _) _).setCell (p := ⟨w.heap.size, 1, none⟩) (Nat.le_refl _) _
    have zk : ∀ k, k ≠ w.heap.size → ((Z2.setCell ⟨w.heap.size, 0, none⟩ (.int .i64 r)).setCell ⟨w.heap.size, 1, none⟩ (.slice aT l.length c)).heap[k]? = Z2.heap[k]? := fun k hk => by rw [Below.heap_setCell _ _ _ _ (by show k ≠ w.heap.size; exact hk), Below.heap_setCell _ _ _ _ (by show k ≠ w.heap.size; exact hk)]
    refine take_call (i := 7) rfl (by kernel_rfl) (fun K2 hK => ?_)
    go_simp
    clear t0 t1 f0 f1
    generalize (Z2.setCell ⟨w.heap.size, 0, none⟩ (.int .i64 r)).setCell ⟨w.heap.size, 1, none⟩ (.slice aT l.length c) = Y at zr zb zk ⊢
    have hql := HZ2.out.lo
    refine hK.out _ _ ⟨HZ2.out.var.of_block (zk _ (by omega)), _, _, zr⟩ (fun hHeld2 => ?_)
    clear hK hHeld
    have hHeld := hHeld2
    clear hHeld2
    refine take_do (i := 8) (v := .slice pa pl.length kp) rfl (by kernel_rfl) (by kernel_rfl) (by kernel_rfl) (fun _ _ _ h => h) (by rfl) ?_ (by assumption) ?_
    · intro w hSw
      go_simp
    simp only [Act.put, List.setIfInBounds_toArray, List.set_cons_zero, List.set_cons_succ]
    refine take_do (i := 9) (v := .int .i64 (y - 1)) rfl (by kernel_rfl) (by kernel_rfl) (by kernel_rfl) (fun _ _ _ h => h) (by rfl) ?_ (by assumption) ?_
    · intro w hSw
      go_simp
    simp only [Act.put, List.setIfInBounds_toArray, List.set_cons_zero, List.set_cons_succ]
    refine wpAnyH_done (by kernel_rfl) ?_ _
    obtain ⟨⟨y0, y1⟩, _⟩ := rowN2 zr
    have HOT : Hid (OwL 38 w.heap.size (l.length * 3) aT c (Tb.fl l) Y) := (HZ2.out.tl.keep (fun k e _ => zk k (by have := (HZ2.out.tl.lt e).1; omega))).low (by omega)
    have HOQ : Hid (OwL 38 w.heap.size (pl.length * 3) pa kp (Tb.fl pl) Y) := (HOP2.out.keep (fun k e _ => zk k (by have := (HOP2.out.lt e).1; omega))).low (by omega)
    have HBY : Hid (Below w.heap.size w Y) := HZ2.out.bel.trans zb
    clear hHeld zr zb zk
    go_wp2_with fail
    exact bodyPost_ret (v := .tuple #[tbV r aT l.length c, .slice pa pl.length kp, .int .i64 (y - 1)]) (by simp only [results, Tryd.results7]; simp [go_sem, y0, y1]) rfl ⟨⟨r, aT, l, c, pa, pl, kp, y - 1, rfl, HOT.out, HOQ.out, hll, hpl⟩, HBY.out⟩
set_option maxRecDepth 100000 in
set_option maxHeartbeats 4000000 in
theorem lwParcels_any (a : Option Addr) (l : List Tb.Pc) (k : Nat) (w : World) (h : IsAt a (l.length * 3) (Tb.fl l) w) (hl : l.length ≤ 10000) (hok : ∀ p, p ∈ l → Tb.Ok p) :
    Calls Tryd.prog 10 #[.slice a l.length k] w fun e w' => e = .returned (.tuple #[.int .i64 (Tb.wat l), .int .i64 (Tb.gra l)]) ∧ w' = w := by
  have H := Lib.hid h
  have HOK := Lib.hid hok
  clear h hok
  go_enter Tryd.func10, Tryd.ntmps10
  go_wp2_with fail
  go_loopw [4, 5, 6] (fun wv gv iv wr => ∃ (i : Nat), i ≤ l.length ∧ iv = .int .i64 i ∧ wv = .int .i64 (Tb.wat (l.take i)) ∧ gv = .int .i64 (Tb.gra (l.take i)) ∧ Hid (wr = w)) (fun _ _ iv _ => l.length - (intOf iv).toNat)
  case atStart => exact ⟨0, Nat.zero_le _, rfl, rfl, rfl, rfl⟩
  case round =>
    obtain ⟨i, hi, rfl, rfl, rfl, hW⟩ := hrel
    obtain rfl := hW.out
    clear hW
    by_cases hlt : i < l.length
    · have hltz : (i : Int) < (l.length : Int) := by omega
      obtain ⟨b, rfl, c0, c1, c2⟩ := H.out.pc hlt
      have hall : ∀ p, p ∈ l.take i → Tb.Ok p := fun p hp => HOK.out p (List.mem_of_mem_take hp)
      obtain ⟨s0, s1⟩ : 0 ≤ Tb.wat (l.take i) ∧ Tb.wat (l.take i) ≤ 10000000000 := by
        have := Tb.wat_bd hall
        rw [List.length_take] at this
        omega
      obtain ⟨t0, t1⟩ : 0 ≤ Tb.gra (l.take i) ∧ Tb.gra (l.take i) ≤ 10000000000000 := by
        have := Tb.gra_bd hall
        rw [List.length_take] at this
        omega
      have HS : Hid (Tb.wat (l.take (i + 1)) = Tb.wat (l.take i) + (Tb.pg l i).w ∧ Tb.gra (l.take (i + 1)) = Tb.gra (l.take i) + (Tb.pg l i).g) := ⟨Tb.wat_take hlt, Tb.gra_take hlt⟩
      obtain ⟨⟨o0, o1⟩, ⟨o2, o3⟩, _⟩ := HOK.out _ (Tb.pg_mem hlt)
      clear hall
      generalize Tb.wat (l.take i) = s at *
      generalize Tb.gra (l.take i) = t at *
      go_wp2_with fail
      go_roundw
      case rel => exact ⟨i + 1, by omega, by go_num, by rw [HS.out.1], by rw [HS.out.2], by first | exact rfl | exact (trivial : True)⟩
      case measure => simp [intOf]; omega
    · obtain rfl : i = l.length := by omega
      have e1 : Tb.wat (l.take l.length) = Tb.wat l := by rw [List.take_length]
      have e2 : Tb.gra (l.take l.length) = Tb.gra l := by rw [List.take_length]
      rw [e1, e2]
      clear e1 e2
      go_wp2_with fail
      exact bodyPost_ret (v := .tuple #[.int .i64 (Tb.wat l), .int .i64 (Tb.gra l)]) (by simp [results, Tryd.results10, go_sem]) rfl ⟨rfl, rfl⟩
end Go.Proofs.YtjmnehlgefpheaaDoor
