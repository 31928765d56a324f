/-
  The draws of parcels and of runs of a tube.
-/
import Derived.Test.YtjmnehlgefpheaaDoorTbDr
namespace Go.Proofs.YtjmnehlgefpheaaDoor
open Go.RowKit Go.Deep

/-- What stands while a parcel is drawn. -/
structure DpS (sb s q : Nat) (p : Tb.Pc) (w W : World) : Prop where
  src : Src sb W
  chg : Chg sb w W
  res : W.rowIs s 38 3 (rowN (pcL Tb.z))
  var : W.rowIs q 38 3 (rowN (pcL p))
  lo : sb < s ∧ s < q
theorem DpS.drew {sb s q : Nat} {p : Tb.Pc} {w W W' : World} (h : DpS sb s q p w W) (hd : Drew sb W W') : DpS sb s q p w W' :=
  ⟨hd.1, h.chg.trans hd.2, hd.2.row h.res (by have := h.lo; omega), hd.2.row h.var (by have := h.lo; omega), h.lo⟩
theorem DpS.below {sb s q : Nat} {p : Tb.Pc} {w W W' : World} (h : DpS sb s q p w W) (hb : Below W.heap.size W W') : DpS sb s q p w W' :=
  ⟨h.src.below hb, h.chg.trans (Chg.of_below hb), nrow_below h.res hb, nrow_below h.var hb, h.lo⟩
theorem DpS.put {sb q : Nat} {p : Tb.Pc} {w W : World} (h : DpS sb w.heap.size q p w W) (i : Nat) (x : Int) (p' : Tb.Pc) (hi : i < 3) (e : (pcL p).set i (.int .i64 x) = pcL p') : DpS sb w.heap.size q p' w (W.setCell ⟨q, i, none⟩ (.int .i64 x)) := by
  have hl := h.lo
  have zb : Below q W (W.setCell ⟨q, i, none⟩ (.int .i64 x)) := (Below.refl _ _).setCell (p := ⟨q, i, none⟩) (Nat.le_refl _) _
  exact ⟨h.src.low zb (by omega), h.chg.of_low zb (by omega), h.res.of_block (zb.block _ (by omega)), by rw [← e]; exact rowN_put h.var i _ (by simpa using hi), h.lo⟩
theorem three {g : Nat} {x y z : Int} {W : World} {t : TypeId} (h : W.rowIs g t 3 (rowN [.int .i64 x, .int .i64 y, .int .i64 z])) {k : Nat} (hk : k < 3) : ∃ v : Int, W.cell? ⟨g, k, none⟩ = some (.int .i64 v) := by
  obtain ⟨⟨c0, c1, c2⟩, _⟩ := rowN3 h
  have : k = 0 ∨ k = 1 ∨ k = 2 := by omega
  rcases this with rfl | rfl | rfl
  · exact ⟨_, c0⟩
  · exact ⟨_, c1⟩
  · exact ⟨_, c2⟩
set_option maxRecDepth 100000 in
set_option maxHeartbeats 8000000 in
theorem l10Pc_any (sb : Nat) (w : World) (h : Src sb w) :
    Calls Tryd.prog 41 #[.pointer (some ⟨sb, 0, none⟩)] w fun e w' => (∃ p : Tb.Pc, e = .returned (pcV p)) ∧ Drew sb w w' := by
  obtain ⟨W, hW⟩ : ∃ W, W = w.alloc (.cells #[.int .i64 0, .int .i64 0, .int .i64 0] 38) := ⟨_, rfl⟩
  have hb : Below w.heap.size w W := by rw [hW]; exact nbel_alloc _ _
  have HS0 : Hid (Src sb W) := h.below hb
  have HR0 : Hid (W.rowIs w.heap.size 38 3 (rowN (pcL Tb.z))) := by show World.rowIs _ _ _ _ _; rw [hW]; exact rowN_alloc w _ _
  have HC0 : Hid (Chg sb w W) := Chg.of_below hb
  have HLT : Hid (sb < w.heap.size) := h.lt
  have HW := Lib.hid hW
  clear hW hb h
  go_enter Tryd.func41, Tryd.ntmps41
  go_wp2_with fail
  rw [← HW.out]
  clear HW
  refine (n_any sb _ _ HS0.out (by omega)).mono ?_
  rintro e w1 ⟨⟨x1, rfl, xa1, xb1, xc1⟩, hD⟩
  have HS1 := Lib.hid hD.1
  have HC1 : Hid (Chg sb w w1) := HC0.out.trans hD.2
  have HR1 := Lib.hid (hD.2.row HR0.out (by have := HLT.out; omega))
  have hx1 := xb1 (by omega)
  clear hD HS0 HC0 HR0 xb1 xc1
  go_wp2_with fail
  refine (n_any sb _ _ HS1.out (by omega)).mono ?_
  rintro e w2 ⟨⟨x2, rfl, xa2, xb2, xc2⟩, hD⟩
  have HS2 := Lib.hid hD.1
  have HC2 : Hid (Chg sb w w2) := HC1.out.trans hD.2
  have HR2 := Lib.hid (hD.2.row HR1.out (by have := HLT.out; omega))
  have hx2 := xb2 (by omega)
  clear hD HS1 HC1 HR1 xb2 xc2
  go_wp2_with fail
  refine (n_any sb _ _ HS2.out (by omega)).mono ?_
  rintro e w3 ⟨⟨x3, rfl, xa3, xb3, xc3⟩, hD⟩
  have HS3 := Lib.hid hD.1
  have HC3 : Hid (Chg sb w w3) := HC2.out.trans hD.2
  have HR3 := Lib.hid (hD.2.row HR2.out (by have := HLT.out; omega))
  have hx3 := xb3 (by omega)
  clear hD HS2 HC2 HR2 xb3 xc3
  obtain ⟨V, hV⟩ : ∃ V, V = w3.alloc (.cells #[.int .i64 (1 + x1), .int .i64 x2, .int .i64 x3] 38) := ⟨_, rfl⟩
  have hbv : Below w3.heap.size w3 V := by rw [hV]; exact nbel_alloc _ _
  obtain ⟨q, hq⟩ : ∃ q, q = w3.heap.size := ⟨_, rfl⟩
  obtain ⟨p, hp⟩ : ∃ p : Tb.Pc, p = ⟨1 + x1, x2, x3⟩ := ⟨_, rfl⟩
  have HP : Hid (DpS sb w.heap.size q p w V) := ⟨HS3.out.below hbv, HC3.out.trans (Chg.of_below hbv), nrow_below HR3.out hbv, by rw [hV, hq, hp]; exact rowN_alloc w3 _ _, HLT.out, by rw [hq]; exact HR3.out.lt⟩
  have HV := Lib.hid hV
  have HQ := Lib.hid hq
  clear hV hq hp hbv HS3 HC3 HR3
  go_wp2_with fail
  rw [← HV.out, ← HQ.out]
  clear HV HQ
  refine (one_any sb _ _ HP.out.src (by omega)).mono ?_
  rintro e u1 ⟨⟨b, rfl⟩, hD⟩
  have HA1 := Lib.hid (HP.out.drew hD)
  clear hD HP
  rcases b with _ | _
  · go_wp2_with fail
    refine (one_any sb _ _ HA1.out.src (by omega)).mono ?_
    rintro e u2 ⟨⟨b, rfl⟩, hD⟩
    have HA2 := Lib.hid (HA1.out.drew hD)
    clear hD HA1
    rcases b with _ | _
    · obtain ⟨⟨v0, v1, v2⟩, _⟩ := rowN3 HA2.out.var
      obtain ⟨⟨r0, r1, r2⟩, g0, g1, g2⟩ := rowN3 HA2.out.res
      have hrl := HA2.out.res.lt
      have hlo2 := HA2.out.lo
      have zr := rowN_put (rowN_put (rowN_put HA2.out.res 0 (.int .i64 p.w) (by simp)) 1 (.int .i64 p.g) (by simp)) 2 (.int .i64 p.b) (by simp)
      have zb : Below w.heap.size u2 (((u2.setCell ⟨w.heap.size, 0, none⟩ (.int .i64 p.w)).setCell ⟨w.heap.size, 1, none⟩ (.int .i64 p.g)).setCell ⟨w.heap.size, 2, none⟩ (.int .i64 p.b)) := (((Below.refl _ _).setCell (p := ⟨w.heap.size, 0, none⟩) (Nat.le_refl _) _).setCell (p := ⟨w.heap.size, 1, none⟩) (Nat.le_refl _) _).setCell (p := ⟨w.heap.size, 2, none⟩) (Nat.le_refl _) _
      have ZR := Lib.hid zr
      have ZB := Lib.hid zb
      have hHS := HA2
      clear HA2 zr zb
      go_wp2_with fail
      have zr := ZR.out
      have zb := ZB.out
      clear ZR ZB
      generalize ((u2.setCell ⟨w.heap.size, 0, none⟩ (.int .i64 p.w)).setCell ⟨w.heap.size, 1, none⟩ (.int .i64 p.g)).setCell ⟨w.heap.size, 2, none⟩ (.int .i64 p.b) = Y at zr zb ⊢
      obtain ⟨⟨s0, s1, s2⟩, _⟩ := rowN3 zr
      exact bodyPost_ret (v := pcV p) (by simp only [results, Tryd.results41]; simp [go_sem, s0, s1, s2]) rfl ⟨⟨p, rfl⟩, hHS.out.src.low zb hlo2.1, hHS.out.chg.of_low zb (Nat.le_refl _)⟩
    · obtain ⟨T, hT⟩ : ∃ T, T = u2.alloc (.cells #[.int .i64 1000000000, .int .i64 1000000001, .int .i64 (-1)] 2) := ⟨_, rfl⟩
      have hbt : Below u2.heap.size u2 T := by rw [hT]; exact nbel_alloc _ _
      have HT : Hid (T.rowIs u2.heap.size 2 3 (rowN [.int .i64 1000000000, .int .i64 1000000001, .int .i64 (-1)])) := by show World.rowIs _ _ _ _ _; rw [hT]; exact rowN_alloc _ _ _
      have HB2 := Lib.hid (HA2.out.below hbt)
      have HTT := Lib.hid hT
      have hul : q < u2.heap.size := HA2.out.var.lt
      clear hT hbt HA2
      go_wp2_with fail
      rw [← HTT.out]
      clear HTT
      refine (n_any sb _ _ HB2.out.src (by omega)).mono ?_
      rintro e t2 ⟨⟨y, rfl, ya, yb, yc⟩, hD⟩
      have HC2 := Lib.hid (HB2.out.drew hD)
      have hy := yb (by omega)
      obtain ⟨k, rfl⟩ : ∃ k : Nat, y = (k : Int) := ⟨y.toNat, by omega⟩
      have hk3 : k < 3 := by omega
      have hk3z : (k : Int) < 3 := by omega
      have hlo := HC2.out.lo
      obtain ⟨z, cz⟩ := three (hD.2.row HT.out (by omega)) hk3
      have hne : u2.heap.size ≠ q := by omega
      clear hD HB2 yb yc HT
      obtain ⟨⟨v0, v1, v2⟩, g0, g1, g2⟩ := rowN3 HC2.out.var
      have hvl := HC2.out.var.lt
      have HD2 : Hid (DpS sb w.heap.size q ⟨p.w, z, p.b⟩ w (t2.setCell ⟨q, 1, none⟩ (.int .i64 z))) := HC2.out.put 1 z ⟨p.w, z, p.b⟩ (by omega) rfl
      obtain ⟨⟨r0, r1, r2⟩, h0, h1, h2⟩ := rowN3 HC2.out.res
      have hrl := HC2.out.res.lt
      have hsq : w.heap.size ≠ q := by omega
      have hlo2 := HD2.out.lo
      have zr := rowN_put (rowN_put (rowN_put HD2.out.res 0 (.int .i64 p.w) (by simp)) 1 (.int .i64 z) (by simp)) 2 (.int .i64 p.b) (by simp)
      have zb : Below w.heap.size (t2.setCell ⟨q, 1, none⟩ (.int .i64 z)) ((((t2.setCell ⟨q, 1, none⟩ (.int .i64 z)).setCell ⟨w.heap.size, 0, none⟩ (.int .i64 p.w)).setCell ⟨w.heap.size, 1, none⟩ (.int .i64 z)).setCell ⟨w.heap.size, 2, none⟩ (.int .i64 p.b)) := (((Below.refl _ _).setCell (p := ⟨w.heap.size, 0, none⟩) (Nat.le_refl _) _).setCell (p := ⟨w.heap.size, 1, none⟩) (Nat.le_refl _) _).setCell (p := ⟨w.heap.size, 2, none⟩) (Nat.le_refl _) _
      have ZR := Lib.hid zr
      have ZB := Lib.hid zb
      have hHS := HD2
      clear HD2 zr zb
      go_wp2_with fail
      have zr := ZR.out
      have zb := ZB.out
      clear ZR ZB
      generalize (((t2.setCell ⟨q, 1, none⟩ (.int .i64 z)).setCell ⟨w.heap.size, 0, none⟩ (.int .i64 p.w)).setCell ⟨w.heap.size, 1, none⟩ (.int .i64 z)).setCell ⟨w.heap.size, 2, none⟩ (.int .i64 p.b) = Y at zr zb ⊢
      obtain ⟨⟨s0, s1, s2⟩, _⟩ := rowN3 zr
      exact bodyPost_ret (v := pcV (⟨p.w, z, p.b⟩ : Tb.Pc)) (by simp only [results, Tryd.results41]; simp [go_sem, s0, s1, s2]) rfl ⟨⟨(⟨p.w, z, p.b⟩ : Tb.Pc), rfl⟩, hHS.out.src.low zb hlo2.1, hHS.out.chg.of_low zb (Nat.le_refl _)⟩
  · obtain ⟨T, hT⟩ : ∃ T, T = u1.alloc (.cells #[.int .i64 0, .int .i64 1000000, .int .i64 1000001] 2) := ⟨_, rfl⟩
    have hbt : Below u1.heap.size u1 T := by rw [hT]; exact nbel_alloc _ _
    have HT : Hid (T.rowIs u1.heap.size 2 3 (rowN [.int .i64 0, .int .i64 1000000, .int .i64 1000001])) := by show World.rowIs _ _ _ _ _; rw [hT]; exact rowN_alloc _ _ _
    have HB1 := Lib.hid (HA1.out.below hbt)
    have HTT := Lib.hid hT
    have hul : q < u1.heap.size := HA1.out.var.lt
    clear hT hbt HA1
    go_wp2_with fail
    rw [← HTT.out]
    clear HTT
    refine (n_any sb _ _ HB1.out.src (by omega)).mono ?_
    rintro e t1 ⟨⟨y, rfl, ya, yb, yc⟩, hD⟩
    have HC1 := Lib.hid (HB1.out.drew hD)
    have hy := yb (by omega)
    obtain ⟨k, rfl⟩ : ∃ k : Nat, y = (k : Int) := ⟨y.toNat, by omega⟩
    have hk3 : k < 3 := by omega
    have hk3z : (k : Int) < 3 := by omega
    have hlo := HC1.out.lo
    obtain ⟨z, cz⟩ := three (hD.2.row HT.out (by omega)) hk3
    have hne : u1.heap.size ≠ q := by omega
    clear hD HB1 yb yc HT
    obtain ⟨⟨v0, v1, v2⟩, g0, g1, g2⟩ := rowN3 HC1.out.var
    have hvl := HC1.out.var.lt
    obtain ⟨p1, hp1⟩ : ∃ p' : Tb.Pc, p' = ⟨z, p.g, p.b⟩ := ⟨_, rfl⟩
    have HD1 : Hid (DpS sb w.heap.size q p1 w (t1.setCell ⟨q, 0, none⟩ (.int .i64 z))) := HC1.out.put 0 z p1 (by omega) (by rw [hp1]; rfl)
    clear hp1
    go_wp2_with fail
    obtain ⟨X1, hX1⟩ : ∃ X, X = t1.setCell ⟨q, 0, none⟩ (.int .i64 z) := ⟨_, rfl⟩
    rw [← hX1] at HD1 ⊢
    clear hX1 v0 v1 v2 g0 g1 g2 hvl cz hul hne
    refine (one_any sb _ _ HD1.out.src (by omega)).mono ?_
    rintro e u2 ⟨⟨b, rfl⟩, hD⟩
    have HA2 := Lib.hid (HD1.out.drew hD)
    clear hD HD1
    rcases b with _ | _
    · obtain ⟨⟨v0, v1, v2⟩, _⟩ := rowN3 HA2.out.var
      obtain ⟨⟨r0, r1, r2⟩, g0, g1, g2⟩ := rowN3 HA2.out.res
      have hrl := HA2.out.res.lt
      have hlo2 := HA2.out.lo
      have zr := rowN_put (rowN_put (rowN_put HA2.out.res 0 (.int .i64 p1.w) (by simp)) 1 (.int .i64 p1.g) (by simp)) 2 (.int .i64 p1.b) (by simp)
      have zb : Below w.heap.size u2 (((u2.setCell ⟨w.heap.size, 0, none⟩ (.int .i64 p1.w)).setCell ⟨w.heap.size, 1, none⟩ (.int .i64 p1.g)).setCell ⟨w.heap.size, 2, none⟩ (.int .i64 p1.b)) := (((Below.refl _ _).setCell (p := ⟨w.heap.size, 0, none⟩) (Nat.le_refl _) _).setCell (p := ⟨w.heap.size, 1, none⟩) (Nat.le_refl _) _).setCell (p := ⟨w.heap.size, 2, none⟩) (Nat.le_refl _) _
      have ZR := Lib.hid zr
      have ZB := Lib.hid zb
      have hHS := HA2
      clear HA2 zr zb
      go_wp2_with fail
      have zr := ZR.out
      have zb := ZB.out
      clear ZR ZB
      generalize ((u2.setCell ⟨w.heap.size, 0, none⟩ (.int .i64 p1.w)).setCell ⟨w.heap.size, 1, none⟩ (.int .i64 p1.g)).setCell ⟨w.heap.size, 2, none⟩ (.int .i64 p1.b) = Y at zr zb ⊢
      obtain ⟨⟨s0, s1, s2⟩, _⟩ := rowN3 zr
      exact bodyPost_ret (v := pcV p1) (by simp only [results, Tryd.results41]; simp [go_sem, s0, s1, s2]) rfl ⟨⟨p1, rfl⟩, hHS.out.src.low zb hlo2.1, hHS.out.chg.of_low zb (Nat.le_refl _)⟩
    · obtain ⟨T, hT⟩ : ∃ T, T = u2.alloc (.cells #[.int .i64 1000000000, .int .i64 1000000001, .int .i64 (-1)] 2) := ⟨_, rfl⟩
      have hbt : Below u2.heap.size u2 T := by rw [hT]; exact nbel_alloc _ _
      have HT : Hid (T.rowIs u2.heap.size 2 3 (rowN [.int .i64 1000000000, .int .i64 1000000001, .int .i64 (-1)])) := by show World.rowIs _ _ _ _ _; rw [hT]; exact rowN_alloc _ _ _
      have HB2 := Lib.hid (HA2.out.below hbt)
      have HTT := Lib.hid hT
      have hul : q < u2.heap.size := HA2.out.var.lt
      clear hT hbt HA2
      go_wp2_with fail
      rw [← HTT.out]
      clear HTT
      refine (n_any sb _ _ HB2.out.src (by omega)).mono ?_
      rintro e t2 ⟨⟨y, rfl, ya, yb, yc⟩, hD⟩
      have HC2 := Lib.hid (HB2.out.drew hD)
      have hy := yb (by omega)
      obtain ⟨k, rfl⟩ : ∃ k : Nat, y = (k : Int) := ⟨y.toNat, by omega⟩
      have hk3 : k < 3 := by omega
      have hk3z : (k : Int) < 3 := by omega
      have hlo := HC2.out.lo
      obtain ⟨z, cz⟩ := three (hD.2.row HT.out (by omega)) hk3
      have hne : u2.heap.size ≠ q := by omega
      clear hD HB2 yb yc HT
      obtain ⟨⟨v0, v1, v2⟩, g0, g1, g2⟩ := rowN3 HC2.out.var
      have hvl := HC2.out.var.lt
      have HD2 : Hid (DpS sb w.heap.size q ⟨p1.w, z, p1.b⟩ w (t2.setCell ⟨q, 1, none⟩ (.int .i64 z))) := HC2.out.put 1 z ⟨p1.w, z, p1.b⟩ (by omega) rfl
      obtain ⟨⟨r0, r1, r2⟩, h0, h1, h2⟩ := rowN3 HC2.out.res
      have hrl := HC2.out.res.lt
      have hsq : w.heap.size ≠ q := by omega
      have hlo2 := HD2.out.lo
      have zr := rowN_put (rowN_put (rowN_put HD2.out.res 0 (.int .i64 p1.w) (by simp)) 1 (.int .i64 z) (by simp)) 2 (.int .i64 p1.b) (by simp)
      have zb : Below w.heap.size (t2.setCell ⟨q, 1, none⟩ (.int .i64 z)) ((((t2.setCell ⟨q, 1, none⟩ (.int .i64 z)).setCell ⟨w.heap.size, 0, none⟩ (.int .i64 p1.w)).setCell ⟨w.heap.size, 1, none⟩ (.int .i64 z)).setCell ⟨w.heap.size, 2, none⟩ (.int .i64 p1.b)) := (((Below.refl _ _).setCell (p := ⟨w.heap.size, 0, none⟩) (Nat.le_refl _) _).setCell (p := ⟨w.heap.size, 1, none⟩) (Nat.le_refl _) _).setCell (p := ⟨w.heap.size, 2, none⟩) (Nat.le_refl _) _
      have ZR := Lib.hid zr
      have ZB := Lib.hid zb
      have hHS := HD2
      clear HD2 zr zb
      go_wp2_with fail
      have zr := ZR.out
      have zb := ZB.out
      clear ZR ZB
      generalize (((t2.setCell ⟨q, 1, none⟩ (.int .i64 z)).setCell ⟨w.heap.size, 0, none⟩ (.int .i64 p1.w)).setCell ⟨w.heap.size, 1, none⟩ (.int .i64 z)).setCell ⟨w.heap.size, 2, none⟩ (.int .i64 p1.b) = Y at zr zb ⊢
      obtain ⟨⟨s0, s1, s2⟩, _⟩ := rowN3 zr
      exact bodyPost_ret (v := pcV (⟨p1.w, z, p1.b⟩ : Tb.Pc)) (by simp only [results, Tryd.results41]; simp [go_sem, s0, s1, s2]) rfl ⟨⟨(⟨p1.w, z, p1.b⟩ : Tb.Pc), rfl⟩, hHS.out.src.low zb hlo2.1, hHS.out.chg.of_low zb (Nat.le_refl _)⟩
/-- What stands while parcels are drawn. -/
structure DqS (sb : Nat) (ov : Value) (l : List Tb.Pc) (w W : World) : Prop where
  src : Src sb W
  chg : Chg sb w W
  own : W.ownsRow w.heap.size 38 3 ov l.length (pv l)
  lo : sb < w.heap.size
set_option maxRecDepth 100000 in
set_option maxHeartbeats 8000000 in
theorem l10Ps_any (sb n : Nat) (w : World) (h : Src sb w) (hn : n ≤ 1000) :
    Calls Tryd.prog 32 #[.pointer (some ⟨sb, 0, none⟩), .int .i64 n] w fun e w' => (∃ (a : Option Addr) (l : List Tb.Pc) (c : Nat), e = .returned (.slice a l.length c) ∧ OwL 38 w.heap.size (l.length * 3) a c (Tb.fl l) w' ∧ l.length ≤ 1000) ∧ Drew sb w w' := by
  obtain ⟨i1, hi1, hy0, hy1, hy2⟩ := info_parts pinfo
  have hb := nbel_alloc w (.cells #[] 38)
  have HS0 : Hid (DqS sb (.slice (some ⟨w.heap.size, 0, none⟩) 0 0) [] w (w.alloc (.cells #[] 38))) := ⟨h.below hb, Chg.of_below hb, World.ownsRow_made w #[] 0 (Nat.le_refl _) (Nat.zero_le _) rfl, h.lt⟩
  clear h hb
  go_enter Tryd.func32, Tryd.ntmps32
  go_wp2_with fail
  go_loopw [1, 5] (fun nv ov wr => ∃ (k : Nat) (l : List Tb.Pc), nv = .int .i64 k ∧ k + l.length ≤ 1000 ∧ Hid (DqS sb ov l w wr)) (fun nv _ _ => (intOf nv).toNat)
  case atStart => exact ⟨n, [], rfl, by simpa using hn, HS0⟩
  case round =>
    obtain ⟨k, l, rfl, hk, hS⟩ := hrel
    clear HS0
    by_cases hlt : 0 < k
    · have hltz : (0 : Int) < (k : Int) := by omega
      go_wp2_with fail
      refine (l10Pc_any sb _ hS.out.src).mono ?_
      rintro e w2 ⟨⟨p, rfl⟩, hD⟩
      have hlo := hS.out.lo
      have HO2 := Lib.hid (hD.2.own hS.out.own hlo)
      have HC2 : Hid (Chg sb w w2) := hS.out.chg.trans hD.2
      have HS2 := Lib.hid hD.1
      have hs2 : w.heap.size ≤ w2.heap.size := HC2.out.size
      clear hD hS
      go_wp2_with (at_builtin; refine wpList_append_own _ rfl _ _ 23 rfl w.heap.size 38 i1 _ 3 24 Tryd.underlying23 hi1 hy0 hy1 hy2 rfl (by decide) _ _ _ rfl (HO2.out.alloc _) ⟨w2.heap.size, 0, none⟩ 1 1 (pcL p) rfl rfl ?d1 ?d2 ?d3 ?d4 ?d5 ?_)
      case d1 =>
        intro j x hj
        match j, hj with
        | 0, hj => simp at hj; subst hj; simp [Addr.add]
        | 1, hj => simp at hj; subst hj; simp [Addr.add]
        | 2, hj => simp at hj; subst hj; simp [Addr.add]
      case d2 =>
        intro x hx
        simp at hx
        rcases hx with rfl | rfl | rfl <;> rfl
      case d3 => unfold maxLen; omega
      case d4 => omega
      case d5 => simp; omega
      intro v5 W5 hown hgrow hnil
      have hb5 : Below w.heap.size w2 W5 := ((Below.refl _ w2).alloc hs2 _).grown hgrow (by simp; omega) (fun k e => (HO2.out.lt k e).1)
      have HS5 : Hid (DqS sb v5 (l ++ [p]) w W5) := ⟨HS2.out.low hb5 hlo, HC2.out.of_low hb5 (Nat.le_refl _), by rw [pv_app, pv_one, List.length_append]; exact hown, hlo⟩
      obtain ⟨k', rfl⟩ : ∃ k', k = k' + 1 := ⟨k - 1, by omega⟩
      clear hown hgrow hnil hb5
      go_wp2_with fail
      go_roundw
      case rel => exact ⟨k', l ++ [p], by go_num, by rw [List.length_append]; simp; omega, HS5⟩
      case measure => simp [intOf]
    · obtain rfl : k = 0 := by omega
      obtain ⟨a, c, e, how⟩ := owl_of hS.out.own
      subst e
      have HO := Lib.hid how
      clear how
      go_wp2_with fail
      go_ret
      exact ⟨⟨a, l, c, rfl, HO.out, by omega⟩, hS.out.src, hS.out.chg⟩
end Go.Proofs.YtjmnehlgefpheaaDoor
