/-
  What picks cost and are worth: the program's.
-/
import Derived.Test.YtbkpedcabbppbaaDoorRnO1
namespace Go.Proofs.YtbkpedcabbppbaaDoor
open Go.RowKit Go.Deep

set_option maxRecDepth 100000 in
set_option maxHeartbeats 1000000 in
theorem rclone1_any (a : Option Addr) (m cap : Nat) (f : Nat → Int) (w : World) (h : IsAt a m f w) (hm : m ≤ 1000) (ha : a = none → m = 0) :
    Calls Tryd.prog 73 #[.slice a m cap] w fun e w' => (∃ b k, e = .returned (.slice b m k) ∧ LsOwn 2 1 w.heap.size m b k f w') ∧ Below w.heap.size w w' := by
  obtain ⟨i0, hi, hz0, hz1, hz2⟩ := info_parts roinfo
  have q22 : ∀ (w : World) (a : Option Addr) (n c n' c' : Nat), (binOp .eql 24 (.slice a n c) (.slice none n' c')).run Tryd.prog w = .ok (.bool a.isNone) w := fun w a n c n' c' => Lib.run_eql_slice_nil w _ _ a n c n' c' Tryd.underlying24
  have H := Lib.hid h
  clear h
  cases a with
  | none =>
    have HM := Lib.hid (ha rfl)
    clear ha
    go_enter Tryd.func73, Tryd.ntmps73
    go_wp2_with fail
    go_ret
    exact ⟨⟨none, 0, by rw [HM.out]; rfl, Or.inl ⟨rfl, HM.out, rfl⟩⟩, Below.refl _ _⟩
  | some ad =>
    clear ha
    go_enter Tryd.func73, Tryd.ntmps73
    go_wp2_with (at_builtin; refine wpList_append_own _ rfl _ _ 24 rfl w.heap.size 2 i0 (.int .i64 0) 1 8 Tryd.underlying24 hi hz0 hz1 hz2 rfl (by decide) _ _ _ rfl (World.ownsRow_made w #[] 0 (Nat.le_refl _) (Nat.zero_le _) rfl) ad m cap ((List.range m).map (fun j => Value.int .i64 (f j))) rfl ?qc1 ?qc2 ?qc3 ?qc4 ?qc5 ?qc6 ?_)
    case qc1 => simp
    case qc2 =>
      intro j u hj
      have hjn : j < m := by
        have := (List.getElem?_eq_some_iff.1 hj).1
        simpa using this
      obtain ⟨b, e, hc⟩ := H.out.at1 hjn
      simp at e
      subst e
      have hj2 : u = .int .i64 (f j) := by simp [hjn] at hj; exact hj.symm
      rw [Addr.add_lit, hj2]
      refine Lib.cell?_alloc_some _ ?_
      rw [Nat.zero_add]
      exact hc
    case qc3 =>
      intro u hu
      obtain ⟨x, _, rfl⟩ := List.mem_map.1 hu
      rfl
    case qc4 => unfold maxLen; omega
    case qc5 => omega
    case qc6 => simp
    intro v' w1 hown hgrow hnil
    have HB : Hid (Below w.heap.size w w1) := ((Below.refl _ w).alloc (Nat.le_refl _) _).grown hgrow (by simp) (by intro k hk; simp [Value.ownBlock] at hk; omega)
    have hown' : w1.ownsRow w.heap.size 2 1 v' m ((List.range m).map (fun j => Value.int .i64 (f j))) := by simpa using hown
    obtain ⟨b, k, rfl, hL⟩ := rvs_own hown'
    have HL := Lib.hid hL
    clear hown hown' hgrow hnil hL
    go_wp2
    go_ret
    exact ⟨⟨b, k, rfl, HL.out⟩, HB.out⟩
set_option maxRecDepth 100000 in
set_option maxHeartbeats 8000000 in
theorem renewalBy_any (a : Option Addr) (n cap : Nat) (f : Nat → Int) (pa : Option Addr) (m pc : Nat) (p : Nat → Int) (w : World) (h : IsAt a (n * 2) f w) (hr : Rn.Right n f) (hp : IsAt pa m p w) (hri : Pl.Rising m p n) (hpa : pa = none → m = 0) :
    Calls Tryd.prog 62 #[.slice a n cap, .slice pa m pc] w fun e w' => (∃ b k, e = .returned (roV (Rn.sm f 0 p m) (Rn.sm f 1 p m) 0 m b k) ∧ LsOwn 2 1 w.heap.size m b k p w') ∧ Below w.heap.size w w' := by
  obtain ⟨W, hW⟩ : ∃ W, W = w.alloc (.cells #[.slice none 0 0, .int .i64 0, .int .i64 0, .int .i64 0] 26) := ⟨_, rfl⟩
  have HB : Hid (Below w.heap.size w W) := by show Below _ _ _; rw [hW]; exact nbel_alloc _ _
  obtain ⟨g6, hg6⟩ : ∃ g6, g6 = w.heap.size := ⟨_, rfl⟩
  have HO : Hid (W.rowIs g6 26 4 (rowN [.slice none 0 0, .int .i64 0, .int .i64 0, .int .i64 0])) := by show W.rowIs _ _ _ _; rw [hW, hg6]; exact rowN_alloc _ _ _
  have hn40 := hr.1
  have hm40 : m ≤ 40 := Nat.le_trans hri.le hn40
  have H := Lib.hid h
  have HP := Lib.hid hp
  have HPA := Lib.hid hpa
  have HW := Lib.hid hW
  have HG6 := Lib.hid hg6
  have HRT := Lib.hid hr
  have HRI := Lib.hid hri
  clear h hp hpa hW hg6 hr hri
  obtain ⟨csE, hcsE⟩ : ∃ x, x = Rn.sm f 0 p m := ⟨_, rfl⟩
  obtain ⟨woE, hwoE⟩ : ∃ x, x = Rn.sm f 1 p m := ⟨_, rfl⟩
  rw [← hcsE, ← hwoE]
  have HCE := Lib.hid hcsE
  have HWE := Lib.hid hwoE
  clear hcsE hwoE
  go_enter Tryd.func62, Tryd.ntmps62
  go_upto_region 1 with fail
  rw [← HW.out, ← HG6.out]
  clear HW
  go_wp2_with fail
  refine (rclone1_any pa m pc p _ (HP.out.below HB.out) (by omega) HPA.out).mono ?_
  rintro e w3 ⟨⟨a7, k7, rfl, hL⟩, hb⟩
  have HL : Hid (LsOwn 2 1 w.heap.size m a7 k7 p w3) := hL.low HB.out.size
  replace HO := Lib.hid (nrow_below HO.out hb)
  replace HB : Hid (Below w.heap.size w w3) := HB.out.trans (hb.mono HB.out.size)
  have HGL : Hid (g6 < w3.heap.size) := HO.out.lt
  clear hb hL
  go_upto_region 2 with fail
  obtain ⟨X, hX⟩ : ∃ X, X = w3.alloc (.cells #[.slice a7 m k7, .int .i64 0, .int .i64 0, .int .i64 0] 26) := ⟨_, rfl⟩
  have HBX0 : Hid (X.rowIs w3.heap.size 26 4 (rowN [.slice a7 m k7, .int .i64 0, .int .i64 0, .int .i64 0])) := by show X.rowIs _ _ _ _; rw [hX]; exact rowN_alloc _ _ _
  have hbX : Below w3.heap.size w3 X := by rw [hX]; exact nbel_alloc _ _
  replace HO := Lib.hid (nrow_below HO.out hbX)
  replace HB : Hid (Below w.heap.size w X) := HB.out.trans (hbX.mono HB.out.size)
  replace HL := Lib.hid (HL.out.below hbX)
  rw [← hX]
  clear hX hbX
  obtain ⟨g7, hg7e⟩ : ∃ g7, g7 = w3.heap.size := ⟨_, rfl⟩
  have HG : Hid (w.heap.size ≤ g7 ∧ g6 ≠ g7) := by have := HGL.out; have := HG6.out; exact ⟨by omega, by omega⟩
  rw [← hg7e] at HBX0 ⊢
  clear hg7e
  go_wp2_with fail
  try dsimp only
  go_loopw [7, 13] (fun _ iv wr => ∃ (i : Nat), i ≤ m ∧ iv = .int .i64 i ∧ Hid (wr.rowIs g7 26 4 (rowN [.slice a7 m k7, .int .i64 (Rn.sm f 0 p i), .int .i64 (Rn.sm f 1 p i), .int .i64 0])) ∧ Hid (wr.rowIs g6 26 4 (rowN [.slice none 0 0, .int .i64 0, .int .i64 0, .int .i64 0]) ∧ LsOwn 2 1 w.heap.size m a7 k7 p wr ∧ Below w.heap.size w wr)) (fun _ iv _ => m - (intOf iv).toNat)
  case atStart => exact ⟨0, Nat.zero_le _, rfl, HBX0, ⟨HO.out, HL.out, HB.out⟩⟩
  case round =>
    obtain ⟨i, hi', rfl, HBX, hR⟩ := hrel
    clear HBX0 HO HL HB
    have bd0 := Rn.sm_bd (f := f) (k := 0) (p := p) (n := n) (m := i) (M := 300) (fun t ht => by have := (HRT.out.2 t ht).1; simp only [Nat.add_zero]; omega) (fun t ht => by have := (HRI.out t (by omega)).1; omega)
    have bd1 := Rn.sm_bd (f := f) (k := 1) (p := p) (n := n) (m := i) (M := 1000) (fun t ht => (HRT.out.2 t ht).2) (fun t ht => by have := (HRI.out t (by omega)).1; omega)
    by_cases hlt : i < m
    case neg =>
      obtain rfl : i = m := by omega
      clear bd0 bd1
      rw [← HCE.out, ← HWE.out] at HBX
      have HO := Lib.hid hR.out.1
      have HB := Lib.hid hR.out.2.2
      obtain ⟨⟨o0, o1, o2, o3⟩, z0, z1, z2, z3⟩ := rowN4 HO.out
      obtain ⟨⟨b0, b1, b2, b3⟩, _⟩ := rowN4 HBX.out
      have hol := HO.out.lt
      go_wp2_with fail
      have zr := rput4 HO.out (.slice a7 i k7) (.int .i64 csE) (.int .i64 woE) (.int .i64 0)
      have zb := rbel4 (g := g6) HB.out (by rw [HG6.out]; exact Nat.le_refl _) (.slice a7 i k7) (.int .i64 csE) (.int .i64 woE) (.int .i64 0)
      have zl := lsown4 hR.out.2.1 HO.out (by decide) (.slice a7 i k7) (.int .i64 csE) (.int .i64 woE) (.int .i64 0)
      generalize (((wr.setCell ⟨g6, 0, none⟩ (.slice a7 i k7)).setCell ⟨g6, 1, none⟩ (.int .i64 csE)).setCell ⟨g6, 2, none⟩ (.int .i64 woE)).setCell ⟨g6, 3, none⟩ (.int .i64 0) = ZZ at zr zb zl ⊢
      obtain ⟨⟨y0, y1, y2, y3⟩, _⟩ := rowN4 zr
      exact bodyPost_ret (v := roV csE woE 0 i a7 k7) (by simp only [results, Tryd.results62]; simp [go_sem, y0, y1, y2, y3]) rfl ⟨⟨a7, k7, rfl, zl⟩, zb⟩
    have hltz : (i : Int) < (m : Int) := by omega
    have hri := (HRI.out i hlt).1
    obtain ⟨pb, e, c0⟩ := (HP.out.below hR.out.2.2).at1 hlt
    subst e
    obtain ⟨q, hq⟩ : ∃ q : Nat, p i = (q : Int) := ⟨(p i).toNat, by omega⟩
    have hqn : q < n := by omega
    have hqz : (q : Int) < (n : Int) := by omega
    obtain ⟨lb, e, c1, c2⟩ := (H.out.below hR.out.2.2).at2 hqn
    subst e
    obtain ⟨lb2, e, c3, _⟩ := H.out.at2 hqn
    cases e
    obtain ⟨pb2, e, c5⟩ := HP.out.at1 hlt
    cases e
    rw [hq] at c0
    obtain ⟨x0, hx0⟩ : ∃ x0, x0 = f (q * 2) := ⟨_, rfl⟩
    obtain ⟨x1, hx1⟩ : ∃ x1, x1 = f (q * 2 + 1) := ⟨_, rfl⟩
    rw [← hx0] at c1
    rw [← hx1] at c2
    have HS : Hid (OfR w g6 lb pb i q m a7 k7 p x0 x1 wr) := ⟨⟨c0, c1, c2⟩, hR.out.1, hR.out.2.1, hR.out.2.2, World.block_lt_of_cell? _ _ c3, World.block_lt_of_cell? _ _ c5⟩
    obtain ⟨csO, hcsO⟩ : ∃ x, x = Rn.sm f 0 p i := ⟨_, rfl⟩
    obtain ⟨woO, hwoO⟩ : ∃ x, x = Rn.sm f 1 p i := ⟨_, rfl⟩
    rw [← hcsO, ← hwoO] at HBX
    obtain ⟨csN, hcsN⟩ : ∃ x, x = csO + x0 := ⟨_, rfl⟩
    obtain ⟨woN, hwoN⟩ : ∃ x, x = woO + x1 := ⟨_, rfl⟩
    have ex0 := (HRT.out.2 q hqn).1
    have ex1 := (HRT.out.2 q hqn).2
    have e10 : IntKind.i64.wrap (csO + x0) = csN := by rw [rwrap (by omega) (by omega), hcsN]
    have e11 : IntKind.i64.wrap (woO + x1) = woN := by rw [rwrap (by omega) (by omega), hwoN]
    have HCN : Hid (csN = Rn.sm f 0 p (i + 1)) := by
      show csN = Rn.sm f 0 p i + f ((p i).toNat * 2 + 0)
      rw [hcsN, hcsO, hx0, hq, Int.toNat_natCast, Nat.add_zero]
    have HWN : Hid (woN = Rn.sm f 1 p (i + 1)) := by
      show woN = Rn.sm f 1 p i + f ((p i).toNat * 2 + 1)
      rw [hwoN, hwoO, hx1, hq, Int.toNat_natCast]
    clear hcsO hwoO hcsN hwoN ex0 ex1 hx0 hx1 hq c1 c2 c3 c5 hri bd0 bd1 hR
    go_wp2_with fail
    clear c0
    refine wp_region_held_drew (S := fun V => OfR w g6 lb pb i q m a7 k7 p x0 x1 V) (by kernel_rfl) (HS.out.below (Below.refl _ _).drew) (fun hHeld => ?_)
    obtain ⟨Z1, hZ⟩ : ∃ Z, Z = wr.drew := ⟨_, rfl⟩
    have HBX1 : Hid (Z1.rowIs g7 26 4 (rowN [.slice a7 m k7, .int .i64 csO, .int .i64 woO, .int .i64 0])) := by show World.rowIs _ _ _ _ _; rw [hZ]; exact nrow_below HBX.out (Below.refl _ _).drew
    rw [← hZ] at hHeld ⊢
    clear hZ HS HBX
    refine take_do (i := 0) (v := (.pointer (some ⟨g7, 1, none⟩))) rfl (by kernel_rfl) (by kernel_rfl) (by kernel_rfl) (fun _ _ _ h => h) (by rfl) ?_ (by assumption) ?_
    · intro w hSw
      obtain ⟨⟨q0, q1, q2⟩, _⟩ := hSw
      go_simp
    simp only [Act.put, List.setIfInBounds_toArray, List.set_cons_zero, List.set_cons_succ]
    refine take_do (i := 2) (v := (.slice (some ⟨lb, 0, none⟩) n cap)) rfl (by kernel_rfl) (by kernel_rfl) (by kernel_rfl) (fun _ _ _ h => h) (by rfl) ?_ (by assumption) ?_
    · intro w hSw
      obtain ⟨⟨q0, q1, q2⟩, _⟩ := hSw
      go_simp
    simp only [Act.put, List.setIfInBounds_toArray, List.set_cons_zero, List.set_cons_succ]
    refine take_do (i := 3) (v := (.int .i64 q)) rfl (by kernel_rfl) (by kernel_rfl) (by kernel_rfl) (fun _ _ _ h => h) (by rfl) ?_ (by assumption) ?_
    · intro w hSw
      obtain ⟨⟨q0, q1, q2⟩, _⟩ := hSw
      go_simp
    simp only [Act.put, List.setIfInBounds_toArray, List.set_cons_zero, List.set_cons_succ]
    refine take_do (i := 4) (v := (.pointer (some ⟨lb, q * 2, none⟩))) rfl (by kernel_rfl) (by kernel_rfl) (by kernel_rfl) (fun _ _ _ h => h) (by rfl) ?_ (by assumption) ?_
    · intro w hSw
      obtain ⟨⟨q0, q1, q2⟩, _⟩ := hSw
      go_simp
    simp only [Act.put, List.setIfInBounds_toArray, List.set_cons_zero, List.set_cons_succ]
    refine take_do (i := 5) (v := (.pointer (some ⟨lb, q * 2, none⟩))) rfl (by kernel_rfl) (by kernel_rfl) (by kernel_rfl) (fun _ _ _ h => h) (by rfl) ?_ (by assumption) ?_
    · intro w hSw
      obtain ⟨⟨q0, q1, q2⟩, _⟩ := hSw
      go_simp
    simp only [Act.put, List.setIfInBounds_toArray, List.set_cons_zero, List.set_cons_succ]
    refine take_do (i := 6) (v := (.int .i64 x0)) rfl (by kernel_rfl) (by kernel_rfl) (by kernel_rfl) (fun _ _ _ h => h) (by rfl) ?_ (by assumption) ?_
    · intro w hSw
      obtain ⟨⟨q0, q1, q2⟩, _⟩ := hSw
      go_simp
    simp only [Act.put, List.setIfInBounds_toArray, List.set_cons_zero, List.set_cons_succ]
    obtain ⟨⟨b0, b1, b2, b3⟩, z0, z1, z2, z3⟩ := rowN4 HBX1.out
    have hol := HBX1.out.lt
    refine take_call (i := 1) rfl (by kernel_rfl) (fun K2 hK => ?_)
    go_simp
    refine hK.out _ _ hHeld (fun hHeld2 => ?_)
    clear hK hHeld
    have hHeld := hHeld2
    clear hHeld2
    refine take_do (i := 7) (v := (.int .i64 csN)) rfl (by kernel_rfl) (by kernel_rfl) (by kernel_rfl) (fun _ _ _ h => h) (by rfl) ?_ (by assumption) ?_
    · intro w hSw
      obtain ⟨⟨q0, q1, q2⟩, _⟩ := hSw
      go_simp
    simp only [Act.put, List.setIfInBounds_toArray, List.set_cons_zero, List.set_cons_succ]
    refine take_do (i := 8) (v := (.pointer (some ⟨g7, 1, none⟩))) rfl (by kernel_rfl) (by kernel_rfl) (by kernel_rfl) (fun _ _ _ h => h) (by rfl) ?_ (by assumption) ?_
    · intro w hSw
      obtain ⟨⟨q0, q1, q2⟩, _⟩ := hSw
      go_simp
    simp only [Act.put, List.setIfInBounds_toArray, List.set_cons_zero, List.set_cons_succ]
    refine take_call (i := 9) rfl (by kernel_rfl) (fun K2 hK => ?_)
    go_simp
    have HS : Hid (OfR w g6 lb pb i q m a7 k7 p x0 x1 (Z1.setCell ⟨g7, 1, none⟩ (.int .i64 csN))) := hHeld.set HBX1.out HG.out 1 _
    have HBX : Hid ((Z1.setCell ⟨g7, 1, none⟩ (.int .i64 csN)).rowIs g7 26 4 (rowN [.slice a7 m k7, .int .i64 csN, .int .i64 woO, .int .i64 0])) := rowN_put HBX1.out 1 _ (by simp)
    generalize Z1.setCell ⟨g7, 1, none⟩ (.int .i64 csN) = Y1 at HS HBX ⊢
    clear b0 b1 b2 b3 z0 z1 z2 z3 hol HBX1
    refine hK.out _ _ HS.out (fun hHeld2 => ?_)
    clear hK hHeld hHeld2
    refine wpAnyH_done (by kernel_rfl) ?_ _
    go_wp2_with fail
    refine wp_region_held_drew (S := fun V => OfR w g6 lb pb i q m a7 k7 p x0 x1 V) (by kernel_rfl) (HS.out.below (Below.refl _ _).drew) (fun hHeld => ?_)
    obtain ⟨Z2, hZ⟩ : ∃ Z, Z = Y1.drew := ⟨_, rfl⟩
    have HBX2 : Hid (Z2.rowIs g7 26 4 (rowN [.slice a7 m k7, .int .i64 csN, .int .i64 woO, .int .i64 0])) := by show World.rowIs _ _ _ _ _; rw [hZ]; exact nrow_below HBX.out (Below.refl _ _).drew
    rw [← hZ] at hHeld ⊢
    clear hZ HS HBX
    refine take_do (i := 0) (v := (.pointer (some ⟨g7, 2, none⟩))) rfl (by kernel_rfl) (by kernel_rfl) (by kernel_rfl) (fun _ _ _ h => h) (by rfl) ?_ (by assumption) ?_
    · intro w hSw
      obtain ⟨⟨q0, q1, q2⟩, _⟩ := hSw
      go_simp
    simp only [Act.put, List.setIfInBounds_toArray, List.set_cons_zero, List.set_cons_succ]
    refine take_do (i := 2) (v := (.slice (some ⟨lb, 0, none⟩) n cap)) rfl (by kernel_rfl) (by kernel_rfl) (by kernel_rfl) (fun _ _ _ h => h) (by rfl) ?_ (by assumption) ?_
    · intro w hSw
      obtain ⟨⟨q0, q1, q2⟩, _⟩ := hSw
      go_simp
    simp only [Act.put, List.setIfInBounds_toArray, List.set_cons_zero, List.set_cons_succ]
    refine take_do (i := 3) (v := (.int .i64 q)) rfl (by kernel_rfl) (by kernel_rfl) (by kernel_rfl) (fun _ _ _ h => h) (by rfl) ?_ (by assumption) ?_
    · intro w hSw
      obtain ⟨⟨q0, q1, q2⟩, _⟩ := hSw
      go_simp
    simp only [Act.put, List.setIfInBounds_toArray, List.set_cons_zero, List.set_cons_succ]
    refine take_do (i := 4) (v := (.pointer (some ⟨lb, q * 2, none⟩))) rfl (by kernel_rfl) (by kernel_rfl) (by kernel_rfl) (fun _ _ _ h => h) (by rfl) ?_ (by assumption) ?_
    · intro w hSw
      obtain ⟨⟨q0, q1, q2⟩, _⟩ := hSw
      go_simp
    simp only [Act.put, List.setIfInBounds_toArray, List.set_cons_zero, List.set_cons_succ]
    refine take_do (i := 5) (v := (.pointer (some ⟨lb, q * 2 + 1, none⟩))) rfl (by kernel_rfl) (by kernel_rfl) (by kernel_rfl) (fun _ _ _ h => h) (by rfl) ?_ (by assumption) ?_
    · intro w hSw
      obtain ⟨⟨q0, q1, q2⟩, _⟩ := hSw
      go_simp
    simp only [Act.put, List.setIfInBounds_toArray, List.set_cons_zero, List.set_cons_succ]
    refine take_do (i := 6) (v := (.int .i64 x1)) rfl (by kernel_rfl) (by kernel_rfl) (by kernel_rfl) (fun _ _ _ h => h) (by rfl) ?_ (by assumption) ?_
    · intro w hSw
      obtain ⟨⟨q0, q1, q2⟩, _⟩ := hSw
      go_simp
    simp only [Act.put, List.setIfInBounds_toArray, List.set_cons_zero, List.set_cons_succ]
    obtain ⟨⟨b0, b1, b2, b3⟩, z0, z1, z2, z3⟩ := rowN4 HBX2.out
    have hol := HBX2.out.lt
    refine take_call (i := 1) rfl (by kernel_rfl) (fun K2 hK => ?_)
    go_simp
    refine hK.out _ _ hHeld (fun hHeld2 => ?_)
    clear hK hHeld
    have hHeld := hHeld2
    clear hHeld2
    refine take_do (i := 7) (v := (.int .i64 woN)) rfl (by kernel_rfl) (by kernel_rfl) (by kernel_rfl) (fun _ _ _ h => h) (by rfl) ?_ (by assumption) ?_
    · intro w hSw
      obtain ⟨⟨q0, q1, q2⟩, _⟩ := hSw
      go_simp
    simp only [Act.put, List.setIfInBounds_toArray, List.set_cons_zero, List.set_cons_succ]
    refine take_do (i := 8) (v := (.pointer (some ⟨g7, 2, none⟩))) rfl (by kernel_rfl) (by kernel_rfl) (by kernel_rfl) (fun _ _ _ h => h) (by rfl) ?_ (by assumption) ?_
    · intro w hSw
      obtain ⟨⟨q0, q1, q2⟩, _⟩ := hSw
      go_simp
    simp only [Act.put, List.setIfInBounds_toArray, List.set_cons_zero, List.set_cons_succ]
    refine take_call (i := 9) rfl (by kernel_rfl) (fun K2 hK => ?_)
    go_simp
    have HS : Hid (OfR w g6 lb pb i q m a7 k7 p x0 x1 (Z2.setCell ⟨g7, 2, none⟩ (.int .i64 woN))) := hHeld.set HBX2.out HG.out 2 _
    have HBX : Hid ((Z2.setCell ⟨g7, 2, none⟩ (.int .i64 woN)).rowIs g7 26 4 (rowN [.slice a7 m k7, .int .i64 csN, .int .i64 woN, .int .i64 0])) := rowN_put HBX2.out 2 _ (by simp)
    generalize Z2.setCell ⟨g7, 2, none⟩ (.int .i64 woN) = Y2 at HS HBX ⊢
    clear b0 b1 b2 b3 z0 z1 z2 z3 hol HBX2
    refine hK.out _ _ HS.out (fun hHeld2 => ?_)
    clear hK hHeld hHeld2
    refine wpAnyH_done (by kernel_rfl) ?_ _
    go_wp2_with fail
    go_roundw
    case rel => exact ⟨i + 1, by omega, by go_num, by rw [← HCN.out, ← HWN.out]; exact HBX.out, ⟨HS.out.2.1, HS.out.2.2.1, HS.out.2.2.2.1⟩⟩
    case measure => simp [intOf]; omega
end Go.Proofs.YtbkpedcabbppbaaDoor
