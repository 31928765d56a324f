/-
  The law FnDryMore, from what its draw is said to keep.
-/
import Derived.Test.YtipmjobhegpdgaaPlDr2
import Derived.Test.YtipmjobhegpdgaaLwAt
namespace Go.Proofs.Ytipmjobhegpdgaa
open Go Go.RowKit Go.Deep

/-- What the draw of a plan and a set keeps. -/
def DrawOk : Prop := ∀ (a : Option Addr) (len cap : Nat) (w : World), Bytes a len w → len ≤ 1048576 → Calls Try.prog 9 #[.slice a len cap] w fun e w' => (∃ (n : Pl.Plan) (la : Option Addr) (lk : Nat) (fa : Option Addr) (fk : Nat) (wa : Option Addr) (wk : Nat) (sa : Option Addr) (m sc : Nat) (f : Nat → Int), e = .returned (.tuple #[plV n la lk fa fk wa wk, .slice sa m sc]) ∧ PlAt n la fa wa w' ∧ PlSmall n ∧ (fa = none → n.sn = 0) ∧ IsAt sa m f w' ∧ m ≤ 1000 ∧ (sa = none → sc = 0)) ∧ Below w.heap.size w w'
set_option maxRecDepth 100000 in
set_option maxHeartbeats 4000000 in
theorem dryMore_law (hdraw : DrawOk) (ca : Option Addr) (cl cc : Nat) (ma : Option Addr) (ml mc : Nat) (w : World) (hc : Bytes ca cl w) (hm : Bytes ma ml w) :
    Calls Try.prog 3 #[.slice ca cl cc, .slice ma ml mc] w fun e w' => e = .returned (.bool true) ∧ Below w.heap.size w w' := by
  have HC := Lib.hid hc
  have HM := Lib.hid hm
  have HDR := Lib.hid hdraw
  clear hc hm hdraw
  by_cases h1 : (1048576 : Int) < (cl : Int)
  · go_enter Try.func3, Try.ntmps3
    go_wp2_with fail
    go_ret
    exact ⟨rfl, Below.refl _ _⟩
  by_cases h2 : (1048576 : Int) < (ml : Int)
  · go_enter Try.func3, Try.ntmps3
    go_wp2_with fail
    go_ret
    exact ⟨rfl, Below.refl _ _⟩
  go_enter Try.func3, Try.ntmps3
  go_wp2_with fail
  refine (HDR.out ca cl cc _ HC.out (by omega)).mono ?_
  rintro e w1 ⟨⟨n, la, lk, fa, fk, wa, wk, sa, m, sc, f, rfl, hP, hsm, hfn, hsh, hm1, hsc⟩, hb1⟩
  obtain ⟨gp, hgp⟩ : ∃ gp, gp = w1.heap.size := ⟨_, rfl⟩
  obtain ⟨W2, hW2⟩ : ∃ W2, W2 = w1.alloc (.cells #[.slice la n.rn lk, .slice fa n.sn fk, .slice wa n.hn wk] 26) := ⟨_, rfl⟩
  have hb2 : Below w1.heap.size w1 W2 := by rw [hW2]; exact nbel_alloc _ _
  have HB2 : Hid (Below w.heap.size w W2) := hb1.trans (hb2.mono hb1.size)
  have HG : Hid (w.heap.size ≤ gp) := by show _ ≤ _; rw [hgp]; exact hb1.size
  have HP := Lib.hid (hP.below hb2)
  have HSH := Lib.hid (hsh.below hb2)
  have HSM := Lib.hid hsm
  have HFN := Lib.hid hfn
  have HSC := Lib.hid hsc
  have HR2 : Hid (W2.rowIs gp 26 3 (rowN (plL n la lk fa fk wa wk))) := by show World.rowIs _ _ _ _ _; rw [hW2, hgp]; exact rowN_alloc _ _ _
  have HW2 := Lib.hid hW2
  clear hW2 hP hsh hb1 hb2 hsm hfn hsc
  go_wp2_with fail
  rw [← HW2.out, ← hgp]
  clear hgp
  refine (specPlan_any n la lk fa fk wa wk _ HP.out HSM.out).mono ?_
  rintro e w3 ⟨rfl, hb3⟩
  have HB3 : Hid (Below w.heap.size w w3) := HB2.out.trans (hb3.mono HB2.out.size)
  have HR3 := Lib.hid (nrow_below HR2.out hb3)
  have HP3 := Lib.hid (HP.out.below hb3)
  have HSH3 := Lib.hid (HSH.out.below hb3)
  clear hb3 HB2 HR2 HW2 HP HSH
  obtain ⟨⟨p0, p1, p2⟩, _⟩ := rowN3 HR3.out
  by_cases c2 : Pl.Right n
  case neg =>
    rw [dB_ff c2]
    clear c2
    go_wp2_with fail
    go_ret
    exact ⟨rfl, HB3.out⟩
  rw [dB_tt c2]
  have HRT := Lib.hid c2
  have hrn := c2.r
  have hhn := c2.h2
  clear c2
  by_cases c3 : n.rn = 0
  · have e3 : ((n.rn : Int) == 0) = true := by simp [c3]
    go_wp2_with fail
    go_ret
    exact ⟨rfl, HB3.out⟩
  have e3 : ((n.rn : Int) == 0) = false := by simp [c3]
  have hmv : ∃ mv : Nat → Int, ∀ i, i < 101 → ∀ wx, Below w.heap.size w wx → Calls Try.prog 12 #[.slice ma ml mc, .int .i64 (i : Nat), .int .i64 3] wx fun e w' => e = .returned (.int .i64 (mv i)) ∧ w' = wx := by
    have h := fun i : Nat => fun hi : i < 101 => lwAt_val ma ml mc (i : Int) 3 w HM.out (by omega) (by omega) (by omega) (by omega) (by omega)
    refine ⟨fun i => if hi : i < 101 then Classical.choose (h i hi) else 0, fun i hi wx hb => ?_⟩
    have h2 := (Classical.choose_spec (h i hi)).2.2.2 wx hb
    simp only [hi, dif_pos]
    exact h2
  obtain ⟨mv, hmv⟩ := hmv
  have HMV := Lib.hid hmv
  obtain ⟨mo, hmo⟩ : ∃ mo : Nat → Bool, mo = fun i => mv i == 1 := ⟨_, rfl⟩
  have HMO := Lib.hid hmo
  clear hmv hmo
  obtain ⟨W4, hW4⟩ : ∃ W4, W4 = w3.alloc (.cells #[] 2) := ⟨_, rfl⟩
  have hb4 : Below w3.heap.size w3 W4 := by rw [hW4]; exact nbel_alloc _ _
  have HO4 : Hid (W4.ownsRow w3.heap.size 2 1 (.slice (some ⟨w3.heap.size, 0, none⟩) (Pl.bothL n m f mo 0).length 0) (Pl.bothL n m f mo 0).length (numsV (Pl.bothL n m f mo 0))) := by
    show World.ownsRow _ _ _ _ _ _ _
    rw [hW4]
    have := World.ownsRow_made (base := w3.heap.size) (e := 2) (size := 1) w3 #[] 0 (Nat.le_refl _) (Nat.zero_le _) rfl
    have e0 : Pl.bothL n m f mo 0 = [] := rfl
    rw [e0]
    simpa using this
  have HB4 := Lib.hid hb4
  have HW4 := Lib.hid hW4
  obtain ⟨i1, hi1, hy0, hy1, hy2⟩ := info_parts yinfo_i64
  have HPI := Lib.hid (And.intro hi1 (And.intro hy0 (And.intro hy1 hy2)))
  clear hW4 hb4 hi1 hy0 hy1 hy2
  go_wp2_with fail
  rw [← HW4.out]
  clear p0 p1 p2 HW4
  go_loopw [7, 8] (fun bv iv wr => ∃ (i : Nat) (ba : Option Addr) (bc : Nat), i ≤ n.rn ∧ iv = .int .i64 i ∧ bv = .slice ba (Pl.bothL n m f mo i).length bc ∧ Hid (wr.ownsRow w3.heap.size 2 1 (.slice ba (Pl.bothL n m f mo i).length bc) (Pl.bothL n m f mo i).length (numsV (Pl.bothL n m f mo i))) ∧ Hid (Below w3.heap.size w3 wr)) (fun _ iv _ => n.rn - (intOf iv).toNat)
  case atStart => exact ⟨0, _, _, Nat.zero_le _, rfl, rfl, HO4, HB4⟩
  case round =>
    obtain ⟨i, ba, bc, hi, rfl, rfl, hO, hB⟩ := hrel
    clear HO4 HB4
    have hwr : Below w.heap.size w wr := HB3.out.trans (hB.out.mono HB3.out.size)
    have HWR := Lib.hid hwr
    clear hwr
    obtain ⟨⟨p0, p1, p2⟩, _⟩ := rowN3 (nrow_below HR3.out hB.out)
    by_cases hlt : i < n.rn
    · have hltz : (i : Int) < (n.rn : Int) := by omega
      obtain ⟨b, e, c0, c1, c2⟩ := (HP3.out.below hB.out).l.at3 hlt
      subst e
      have hll := Pl.bothL_len (n := n) (m := m) (f := f) (mo := mo) (i := i)
      have hsz := hB.out.size
      have hab := Pl.bothL_in (n := n) (m := m) (f := f) (mo := mo) (i := i)
      have hab2 := Pl.bothL_out (n := n) (m := m) (f := f) (mo := mo) (i := i)
      have HAB := Lib.hid (And.intro hab hab2)
      clear hab hab2
      obtain ⟨hi1, hy0, hy1, hy2⟩ := HPI.out
      go_wp2_with fail
      refine (mhas_any sa m sc f (i : Nat) _ (HSH3.out.below hB.out) (by omega)).mono ?_
      rintro e w5 ⟨rfl, rfl⟩
      by_cases hin : Pl.In m f i
      · have hin' : Pl.Has m f ((i : Nat) : Int) := hin
        rw [dB_tt hin']
        have HST : Hid (Pl.bothL n m f mo (i + 1) = Pl.bothL n m f mo i ++ [i]) := HAB.out.1 (by rw [dB_tt hin]; rfl)
        clear hin hin'
        go_wp2_with (at_builtin; refine wpList_append_own_at _ rfl _ _ 24 rfl w3.heap.size 2 i1 _ 1 8 Try.underlying24 hi1 hy0 hy1 hy2 rfl (by decide) _ _ _ rfl (hO.out.alloc _) ⟨w5.heap.size, 0, none⟩ 1 1 [.int .i64 (i : Nat)] rfl rfl ?d1 ?d2 ?d3 ?d4 ?d5 ?_)
        case d1 =>
          intro q x hq
          match q, hq with
          | 0, hq =>
            simp at hq
            subst hq
            exact (rowN_alloc w5 [.int .i64 (i : Nat)] 2).cell (i := 0) (by simp)
        case d2 =>
          intro x hx
          simp at hx
          subst hx
          rfl
        case d3 => unfold maxLen; omega
        case d4 => omega
        case d5 => simp; omega
        intro v5 W5 hown hgrow hnil hat
        have HB5 : Hid (Below w3.heap.size w3 W5) := (hB.out.alloc hB.out.size _).grown hgrow (by simp; omega) (fun k e => (hO.out.lt k e).1)
        have HO5 : Hid (W5.ownsRow w3.heap.size 2 1 v5 (Pl.bothL n m f mo (i + 1)).length (numsV (Pl.bothL n m f mo (i + 1)))) := by
          rw [HST.out, List.length_append]
          have e1 : numsV (Pl.bothL n m f mo i ++ [i]) = numsV (Pl.bothL n m f mo i) ++ [.int .i64 (i : Nat)] := by simp [numsV]
          rw [e1]
          exact hown
        obtain ⟨a5, k5, e5, _⟩ := own_at HO5.out
        subst e5
        clear hown hgrow hnil hat hO hB p0 p1 p2 c0 c1 c2
        go_wp2_with fail
        go_roundw
        case rel => exact ⟨i + 1, a5, k5, by omega, by go_num, rfl, HO5, HB5⟩
        case measure => simp [intOf]; omega
      have hin' : ¬ Pl.Has m f ((i : Nat) : Int) := hin
      rw [dB_ff hin']
      cases hv : n.R (i * 3 + 2) == 1 with
      | false =>
        have HST : Hid (Pl.bothL n m f mo (i + 1) = Pl.bothL n m f mo i) := HAB.out.2 (by rw [dB_ff hin, hv]; rfl)
        clear hin hin'
        go_wp2_with fail
        go_roundw
        case rel => exact ⟨i + 1, ba, bc, by omega, by go_num, by rw [HST.out], by rw [HST.out]; exact hO, hB⟩
        case measure => simp [intOf]; omega
      | true =>
        go_wp2_with fail
        refine (HMV.out i (by omega) _ HWR.out).mono ?_
        rintro e w6 ⟨rfl, rfl⟩
        cases hmi : mv i == 1 with
        | false =>
          have HST : Hid (Pl.bothL n m f mo (i + 1) = Pl.bothL n m f mo i) := HAB.out.2 (by rw [dB_ff hin, hv, HMO.out]; simp only [hmi]; rfl)
          clear hin hin'
          go_wp2_with fail
          go_roundw
          case rel => exact ⟨i + 1, ba, bc, by omega, by go_num, by rw [HST.out], by rw [HST.out]; exact hO, hB⟩
          case measure => simp [intOf]; omega
        | true =>
          have HST : Hid (Pl.bothL n m f mo (i + 1) = Pl.bothL n m f mo i ++ [i]) := HAB.out.1 (by rw [hv, HMO.out]; simp only [hmi]; simp)
          clear hin hin'
          go_wp2_with (at_builtin; refine wpList_append_own_at _ rfl _ _ 24 rfl w3.heap.size 2 i1 _ 1 8 Try.underlying24 hi1 hy0 hy1 hy2 rfl (by decide) _ _ _ rfl (hO.out.alloc _) ⟨w6.heap.size, 0, none⟩ 1 1 [.int .i64 (i : Nat)] rfl rfl ?d1 ?d2 ?d3 ?d4 ?d5 ?_)
          case d1 =>
            intro q x hq
            match q, hq with
            | 0, hq =>
              simp at hq
              subst hq
              exact (rowN_alloc w6 [.int .i64 (i : Nat)] 2).cell (i := 0) (by simp)
          case d2 =>
            intro x hx
            simp at hx
            subst hx
            rfl
          case d3 => unfold maxLen; omega
          case d4 => omega
          case d5 => simp; omega
          intro v5 W5 hown hgrow hnil hat
          have HB5 : Hid (Below w3.heap.size w3 W5) := (hB.out.alloc hB.out.size _).grown hgrow (by simp; omega) (fun k e => (hO.out.lt k e).1)
          have HO5 : Hid (W5.ownsRow w3.heap.size 2 1 v5 (Pl.bothL n m f mo (i + 1)).length (numsV (Pl.bothL n m f mo (i + 1)))) := by
            rw [HST.out, List.length_append]
            have e1 : numsV (Pl.bothL n m f mo i ++ [i]) = numsV (Pl.bothL n m f mo i) ++ [.int .i64 (i : Nat)] := by simp [numsV]
            rw [e1]
            exact hown
          obtain ⟨a5, k5, e5, _⟩ := own_at HO5.out
          subst e5
          clear hown hgrow hnil hat hO hB p0 p1 p2 c0 c1 c2
          go_wp2_with fail
          go_roundw
          case rel => exact ⟨i + 1, a5, k5, by omega, by go_num, rfl, HO5, HB5⟩
          case measure => simp [intOf]; omega
    · obtain rfl : i = n.rn := by omega
      have hll := Pl.bothL_len (n := n) (m := m) (f := f) (mo := mo) (i := n.rn)
      obtain ⟨ba', bc', e, hbo⟩ := own_at hO.out
      cases e
      have HBO := Lib.hid hbo
      have HBC : Hid (ba = none → bc = 0) := fun e => by
        rcases hO.out.2 with ⟨e1, _⟩ | ⟨g, c, cur, e1, _⟩
        · injection e1 with q1 q2 q3
        · injection e1 with q1 q2 q3
          rw [q1] at e; cases e
      clear hbo
      have HPW := Lib.hid (HP3.out.below hB.out)
      have HSW := Lib.hid (HSH3.out.below hB.out)
      have HRW := Lib.hid (nrow_below HR3.out hB.out)
      clear HP3 HSH3 HR3 hB hO HB3
      obtain ⟨LA, hLA⟩ : ∃ LA, LA = Pl.dry n m f := ⟨_, rfl⟩
      obtain ⟨LB, hLB⟩ : ∃ LB, LB = Pl.dry n (Pl.bothL n m f mo n.rn).length (fun j => (((Pl.bothL n m f mo n.rn).getD j 0 : Nat) : Int)) := ⟨_, rfl⟩
      have HLA := Lib.hid hLA
      have HLB := Lib.hid hLB
      clear hLA hLB
      go_wp2_with fail
      refine wp_region_held_drew (S := fun V => Below wr.heap.size wr V) (by kernel_rfl) (Below.refl _ _).drew (fun hHeld => ?_)
      obtain ⟨Z, hZ⟩ : ∃ Z, Z = wr.drew := ⟨_, rfl⟩
      rw [← hZ] at hHeld ⊢
      clear hZ
      refine take_do (i := 0) (v := (plV n la lk fa fk wa wk)) rfl (by kernel_rfl) (by kernel_rfl) (by kernel_rfl) (fun _ _ _ h => h) (by rfl) ?_ (by assumption) ?_
      · intro w hSw
        have hc_p0 := (hSw.cell (World.block_lt_of_cell? _ _ p0)).trans p0
        have hc_p1 := (hSw.cell (World.block_lt_of_cell? _ _ p1)).trans p1
        have hc_p2 := (hSw.cell (World.block_lt_of_cell? _ _ p2)).trans p2
        go_simp
      simp only [Act.put, List.setIfInBounds_toArray, List.set_cons_zero, List.set_cons_succ]
      refine take_do (i := 1) (v := (.slice sa m sc)) rfl (by kernel_rfl) (by kernel_rfl) (by kernel_rfl) (fun _ _ _ h => h) (by rfl) ?_ (by assumption) ?_
      · intro w hSw
        skip
        go_simp
      simp only [Act.put, List.setIfInBounds_toArray, List.set_cons_zero, List.set_cons_succ]
      refine take_call (i := 2) rfl (by kernel_rfl) (fun K2 hK => ?_)
      go_simp
      refine (mcopy_any sa m sc f _ (HSW.out.below hHeld) hm1 HSC.out).mono ?_
      rintro e Z1 ⟨⟨g1, k1, rfl, _, hx⟩, hb⟩
      have HX := Lib.hid hx
      go_wp2_with fail
      refine hK.out _ _ (hHeld.trans (hb.mono hHeld.size)) (fun hHeld2 => ?_)
      clear hK hHeld
      have hHeld := hHeld2
      clear hHeld2
      clear hb hx
      refine take_call (i := 3) rfl (by kernel_rfl) (fun K2 hK => ?_)
      go_simp
      refine (implDry_any n la lk fa fk wa wk _ m k1 f _ (HPW.out.below hHeld) HSM.out HX.out (by omega) HFN.out).mono ?_
      rintro e Z2 ⟨⟨v, rfl, hv⟩, hb⟩
      rw [← HLA.out] at hv
      obtain ⟨aa, ac, e, hat⟩ := own_at hv
      subst e
      have HAA := Lib.hid hat
      go_wp2_with fail
      refine hK.out _ _ (hHeld.trans (hb.mono hHeld.size)) (fun hHeld2 => ?_)
      clear hK hHeld
      have hHeld := hHeld2
      clear hHeld2
      clear hb hv hat HX
      refine take_do (i := 4) (v := (.slice aa LA.length ac)) rfl (by kernel_rfl) (by kernel_rfl) (by kernel_rfl) (fun _ _ _ h => h) (by rfl) ?_ (by assumption) ?_
      · intro w hSw
        skip
        go_simp
      simp only [Act.put, List.setIfInBounds_toArray, List.set_cons_zero, List.set_cons_succ]
      refine wpAnyH_done (by kernel_rfl) ?_ _
      have HZ2 := Lib.hid hHeld
      have HPW2 := Lib.hid (HPW.out.below hHeld)
      have HSW2 := Lib.hid (HSW.out.below hHeld)
      have HRW2 := Lib.hid (nrow_below HRW.out hHeld)
      have HBO2 := Lib.hid (HBO.out.below hHeld)
      have HWR2 : Hid (Below w.heap.size w Z2) := HWR.out.trans (hHeld.mono HWR.out.size)
      clear hHeld HPW HSW HRW HBO HWR HZ2 p0 p1 p2
      obtain ⟨⟨p0, p1, p2⟩, _⟩ := rowN3 HRW2.out
      go_wp2_with fail
      refine wp_region_held_drew (S := fun V => Below Z2.heap.size Z2 V) (by kernel_rfl) (Below.refl _ _).drew (fun hHeld => ?_)
      obtain ⟨Z, hZ⟩ : ∃ Z, Z = Z2.drew := ⟨_, rfl⟩
      rw [← hZ] at hHeld ⊢
      clear hZ
      refine take_do (i := 0) (v := (plV n la lk fa fk wa wk)) rfl (by kernel_rfl) (by kernel_rfl) (by kernel_rfl) (fun _ _ _ h => h) (by rfl) ?_ (by assumption) ?_
      · intro w hSw
        have hc_p0 := (hSw.cell (World.block_lt_of_cell? _ _ p0)).trans p0
        have hc_p1 := (hSw.cell (World.block_lt_of_cell? _ _ p1)).trans p1
        have hc_p2 := (hSw.cell (World.block_lt_of_cell? _ _ p2)).trans p2
        go_simp
      simp only [Act.put, List.setIfInBounds_toArray, List.set_cons_zero, List.set_cons_succ]
      refine take_do (i := 1) (v := (.slice ba (Pl.bothL n m f mo n.rn).length bc)) rfl (by kernel_rfl) (by kernel_rfl) (by kernel_rfl) (fun _ _ _ h => h) (by rfl) ?_ (by assumption) ?_
      · intro w hSw
        skip
        go_simp
      simp only [Act.put, List.setIfInBounds_toArray, List.set_cons_zero, List.set_cons_succ]
      refine take_call (i := 2) rfl (by kernel_rfl) (fun K2 hK => ?_)
      go_simp
      refine (mcopy_any ba _ bc _ _ (HBO2.out.below hHeld) (by omega) HBC.out).mono ?_
      rintro e Z3 ⟨⟨g1, k1, rfl, _, hx⟩, hb⟩
      have HX := Lib.hid hx
      go_wp2_with fail
      refine hK.out _ _ (hHeld.trans (hb.mono hHeld.size)) (fun hHeld2 => ?_)
      clear hK hHeld
      have hHeld := hHeld2
      clear hHeld2
      clear hb hx
      refine take_call (i := 3) rfl (by kernel_rfl) (fun K2 hK => ?_)
      go_simp
      refine (implDry_any n la lk fa fk wa wk _ _ k1 _ _ (HPW2.out.below hHeld) HSM.out HX.out (by omega) HFN.out).mono ?_
      rintro e Z4 ⟨⟨v, rfl, hv⟩, hb⟩
      rw [← HLB.out] at hv
      obtain ⟨bb, bk, e, hat⟩ := own_at hv
      subst e
      have HBB := Lib.hid hat
      go_wp2_with fail
      refine hK.out _ _ (hHeld.trans (hb.mono hHeld.size)) (fun hHeld2 => ?_)
      clear hK hHeld
      have hHeld := hHeld2
      clear hHeld2
      clear hb hv hat HX
      refine take_do (i := 4) (v := (.slice bb LB.length bk)) rfl (by kernel_rfl) (by kernel_rfl) (by kernel_rfl) (fun _ _ _ h => h) (by rfl) ?_ (by assumption) ?_
      · intro w hSw
        skip
        go_simp
      simp only [Act.put, List.setIfInBounds_toArray, List.set_cons_zero, List.set_cons_succ]
      refine wpAnyH_done (by kernel_rfl) ?_ _
      have HPW4 := Lib.hid (HPW2.out.below hHeld)
      have HSW4 := Lib.hid (HSW2.out.below hHeld)
      have HRW4 := Lib.hid (nrow_below HRW2.out hHeld)
      have HBO4 := Lib.hid (HBO2.out.below hHeld)
      have HAA4 := Lib.hid (HAA.out.below hHeld)
      have HWR4 : Hid (Below w.heap.size w Z4) := HWR2.out.trans (hHeld.mono HWR2.out.size)
      clear hHeld HPW2 HSW2 HRW2 HBO2 HWR2 HAA p0 p1 p2
      obtain ⟨⟨p0, p1, p2⟩, _⟩ := rowN3 HRW4.out
      have HLL : Hid (LA.length ≤ 1048576) := by show _ ≤ _; rw [HLA.out]; exact dry_len HSM.out.2.2
      have HLL2 : Hid (LB.length ≤ 1048576) := by show _ ≤ _; rw [HLB.out]; exact dry_len HSM.out.2.2
      go_wp2_with fail
      refine (specDry_any n la lk fa fk wa wk sa m sc f _ HPW4.out HSM.out HSW4.out (by omega)).mono ?_
      rintro e Z5 ⟨⟨v, rfl, hv⟩, hb⟩
      rw [← HLA.out] at hv
      obtain ⟨sa5, sc5, e, hat⟩ := own_at hv
      subst e
      have HSP := Lib.hid hat
      have HAA5 := Lib.hid (HAA4.out.below hb)
      have HBB5 := Lib.hid (HBB.out.below hb)
      have HPW5 := Lib.hid (HPW4.out.below hb)
      have HSW5 := Lib.hid (HSW4.out.below hb)
      have HRW5 := Lib.hid (nrow_below HRW4.out hb)
      have HBO5 := Lib.hid (HBO4.out.below hb)
      have HWR5 : Hid (Below w.heap.size w Z5) := HWR4.out.trans (hb.mono HWR4.out.size)
      clear hb hv hat HPW4 HSW4 HRW4 HBO4 HWR4 HAA4 HBB p0 p1 p2
      go_wp2_with fail
      refine (msame_same aa sa5 LA.length ac sc5 _ _ HAA5.out HSP.out HLL.out).mono ?_
      rintro e Z6 ⟨rfl, hb⟩
      have HAA6 := Lib.hid (HAA5.out.below hb)
      have HBB6 := Lib.hid (HBB5.out.below hb)
      have HPW6 := Lib.hid (HPW5.out.below hb)
      have HSW6 := Lib.hid (HSW5.out.below hb)
      have HRW6 := Lib.hid (nrow_below HRW5.out hb)
      have HBO6 := Lib.hid (HBO5.out.below hb)
      have HWR6 : Hid (Below w.heap.size w Z6) := HWR5.out.trans (hb.mono HWR5.out.size)
      clear hb HPW5 HSW5 HRW5 HBO5 HWR5 HAA5 HBB5 HSP
      have HSUB : Hid (∀ j, j < LA.length → Pl.Has LB.length (fun j => ((LB.getD j 0 : Nat) : Int)) ((LA.getD j 0 : Nat) : Int)) := fun j hj => by
        have hmem := Pl.getD_mem hj
        have h2 : LA.getD j 0 ∈ LB := by
          rw [HLB.out]
          rw [HLA.out] at hmem ⊢
          exact Pl.dry_more Pl.both_ask (fun ha => Pl.both_in ha.set) hmem
        obtain ⟨k, hk, e⟩ := List.getElem_of_mem h2
        exact ⟨k, hk, by show ((LB.getD k 0 : Nat) : Int) = _; rw [List.getD_eq_getElem?_getD, List.getElem?_eq_getElem hk]; exact congrArg (fun z : Nat => (z : Int)) e⟩
      go_wp2_with fail
      go_loopw [11] (fun iv wr => ∃ (i : Nat), i ≤ LA.length ∧ iv = .int .i64 i ∧ Hid (Below Z6.heap.size Z6 wr)) (fun iv _ => LA.length - (intOf iv).toNat)
      case atStart => exact ⟨0, Nat.zero_le _, rfl, Below.refl _ _⟩
      case round =>
        obtain ⟨i, hi, rfl, hB⟩ := hrel
        by_cases hlt : i < LA.length
        · have hltz : (i : Int) < (LA.length : Int) := by omega
          have hL := HLL.out
          obtain ⟨b1, e, ca1⟩ := (HAA6.out.below hB.out).at1 hlt
          subst e
          have hh := HSUB.out i hlt
          generalize LA.getD i 0 = x at *
          go_wp2_with fail
          refine (mhas_any bb LB.length bk _ (x : Int) _ (HBB6.out.below hB.out) HLL2.out).mono ?_
          rintro e w8 ⟨rfl, rfl⟩
          rw [dB_tt hh]
          go_wp2_with fail
          go_roundw
          case rel => exact ⟨i + 1, by omega, by go_num, hB⟩
          case measure => simp [intOf]; omega
        · obtain rfl : i = LA.length := by omega
          obtain ⟨⟨p0, p1, p2⟩, _⟩ := rowN3 (nrow_below HRW6.out hB.out)
          obtain ⟨y1, hy1⟩ : ∃ y1, y1 = Pl.homes n m f := ⟨_, rfl⟩
          obtain ⟨y2, hy2⟩ : ∃ y2, y2 = Pl.homes n (Pl.bothL n m f mo n.rn).length (fun j => (((Pl.bothL n m f mo n.rn).getD j 0 : Nat) : Int)) := ⟨_, rfl⟩
          have hle : y1 ≤ y2 := by rw [hy1, hy2]; exact Pl.homes_more Pl.both_ask (fun ha => Pl.both_in ha.set) HRT.out
          have HY1 := Lib.hid hy1
          have HY2 := Lib.hid hy2
          have HLE := Lib.hid hle
          have HPW7 := Lib.hid (HPW6.out.below hB.out)
          have HSW7 := Lib.hid (HSW6.out.below hB.out)
          have HBO7 := Lib.hid (HBO6.out.below hB.out)
          have HWR7 : Hid (Below w.heap.size w wr) := HWR6.out.trans (hB.out.mono HWR6.out.size)
          clear hy1 hy2 hle HPW6 HSW6 HBO6 HWR6
          go_wp2_with fail
          refine wp_region_held_drew (S := fun V => Below wr.heap.size wr V) (by kernel_rfl) (Below.refl _ _).drew (fun hHeld => ?_)
          obtain ⟨Z, hZ⟩ : ∃ Z, Z = wr.drew := ⟨_, rfl⟩
          rw [← hZ] at hHeld ⊢
          clear hZ
          refine take_do (i := 0) (v := (plV n la lk fa fk wa wk)) rfl (by kernel_rfl) (by kernel_rfl) (by kernel_rfl) (fun _ _ _ h => h) (by rfl) ?_ (by assumption) ?_
          · intro w hSw
            have hc_p0 := (hSw.cell (World.block_lt_of_cell? _ _ p0)).trans p0
            have hc_p1 := (hSw.cell (World.block_lt_of_cell? _ _ p1)).trans p1
            have hc_p2 := (hSw.cell (World.block_lt_of_cell? _ _ p2)).trans p2
            go_simp
          simp only [Act.put, List.setIfInBounds_toArray, List.set_cons_zero, List.set_cons_succ]
          refine take_do (i := 1) (v := (.slice sa m sc)) rfl (by kernel_rfl) (by kernel_rfl) (by kernel_rfl) (fun _ _ _ h => h) (by rfl) ?_ (by assumption) ?_
          · intro w hSw
            skip
            go_simp
          simp only [Act.put, List.setIfInBounds_toArray, List.set_cons_zero, List.set_cons_succ]
          refine take_do (i := 4) (v := (plV n la lk fa fk wa wk)) rfl (by kernel_rfl) (by kernel_rfl) (by kernel_rfl) (fun _ _ _ h => h) (by rfl) ?_ (by assumption) ?_
          · intro w hSw
            have hc_p0 := (hSw.cell (World.block_lt_of_cell? _ _ p0)).trans p0
            have hc_p1 := (hSw.cell (World.block_lt_of_cell? _ _ p1)).trans p1
            have hc_p2 := (hSw.cell (World.block_lt_of_cell? _ _ p2)).trans p2
            go_simp
          simp only [Act.put, List.setIfInBounds_toArray, List.set_cons_zero, List.set_cons_succ]
          refine take_do (i := 5) (v := (.slice ba (Pl.bothL n m f mo n.rn).length bc)) rfl (by kernel_rfl) (by kernel_rfl) (by kernel_rfl) (fun _ _ _ h => h) (by rfl) ?_ (by assumption) ?_
          · intro w hSw
            skip
            go_simp
          simp only [Act.put, List.setIfInBounds_toArray, List.set_cons_zero, List.set_cons_succ]
          refine take_call (i := 2) rfl (by kernel_rfl) (fun K2 hK => ?_)
          go_simp
          refine (mcopy_any sa m sc f _ (HSW7.out.below hHeld) hm1 HSC.out).mono ?_
          rintro e V1 ⟨⟨g1, k1, rfl, _, hx⟩, hb⟩
          have HX := Lib.hid hx
          go_wp2_with fail
          refine hK.out _ _ (hHeld.trans (hb.mono hHeld.size)) (fun hHeld2 => ?_)
          clear hK hHeld
          have hHeld := hHeld2
          clear hHeld2
          clear hb hx
          refine take_call (i := 3) rfl (by kernel_rfl) (fun K2 hK => ?_)
          go_simp
          refine (implHomes_any n la lk fa fk wa wk _ m k1 f _ (HPW7.out.below hHeld) HSM.out HX.out (by omega) HFN.out).mono ?_
          rintro e V2 ⟨rfl, hb⟩
          rw [← HY1.out]
          go_wp2_with fail
          refine hK.out _ _ (hHeld.trans (hb.mono hHeld.size)) (fun hHeld2 => ?_)
          clear hK hHeld
          have hHeld := hHeld2
          clear hHeld2
          clear hb HX
          refine take_call (i := 6) rfl (by kernel_rfl) (fun K2 hK => ?_)
          go_simp
          refine (mcopy_any ba _ bc _ _ (HBO7.out.below hHeld) (by omega) HBC.out).mono ?_
          rintro e V3 ⟨⟨g1, k1, rfl, _, hx⟩, hb⟩
          have HX := Lib.hid hx
          go_wp2_with fail
          refine hK.out _ _ (hHeld.trans (hb.mono hHeld.size)) (fun hHeld2 => ?_)
          clear hK hHeld
          have hHeld := hHeld2
          clear hHeld2
          clear hb hx
          refine take_call (i := 7) rfl (by kernel_rfl) (fun K2 hK => ?_)
          go_simp
          refine (implHomes_any n la lk fa fk wa wk _ _ k1 _ _ (HPW7.out.below hHeld) HSM.out HX.out (by omega) HFN.out).mono ?_
          rintro e V4 ⟨rfl, hb⟩
          rw [← HY2.out]
          go_wp2_with fail
          refine hK.out _ _ (hHeld.trans (hb.mono hHeld.size)) (fun hHeld2 => ?_)
          clear hK hHeld
          have hHeld := hHeld2
          clear hHeld2
          clear hb HX
          refine take_do (i := 8) (v := (.bool (decide (y1 ≤ y2)))) rfl (by kernel_rfl) (by kernel_rfl) (by kernel_rfl) (fun _ _ _ h => h) (by rfl) ?_ (by assumption) ?_
          · intro w hSw
            skip
            go_simp
          simp only [Act.put, List.setIfInBounds_toArray, List.set_cons_zero, List.set_cons_succ]
          refine take_do (i := 9) (v := (.bool (decide (y1 ≤ y2)))) rfl (by kernel_rfl) (by kernel_rfl) (by kernel_rfl) (fun _ _ _ h => h) (by rfl) ?_ (by assumption) ?_
          · intro w hSw
            skip
            go_simp
          simp only [Act.put, List.setIfInBounds_toArray, List.set_cons_zero, List.set_cons_succ]
          refine wpAnyH_done (by kernel_rfl) ?_ _
          have HFIN : Hid (Below w.heap.size w V4) := HWR7.out.trans (hHeld.mono HWR7.out.size)
          clear hHeld
          go_wp2_with fail
          go_ret
          exact ⟨by rw [show decide (y1 ≤ y2) = true by simp [HLE.out]]; rfl, HFIN.out⟩
end Go.Proofs.Ytipmjobhegpdgaa
