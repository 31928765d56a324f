/-
  The law FnRenewYears.
-/
import Derived.Test.YtbkpedcabbppbaaDoorRnLw
import Derived.Test.YtbkpedcabbppbaaDoorRnLawF
import Derived.Test.YtbkpedcabbppbaaDoorRnY3
namespace Go.Proofs.YtbkpedcabbppbaaDoor
open Go.RowKit Go.Deep

theorem ro_code (cs wo cd : Int) (n : Nat) (a : Option Addr) (c : Nat) (w : World) : (Instr.field 26 (roV cs wo cd n a c) 3).run Tryd.prog w = .ok (.int .i64 cd) w := by kernel_rfl
set_option maxRecDepth 100000 in
set_option maxHeartbeats 16000000 in
theorem renewYears_fn (w : World) (a : Option Addr) (len cap : Nat) (h : Bytes a len w) (hl9 : len ≤ 9223372036854775807) (hg : Et w) :
    Calls Tryd.prog 6 #[.slice a len cap] w fun e w' => e = .returned (.bool true) ∧ Below w.heap.size w w' := by
  by_cases hbig : (1048576 : Int) < (len : Int)
  · have hl8 : (len : Int) ≤ 9223372036854775807 := by omega
    clear h
    go_enter Tryd.func6, Tryd.ntmps6
    go_wp2_with fail
    go_ret
    exact ⟨rfl, Below.refl _ _⟩
  have H := Lib.hid h
  have HET := Lib.hid hg
  have HB : Hid (Below w.heap.size w w) := Below.refl _ _
  clear h hg
  obtain ⟨i1, hi1, hy0, hy1, hy2⟩ := info_parts rinfo_as2
  obtain ⟨i2, hi2, hx0, hx1, hx2⟩ := info_parts roinfo
  go_enter Tryd.func6, Tryd.ntmps6
  go_wp2_with fail
  refine (drawRY_any a len cap _ H.out (by omega)).mono ?_
  rintro e w1 ⟨⟨lg, n, lc, F, pa, m, pc, p, rfl, hn, hI, hm, hP, hPN⟩, hb⟩
  replace HB : Hid (Below w.heap.size w w1) := HB.out.trans (hb.mono HB.out.size)
  have LI := Lib.hid hI
  have PI := Lib.hid hP
  clear hb
  have HPN : Hid (pa = none → pc = 0) := fun e => (hPN e).2
  clear hI hP hPN H hbig
  obtain ⟨M, hM⟩ : ∃ M, M = Rn.ym n F m p := ⟨_, rfl⟩
  have HM := Lib.hid hM
  have IMY : Hid (∀ ca cc pg pk V, IsAt ca (n * 2) F V → IsAt (some ⟨pg, 0, none⟩) m p V → Calls Tryd.prog 28 #[.slice ca n cc, .slice (some ⟨pg, 0, none⟩) m pk] V fun e w' => YrEnd V.heap.size M (Rn.own F n p) e w' ∧ Below V.heap.size V w') := fun ca cc pg pk V q q2 => by rw [hM]; exact implYears_any ca n cc F _ m pk p V q (by omega) q2 (by omega)
  clear hM
  go_wp2_with fail
  refine (specYears_any _ n lc F pa m pc p _ LI.out (by omega) PI.out (by omega)).mono ?_
  rintro e w2 ⟨⟨a0, k0, rfl, _⟩, hb⟩
  replace HB : Hid (Below w.heap.size w w2) := HB.out.trans (hb.mono HB.out.size)
  replace LI := Lib.hid (LI.out.below hb)
  replace PI := Lib.hid (PI.out.below hb)
  clear hb
  rw [← HM.out]
  by_cases hM0 : M = 0
  · have hMb : ((M : Int) == 0) = true := by simp [hM0]
    go_upto_region 5 with fail
    clear hMb
    go_wp2_with (at_builtin; refine wpList_append_own _ rfl _ _ 28 rfl w2.heap.size 53 i1 (.agg #[.int .i64 0, .int .i64 0]) 2 16 Tryd.underlying28 hi1 hy0 hy1 hy2 rfl (by decide) _ _ _ rfl (World.ownsRow_made w2 #[] 0 (Nat.le_refl _) (Nat.zero_le _) rfl) ⟨lg, 0, none⟩ n lc (Rn.asVs F (List.range n)) rfl ?q1 ?q2 asVs_one ?q4 ?q5 ?q6 ?_)
    case q1 => rw [asVs_len, List.length_range]
    case q2 => exact as_cells (LI.out.below (nbel_alloc _ _))
    case q4 => unfold maxLen; omega
    case q5 => omega
    case q6 => simp
    intro v' w3 hown hgrow hnil
    obtain ⟨⟨ca, cc, rfl, hc⟩, hb0⟩ := as_copy (B := w2.heap.size) (by simp) (by simpa using hown) hgrow (Nat.le_refl _)
    have hb : Below w2.heap.size w2 w3 := (nbel_alloc _ _).trans hb0
    have HC := Lib.hid hc
    replace HB : Hid (Below w.heap.size w w3) := HB.out.trans (hb.mono HB.out.size)
    clear hown hgrow hnil hc hb0
    replace LI := Lib.hid (LI.out.below hb)
    replace PI := Lib.hid (PI.out.below hb)
    clear hb
    go_wp2_with fail
    refine (ncopy_any pa m pc p _ PI.out (by omega) HPN.out).mono ?_
    rintro e w4 ⟨⟨pg, pk, rfl, _, hc⟩, hb⟩
    replace HB : Hid (Below w.heap.size w w4) := HB.out.trans (hb.mono HB.out.size)
    replace LI := Lib.hid (LI.out.below hb)
    replace PI := Lib.hid (PI.out.below hb)
    replace HC := Lib.hid (HC.out.below hb)
    have HCP := Lib.hid hc
    clear hb
    clear hc
    go_wp2_with fail
    refine (IMY.out ca cc pg pk _ HC.out HCP.out).mono ?_
    rintro e w5 ⟨⟨a1, k1, rfl, _⟩, hb⟩
    replace HB : Hid (Below w.heap.size w w5) := HB.out.trans (hb.mono HB.out.size)
    replace LI := Lib.hid (LI.out.below hb)
    replace PI := Lib.hid (PI.out.below hb)
    replace HC := Lib.hid (HC.out.below hb)
    replace HCP := Lib.hid (HCP.out.below hb)
    clear hb
    have hMb : ((M : Int) == 0) = true := by simp [hM0]
    go_wp2_with fail
    go_ret
    exact ⟨rfl, HB.out⟩
  have hMb : ((M : Int) == 0) = false := by simp [hM0]
  have HOK : Hid (Rn.YsOk n F m p) := by
    by_cases q : Rn.YsOk n F m p
    · exact q
    · exact absurd (by rw [HM.out, Rn.ym_no q]) hM0
  have hMm : M = m := by rw [HM.out, Rn.ym_yes HOK.out]
  subst hMm
  have hm20 : M ≤ 20 := HOK.out.2.1
  have hn40 : n ≤ 40 := HOK.out.1.1
  obtain ⟨bg, e, _⟩ := PI.out.at1 (i := 0) (by omega)
  subst e
  clear HM
  have IMO : Hid (∀ i, i < M → ∃ cs wo : Int, ∀ ca cc pg pk V, IsAt ca (n * 2) F V → IsAt (some ⟨pg, 0, none⟩) (Rn.own F n p i).length (Rn.nf (Rn.own F n p i)) V → Et V → Calls Tryd.prog 18 #[.slice ca n cc, .int .i64 (p i), .slice (some ⟨pg, 0, none⟩) (Rn.own F n p i).length pk] V fun e w' => (∃ a2 k2, e = .returned (roV cs wo 0 (Rn.own F n p i).length a2 k2)) ∧ Below V.heap.size V w') := fun i hi => by
    have hl := Rn.own_len F n p i
    have hz := HOK.out.2.2 i hi
    have hc := Rn.own_cost HOK.out.1 p i
    have q := Rn.of_ok (n := n) (f := F) (z := p i) (m := (Rn.own F n p i).length) (p := Rn.nf (Rn.own F n p i)) (by omega) ⟨HOK.out.1, hz, Rn.own_rise HOK.out.1 p i⟩ (by have := hz.1; omega)
    refine ⟨Rn.sm F 0 (Rn.nf (Rn.own F n p i)) (Rn.own F n p i).length, Rn.sm F 1 (Rn.nf (Rn.own F n p i)) (Rn.own F n p i).length, fun ca cc pg pk V q1 q2 t => ?_⟩
    refine (implOf_any ca n cc F (p i) (some ⟨pg, 0, none⟩) _ pk _ V q1 (by omega) q2 (by omega) (fun e => by cases e) t).mono ?_
    rintro e w' ⟨⟨a2, k2, e1, _⟩, hb⟩
    rw [q] at e1
    exact ⟨⟨a2, k2, e1⟩, hb⟩
  have IMB0 : Hid (∃ cs wo : Int, ∀ ca cc V, IsAt ca (n * 2) F V → Et V → Calls Tryd.prog 10 #[.slice ca n cc, .int .i64 (p 0)] V fun e w' => (∃ a2 k2, e = .returned (roV cs wo 0 (Rn.own F n p 0).length a2 k2) ∧ IsAt a2 (Rn.own F n p 0).length (Rn.nf (Rn.own F n p 0)) w') ∧ Below V.heap.size V w') := by
    have hz := HOK.out.2.2 0 (by omega)
    have q : Rn.bs n F (p 0) = ⟨Rn.sm F 0 (Rn.nf (Rn.own F n p 0)) (Rn.own F n p 0).length, Rn.sm F 1 (Rn.nf (Rn.own F n p 0)) (Rn.own F n p 0).length, 0, (Rn.own F n p 0).length, Rn.nf (Rn.own F n p 0)⟩ := by
      rw [Rn.own_zero]
      unfold Rn.bs
      rw [if_neg (by omega), if_pos (dB_tt ⟨HOK.out.1, hz⟩)]
    refine ⟨Rn.sm F 0 (Rn.nf (Rn.own F n p 0)) (Rn.own F n p 0).length, Rn.sm F 1 (Rn.nf (Rn.own F n p 0)) (Rn.own F n p 0).length, fun ca cc V q1 t => ?_⟩
    refine (implBest_any ca n cc F (p 0) V q1 (by omega) t).mono ?_
    rintro e w' ⟨⟨a2, k2, e1, hL⟩, hb⟩
    rw [q] at e1 hL
    have hL := hL.at_
    rw [Nat.mul_one] at hL
    exact ⟨⟨a2, k2, e1, hL⟩, hb⟩
  go_upto_region 6 with fail
  clear hMb
  go_wp2_with (at_builtin; refine wpList_append_own _ rfl _ _ 28 rfl w2.heap.size 53 i1 (.agg #[.int .i64 0, .int .i64 0]) 2 16 Tryd.underlying28 hi1 hy0 hy1 hy2 rfl (by decide) _ _ _ rfl (World.ownsRow_made w2 #[] 0 (Nat.le_refl _) (Nat.zero_le _) rfl) ⟨lg, 0, none⟩ n lc (Rn.asVs F (List.range n)) rfl ?q1 ?q2 asVs_one ?q4 ?q5 ?q6 ?_)
  case q1 => rw [asVs_len, List.length_range]
  case q2 => exact as_cells (LI.out.below (nbel_alloc _ _))
  case q4 => unfold maxLen; omega
  case q5 => omega
  case q6 => simp
  intro v' w3 hown hgrow hnil
  obtain ⟨⟨ca, cc, rfl, hc⟩, hb0⟩ := as_copy (B := w2.heap.size) (by simp) (by simpa using hown) hgrow (Nat.le_refl _)
  have hb : Below w2.heap.size w2 w3 := (nbel_alloc _ _).trans hb0
  have HC := Lib.hid hc
  replace HB : Hid (Below w.heap.size w w3) := HB.out.trans (hb.mono HB.out.size)
  clear hown hgrow hnil hc hb0
  replace LI := Lib.hid (LI.out.below hb)
  replace PI := Lib.hid (PI.out.below hb)
  clear hb
  go_wp2_with fail
  refine (ncopy_any (some ⟨bg, 0, none⟩) M pc p _ PI.out (by omega) HPN.out).mono ?_
  rintro e w4 ⟨⟨pg, pk, rfl, _, hc⟩, hb⟩
  replace HB : Hid (Below w.heap.size w w4) := HB.out.trans (hb.mono HB.out.size)
  replace LI := Lib.hid (LI.out.below hb)
  replace PI := Lib.hid (PI.out.below hb)
  replace HC := Lib.hid (HC.out.below hb)
  have HCP := Lib.hid hc
  clear hb
  clear hc
  go_wp2_with fail
  refine (IMY.out ca cc pg pk _ HC.out HCP.out).mono ?_
  rintro e w5 ⟨⟨ya, yk, rfl, hS⟩, hb⟩
  replace HB : Hid (Below w.heap.size w w5) := HB.out.trans (hb.mono HB.out.size)
  clear HC
  clear HCP
  replace LI := Lib.hid (LI.out.below hb)
  replace PI := Lib.hid (PI.out.below hb)
  clear hb
  obtain ⟨yg, e, _⟩ := hS.at_.one (i := 0) (by omega)
  subst e
  have YN : Hid (∀ i, i < M → ∀ v c, w5.cell? ⟨yg, i, none⟩ = some (.slice v (Rn.own F n p i).length c) → v = none → c = 0) := fun i hi v c hc hv => by
    rcases hS with q | ⟨g, aj, cj, e, _, ⟨K, G, f1, f2, f3⟩, h3, _⟩
    · omega
    · cases e
      have q := (f2.cell (i := i) (by omega)).symm.trans hc
      rw [f3 i hi] at q
      injection q with q
      injection q with q1 _ q3
      rcases h3 i hi with r | ⟨bb, r, _⟩
      · rw [← q3]; exact r.2.2
      · rw [← q1, r] at hv; cases hv
  have YI := Lib.hid hS.at_
  clear hS
  have hMM : ((M : Int) != (M : Int)) = false := by simp
  go_upto_region 10 with fail
  clear hMM
  obtain ⟨V9, hV9⟩ : ∃ V9, V9 = w5.alloc (.cells #[] 2) := ⟨_, rfl⟩
  have hb : Below w5.heap.size w5 V9 := by rw [hV9]; exact nbel_alloc _ _
  have HD0 : Hid (V9.ownsRow w5.heap.size 2 1 (.slice (some ⟨w5.heap.size, 0, none⟩) 0 0) 0 (rnVs [])) := by show World.ownsRow _ _ _ _ _ _ _; rw [hV9]; exact World.ownsRow_made w5 #[] 0 (Nat.le_refl _) (Nat.zero_le _) rfl
  have HV9 := Lib.hid hb
  rw [← hV9]
  clear hV9 hb
  go_wp2_with fail
  try dsimp only
  go_loopw [6, 7, 8] (fun dv iv _ wr => ∃ (i : Nat), i ≤ M ∧ iv = .int .i64 i ∧ Hid (wr.ownsRow w5.heap.size 2 1 dv (Rn.done F n p i).length (rnVs (Rn.done F n p i))) ∧ Hid (Below w5.heap.size w5 wr)) (fun _ iv _ _ => M - (intOf iv).toNat)
  case atStart => exact ⟨0, Nat.zero_le _, rfl, HD0, HV9⟩
  case round =>
    obtain ⟨Q0, hQ0⟩ : ∃ Q0, Q0 = wr := ⟨_, rfl⟩
    subst hQ0
    obtain ⟨i, hi, rfl, hD, hV⟩ := hrel
    clear HD0 HV9
    obtain ⟨da, dc, rfl⟩ := rown_shape hD.out
    have hB : Hid (Below w.heap.size w Q0) := HB.out.trans (hV.out.mono HB.out.size)
    by_cases hlt : i < M
    case neg =>
      obtain rfl : M = i := by omega
      obtain ⟨cs, wo, IMB⟩ := IMB0.out
      replace IMB := Lib.hid IMB
      obtain ⟨yg', e, ra, rc, tc0, hrow⟩ := (YI.out.below hV.out).one (i := 0) (by omega)
      cases e
      obtain ⟨bg', e, tc1⟩ := (PI.out.below hV.out).at1 (i := 0) (by omega)
      cases e
      try simp only at tc0
      obtain ⟨rn, hrn⟩ : ∃ rn, rn = (Rn.own F n p 0).length := ⟨_, rfl⟩
      obtain ⟨rf, hrf⟩ : ∃ rf, rf = Rn.nf (Rn.own F n p 0) := ⟨_, rfl⟩
      obtain ⟨pz, hpz⟩ : ∃ pz, pz = p 0 := ⟨_, rfl⟩
      have hrl : rn ≤ 40 := by rw [hrn]; exact Nat.le_trans (Rn.own_len F n p 0) hn40
      rw [← hrn, ← hrf, ← hpz] at IMB
      rw [← hrn] at tc0 hrow
      rw [← hrf] at hrow
      rw [← hpz] at tc1
      replace LI := Lib.hid (LI.out.below hV.out)
      have TC0 := Lib.hid tc0
      have TC1 := Lib.hid tc1
      have RI := Lib.hid hrow
      clear hrn hrf hpz tc0 tc1 hrow hD hV
      go_wp2_with fail
      refine wp_region_held_drew (S := fun V => Below Q0.heap.size Q0 V) (by kernel_rfl) (Below.refl _ _).drew (fun hHeld => ?_)
      obtain ⟨Z, hZ⟩ : ∃ Z, Z = Q0.drew := ⟨_, rfl⟩
      rw [← hZ] at hHeld ⊢
      clear hZ
      refine take_do (i := 0) (v := (.slice (some ⟨yg, 0, none⟩) M yk)) rfl (by kernel_rfl) (by kernel_rfl) (by kernel_rfl) (fun _ _ _ h => h) (by rfl) ?_ (by assumption) ?_
      · intro w hSw
        have q0 := (hSw.cell (World.block_lt_of_cell? _ _ TC0.out)).trans TC0.out
        have q1 := (hSw.cell (World.block_lt_of_cell? _ _ TC1.out)).trans TC1.out
        go_simp
      simp only [Act.put, List.setIfInBounds_toArray, List.set_cons_zero, List.set_cons_succ]
      refine take_do (i := 1) (v := (.pointer (some ⟨yg, 0, none⟩))) rfl (by kernel_rfl) (by kernel_rfl) (by kernel_rfl) (fun _ _ _ h => h) (by rfl) ?_ (by assumption) ?_
      · intro w hSw
        have q0 := (hSw.cell (World.block_lt_of_cell? _ _ TC0.out)).trans TC0.out
        have q1 := (hSw.cell (World.block_lt_of_cell? _ _ TC1.out)).trans TC1.out
        go_simp
      simp only [Act.put, List.setIfInBounds_toArray, List.set_cons_zero, List.set_cons_succ]
      refine take_do (i := 2) (v := (.slice ra rn rc)) rfl (by kernel_rfl) (by kernel_rfl) (by kernel_rfl) (fun _ _ _ h => h) (by rfl) ?_ (by assumption) ?_
      · intro w hSw
        have q0 := (hSw.cell (World.block_lt_of_cell? _ _ TC0.out)).trans TC0.out
        have q1 := (hSw.cell (World.block_lt_of_cell? _ _ TC1.out)).trans TC1.out
        go_simp
      simp only [Act.put, List.setIfInBounds_toArray, List.set_cons_zero, List.set_cons_succ]
      refine take_do (i := 4) (v := (.slice (some ⟨lg, 0, none⟩) n lc)) rfl (by kernel_rfl) (by kernel_rfl) (by kernel_rfl) (fun _ _ _ h => h) (by rfl) ?_ (by assumption) ?_
      · intro w hSw
        have q0 := (hSw.cell (World.block_lt_of_cell? _ _ TC0.out)).trans TC0.out
        have q1 := (hSw.cell (World.block_lt_of_cell? _ _ TC1.out)).trans TC1.out
        go_simp
      simp only [Act.put, List.setIfInBounds_toArray, List.set_cons_zero, List.set_cons_succ]
      refine take_do (i := 6) (v := (.slice (some ⟨bg, 0, none⟩) M pc)) rfl (by kernel_rfl) (by kernel_rfl) (by kernel_rfl) (fun _ _ _ h => h) (by rfl) ?_ (by assumption) ?_
      · intro w hSw
        have q0 := (hSw.cell (World.block_lt_of_cell? _ _ TC0.out)).trans TC0.out
        have q1 := (hSw.cell (World.block_lt_of_cell? _ _ TC1.out)).trans TC1.out
        go_simp
      simp only [Act.put, List.setIfInBounds_toArray, List.set_cons_zero, List.set_cons_succ]
      refine take_do (i := 7) (v := (.pointer (some ⟨bg, 0, none⟩))) rfl (by kernel_rfl) (by kernel_rfl) (by kernel_rfl) (fun _ _ _ h => h) (by rfl) ?_ (by assumption) ?_
      · intro w hSw
        have q0 := (hSw.cell (World.block_lt_of_cell? _ _ TC0.out)).trans TC0.out
        have q1 := (hSw.cell (World.block_lt_of_cell? _ _ TC1.out)).trans TC1.out
        go_simp
      simp only [Act.put, List.setIfInBounds_toArray, List.set_cons_zero, List.set_cons_succ]
      refine take_do (i := 8) (v := (.int .i64 pz)) rfl (by kernel_rfl) (by kernel_rfl) (by kernel_rfl) (fun _ _ _ h => h) (by rfl) ?_ (by assumption) ?_
      · intro w hSw
        have q0 := (hSw.cell (World.block_lt_of_cell? _ _ TC0.out)).trans TC0.out
        have q1 := (hSw.cell (World.block_lt_of_cell? _ _ TC1.out)).trans TC1.out
        go_simp
      simp only [Act.put, List.setIfInBounds_toArray, List.set_cons_zero, List.set_cons_succ]
      refine wpAnyH_ready (rs := [3]) (by kernel_rfl) (by simp) (AllReadyH.cons (at_drop (i := 3) rfl) (fun K2 hK => ?_) (AllReadyH.nil))
      obtain ⟨Z1, hZ1⟩ : ∃ Z1, Z1 = Z.alloc (.cells #[] 53) := ⟨_, rfl⟩
      have hb : Below Z.heap.size Z Z1 := by rw [hZ1]; exact nbel_alloc _ _
      obtain ⟨gb, hgb⟩ : ∃ gb, gb = Z.heap.size := ⟨_, rfl⟩
      have HBL : Hid (Z1.ownsRow Q0.heap.size 53 2 (.slice (some ⟨gb, 0, none⟩) 0 0) 0 []) := by show World.ownsRow _ _ _ _ _ _ _; rw [hZ1, hgb]; exact World.ownsRow_made Z #[] 0 hHeld.size (Nat.zero_le _) rfl
      have HGB : Hid (Q0.heap.size ≤ gb) := by show _ ≤ _; rw [hgb]; exact hHeld.size
      go_simp
      rw [← hZ1, ← hgb]
      clear hZ1
      refine hK.out _ _ (hHeld.trans (hb.mono hHeld.size)) (fun hHeld2 => ?_)
      clear hgb hb
      clear hK hHeld
      have hHeld := hHeld2
      clear hHeld2
      refine wpAnyH_ready (rs := [5]) (by kernel_rfl) (by simp) (AllReadyH.cons (at_drop (i := 5) rfl) (fun K2 hK => ?_) (AllReadyH.nil))
      refine ap_at rfl (.tmp 94) (.tmp 95) 28 rfl Q0.heap.size 53 i1 (.agg #[.int .i64 0, .int .i64 0]) 2 16 Tryd.underlying28 hi1 hy0 hy1 hy2 rfl (by decide) (.slice (some ⟨gb, 0, none⟩) 0 0) 0 [] rfl HBL.out ⟨lg, 0, none⟩ n lc (Rn.asVs F (List.range n)) rfl (by rw [asVs_len, List.length_range]) (as_cells (LI.out.below hHeld)) asVs_one (by unfold maxLen; omega) (by omega) hHeld.size ?_
      intro v' Z2 hown hgrow hwhere
      obtain ⟨⟨ca, cc, rfl, hc⟩, hb0⟩ := as_copy (B := Q0.heap.size) hHeld.size (by simpa using hown) hgrow HGB.out
      have HC := Lib.hid hc
      refine hK.out _ _ (hHeld.trans hb0) (fun hHeld2 => ?_)
      clear hown hgrow hwhere hc hb0 HBL HGB
      clear hK hHeld
      have hHeld := hHeld2
      clear hHeld2
      simp only [Act.put, List.setIfInBounds_toArray, List.set_cons_zero, List.set_cons_succ]
      refine wpAnyH_ready (rs := [9]) (by kernel_rfl) (by simp) (AllReadyH.cons (at_drop (i := 9) rfl) (fun K2 hK => ?_) (AllReadyH.nil))
      go_simp
      refine (IMB.out ca cc _ HC.out (HET.out.below (hB.out.trans (hHeld.mono hB.out.size)))).mono ?_
      rintro e Z3 ⟨⟨a2, k2, rfl, hq⟩, hb⟩
      have HQ2 := Lib.hid hq
      clear hq
      replace HC := Lib.hid (HC.out.below hb)
      go_wp2_with fail
      refine hK.out _ _ (hHeld.trans (hb.mono hHeld.size)) (fun hHeld2 => ?_)
      clear hb
      clear hK hHeld
      have hHeld := hHeld2
      clear hHeld2
      refine take_do (i := 10) (v := (.slice a2 rn k2)) rfl (by kernel_rfl) (by kernel_rfl) (by kernel_rfl) (fun _ _ _ h => h) (by rfl) ?_ (by assumption) ?_
      · intro w hSw
        have hf := ro_picks2 cs wo 0 rn a2 k2 w
        go_simp
      simp only [Act.put, List.setIfInBounds_toArray, List.set_cons_zero, List.set_cons_succ]
      refine wpAnyH_ready (rs := [11]) (by kernel_rfl) (by simp) (AllReadyH.cons (at_drop (i := 11) rfl) (fun K2 hK => ?_) (AllReadyH.nil))
      go_simp
      refine (nsame_same ra a2 rn rc k2 rf _ (RI.out.below hHeld) HQ2.out (by omega)).mono ?_
      rintro e Z4 ⟨rfl, hb⟩
      go_wp2_with fail
      refine hK.out _ _ (hHeld.trans (hb.mono hHeld.size)) (fun hHeld2 => ?_)
      clear hb
      clear hK hHeld
      have hHeld := hHeld2
      clear hHeld2
      refine take_do (i := 12) (v := (.bool true)) rfl (by kernel_rfl) (by kernel_rfl) (by kernel_rfl) (fun _ _ _ h => h) (by rfl) ?_ (by assumption) ?_
      · intro w hSw
        go_simp
      simp only [Act.put, List.setIfInBounds_toArray, List.set_cons_zero, List.set_cons_succ]
      refine wpAnyH_done (by kernel_rfl) ?_ _
      have HR : Hid (Below Q0.heap.size Q0 Z4) := hHeld
      clear hHeld
      go_wp2_with fail
      go_ret
      exact ⟨rfl, hB.out.trans (HR.out.mono hB.out.size)⟩
    have hltz : (i : Int) < (M : Int) := by omega
    have hi00 : (0 : Int) ≤ (i : Int) := by omega
    obtain ⟨cs, wo, IMOi⟩ := IMO.out i hlt
    replace IMOi := Lib.hid IMOi
    obtain ⟨yg', e, ra, rc, tc0, hrow⟩ := (YI.out.below hV.out).one (i := i) hlt
    cases e
    obtain ⟨bg', e, tc1⟩ := (PI.out.below hV.out).at1 (i := i) hlt
    cases e
    try simp only at tc0
    obtain ⟨rn, hrn⟩ : ∃ rn, rn = (Rn.own F n p i).length := ⟨_, rfl⟩
    obtain ⟨rf, hrf⟩ : ∃ rf, rf = Rn.nf (Rn.own F n p i) := ⟨_, rfl⟩
    obtain ⟨pz, hpz⟩ : ∃ pz, pz = p i := ⟨_, rfl⟩
    have hrl : rn ≤ 40 := by rw [hrn]; exact Nat.le_trans (Rn.own_len F n p i) hn40
    have RN : Hid (ra = none → rc = 0) := fun e => by
      obtain ⟨yg', e', ra', rc', tc', _⟩ := YI.out.one (i := i) hlt
      cases e'
      exact YN.out i hlt ra rc (by
        have := (hV.out.cell (World.block_lt_of_cell? _ _ tc'))
        rw [← this]
        exact tc0) e
    rw [← hrn, ← hrf, ← hpz] at IMOi
    rw [← hrn] at tc0 hrow
    rw [← hrf] at hrow
    rw [← hpz] at tc1
    have LI0 := LI
    replace LI := Lib.hid (LI.out.below hV.out)
    have TC0 := Lib.hid tc0
    have TC1 := Lib.hid tc1
    have RI := Lib.hid hrow
    have HRN := Lib.hid hrn
    have HRF := Lib.hid hrf
    clear hrn hrf hpz tc0 tc1 hrow
    go_wp2_with fail
    go_cut [62] (fun q Wq => q = .bool false ∧ Hid (Below Q0.heap.size Q0 Wq))
    case first =>
      refine wp_region_held_drew (S := fun V => Below Q0.heap.size Q0 V) (by kernel_rfl) (Below.refl _ _).drew (fun hHeld => ?_)
      obtain ⟨Z, hZ⟩ : ∃ Z, Z = Q0.drew := ⟨_, rfl⟩
      rw [← hZ] at hHeld ⊢
      clear hZ
      refine take_do (i := 1) (v := (.slice (some ⟨lg, 0, none⟩) n lc)) rfl (by kernel_rfl) (by kernel_rfl) (by kernel_rfl) (fun _ _ _ h => h) (by rfl) ?_ (by assumption) ?_
      · intro w hSw
        have q0 := (hSw.cell (World.block_lt_of_cell? _ _ TC0.out)).trans TC0.out
        have q1 := (hSw.cell (World.block_lt_of_cell? _ _ TC1.out)).trans TC1.out
        go_simp
      simp only [Act.put, List.setIfInBounds_toArray, List.set_cons_zero, List.set_cons_succ]
      refine take_do (i := 3) (v := (.slice (some ⟨bg, 0, none⟩) M pc)) rfl (by kernel_rfl) (by kernel_rfl) (by kernel_rfl) (fun _ _ _ h => h) (by rfl) ?_ (by assumption) ?_
      · intro w hSw
        have q0 := (hSw.cell (World.block_lt_of_cell? _ _ TC0.out)).trans TC0.out
        have q1 := (hSw.cell (World.block_lt_of_cell? _ _ TC1.out)).trans TC1.out
        go_simp
      simp only [Act.put, List.setIfInBounds_toArray, List.set_cons_zero, List.set_cons_succ]
      refine take_do (i := 4) (v := (.int .i64 i)) rfl (by kernel_rfl) (by kernel_rfl) (by kernel_rfl) (fun _ _ _ h => h) (by rfl) ?_ (by assumption) ?_
      · intro w hSw
        have q0 := (hSw.cell (World.block_lt_of_cell? _ _ TC0.out)).trans TC0.out
        have q1 := (hSw.cell (World.block_lt_of_cell? _ _ TC1.out)).trans TC1.out
        go_simp
      simp only [Act.put, List.setIfInBounds_toArray, List.set_cons_zero, List.set_cons_succ]
      refine take_do (i := 5) (v := (.pointer (some ⟨bg, i, none⟩))) rfl (by kernel_rfl) (by kernel_rfl) (by kernel_rfl) (fun _ _ _ h => h) (by rfl) ?_ (by assumption) ?_
      · intro w hSw
        have q0 := (hSw.cell (World.block_lt_of_cell? _ _ TC0.out)).trans TC0.out
        have q1 := (hSw.cell (World.block_lt_of_cell? _ _ TC1.out)).trans TC1.out
        go_simp
      simp only [Act.put, List.setIfInBounds_toArray, List.set_cons_zero, List.set_cons_succ]
      refine take_do (i := 6) (v := (.int .i64 pz)) rfl (by kernel_rfl) (by kernel_rfl) (by kernel_rfl) (fun _ _ _ h => h) (by rfl) ?_ (by assumption) ?_
      · intro w hSw
        have q0 := (hSw.cell (World.block_lt_of_cell? _ _ TC0.out)).trans TC0.out
        have q1 := (hSw.cell (World.block_lt_of_cell? _ _ TC1.out)).trans TC1.out
        go_simp
      simp only [Act.put, List.setIfInBounds_toArray, List.set_cons_zero, List.set_cons_succ]
      refine take_do (i := 7) (v := (.slice (some ⟨yg, 0, none⟩) M yk)) rfl (by kernel_rfl) (by kernel_rfl) (by kernel_rfl) (fun _ _ _ h => h) (by rfl) ?_ (by assumption) ?_
      · intro w hSw
        have q0 := (hSw.cell (World.block_lt_of_cell? _ _ TC0.out)).trans TC0.out
        have q1 := (hSw.cell (World.block_lt_of_cell? _ _ TC1.out)).trans TC1.out
        go_simp
      simp only [Act.put, List.setIfInBounds_toArray, List.set_cons_zero, List.set_cons_succ]
      refine take_do (i := 8) (v := (.int .i64 i)) rfl (by kernel_rfl) (by kernel_rfl) (by kernel_rfl) (fun _ _ _ h => h) (by rfl) ?_ (by assumption) ?_
      · intro w hSw
        have q0 := (hSw.cell (World.block_lt_of_cell? _ _ TC0.out)).trans TC0.out
        have q1 := (hSw.cell (World.block_lt_of_cell? _ _ TC1.out)).trans TC1.out
        go_simp
      simp only [Act.put, List.setIfInBounds_toArray, List.set_cons_zero, List.set_cons_succ]
      refine take_do (i := 9) (v := (.pointer (some ⟨yg, i, none⟩))) rfl (by kernel_rfl) (by kernel_rfl) (by kernel_rfl) (fun _ _ _ h => h) (by rfl) ?_ (by assumption) ?_
      · intro w hSw
        have q0 := (hSw.cell (World.block_lt_of_cell? _ _ TC0.out)).trans TC0.out
        have q1 := (hSw.cell (World.block_lt_of_cell? _ _ TC1.out)).trans TC1.out
        go_simp
      simp only [Act.put, List.setIfInBounds_toArray, List.set_cons_zero, List.set_cons_succ]
      refine take_do (i := 10) (v := (.slice ra rn rc)) rfl (by kernel_rfl) (by kernel_rfl) (by kernel_rfl) (fun _ _ _ h => h) (by rfl) ?_ (by assumption) ?_
      · intro w hSw
        have q0 := (hSw.cell (World.block_lt_of_cell? _ _ TC0.out)).trans TC0.out
        have q1 := (hSw.cell (World.block_lt_of_cell? _ _ TC1.out)).trans TC1.out
        go_simp
      simp only [Act.put, List.setIfInBounds_toArray, List.set_cons_zero, List.set_cons_succ]
      refine wpAnyH_ready (rs := [0]) (by kernel_rfl) (by simp) (AllReadyH.cons (at_drop (i := 0) rfl) (fun K2 hK => ?_) (AllReadyH.nil))
      obtain ⟨Z1, hZ1⟩ : ∃ Z1, Z1 = Z.alloc (.cells #[] 53) := ⟨_, rfl⟩
      have hb : Below Z.heap.size Z Z1 := by rw [hZ1]; exact nbel_alloc _ _
      obtain ⟨gb, hgb⟩ : ∃ gb, gb = Z.heap.size := ⟨_, rfl⟩
      have HBL : Hid (Z1.ownsRow Q0.heap.size 53 2 (.slice (some ⟨gb, 0, none⟩) 0 0) 0 []) := by show World.ownsRow _ _ _ _ _ _ _; rw [hZ1, hgb]; exact World.ownsRow_made Z #[] 0 hHeld.size (Nat.zero_le _) rfl
      have HGB : Hid (Q0.heap.size ≤ gb) := by show _ ≤ _; rw [hgb]; exact hHeld.size
      go_simp
      rw [← hZ1, ← hgb]
      clear hZ1
      refine hK.out _ _ (hHeld.trans (hb.mono hHeld.size)) (fun hHeld2 => ?_)
      clear hgb hb
      clear hK hHeld
      have hHeld := hHeld2
      clear hHeld2
      refine wpAnyH_ready (rs := [2]) (by kernel_rfl) (by simp) (AllReadyH.cons (at_drop (i := 2) rfl) (fun K2 hK => ?_) (AllReadyH.nil))
      refine ap_at rfl (.tmp 48) (.tmp 49) 28 rfl Q0.heap.size 53 i1 (.agg #[.int .i64 0, .int .i64 0]) 2 16 Tryd.underlying28 hi1 hy0 hy1 hy2 rfl (by decide) (.slice (some ⟨gb, 0, none⟩) 0 0) 0 [] rfl HBL.out ⟨lg, 0, none⟩ n lc (Rn.asVs F (List.range n)) rfl (by rw [asVs_len, List.length_range]) (as_cells (LI.out.below hHeld)) asVs_one (by unfold maxLen; omega) (by omega) hHeld.size ?_
      intro v' Z2 hown hgrow hwhere
      obtain ⟨⟨ca, cc, rfl, hc⟩, hb0⟩ := as_copy (B := Q0.heap.size) hHeld.size (by simpa using hown) hgrow HGB.out
      have HC := Lib.hid hc
      refine hK.out _ _ (hHeld.trans hb0) (fun hHeld2 => ?_)
      clear hown hgrow hwhere hc hb0 HBL HGB
      clear hK hHeld
      have hHeld := hHeld2
      clear hHeld2
      simp only [Act.put, List.setIfInBounds_toArray, List.set_cons_zero, List.set_cons_succ]
      refine wpAnyH_ready (rs := [11]) (by kernel_rfl) (by simp) (AllReadyH.cons (at_drop (i := 11) rfl) (fun K2 hK => ?_) (AllReadyH.nil))
      go_simp
      refine (ncopy_any ra rn rc rf _ (RI.out.below hHeld) (by omega) RN.out).mono ?_
      rintro e Z3 ⟨⟨pg, pk, rfl, _, hc⟩, hb⟩
      have HCP := Lib.hid hc
      clear hc
      replace HC := Lib.hid (HC.out.below hb)
      go_wp2_with fail
      refine hK.out _ _ (hHeld.trans (hb.mono hHeld.size)) (fun hHeld2 => ?_)
      clear hb
      clear hK hHeld
      have hHeld := hHeld2
      clear hHeld2
      refine wpAnyH_ready (rs := [12]) (by kernel_rfl) (by simp) (AllReadyH.cons (at_drop (i := 12) rfl) (fun K2 hK => ?_) (AllReadyH.nil))
      go_simp
      refine (IMOi.out ca cc pg pk _ HC.out HCP.out (HET.out.below (hB.out.trans (hHeld.mono hB.out.size)))).mono ?_
      rintro e Z4 ⟨⟨a2, k2, rfl⟩, hb⟩
      go_wp2_with fail
      refine hK.out _ _ (hHeld.trans (hb.mono hHeld.size)) (fun hHeld2 => ?_)
      clear hb
      clear hK hHeld
      have hHeld := hHeld2
      clear hHeld2
      refine take_do (i := 13) (v := (.int .i64 0)) rfl (by kernel_rfl) (by kernel_rfl) (by kernel_rfl) (fun _ _ _ h => h) (by rfl) ?_ (by assumption) ?_
      · intro w hSw
        have hf := ro_code cs wo 0 rn a2 k2 w
        go_simp
      simp only [Act.put, List.setIfInBounds_toArray, List.set_cons_zero, List.set_cons_succ]
      refine take_do (i := 14) (v := (.bool false)) rfl (by kernel_rfl) (by kernel_rfl) (by kernel_rfl) (fun _ _ _ h => h) (by rfl) ?_ (by assumption) ?_
      · intro w hSw
        go_simp
      simp only [Act.put, List.setIfInBounds_toArray, List.set_cons_zero, List.set_cons_succ]
      refine wpAnyH_done (by kernel_rfl) ?_ _
      have HR : Hid (Below Q0.heap.size Q0 Z4) := hHeld
      clear hHeld
      go_wp2_with fail
      go_meet
      case rel => exact ⟨rfl, HR⟩
    case rest =>
      obtain ⟨W6, hW6⟩ : ∃ W6, W6 = wc := ⟨_, rfl⟩
      subst hW6
      obtain ⟨rfl, hR⟩ := hcut
      have hb := hR.out
      replace hD := Lib.hid (rown_below hD.out hb)
      replace hV : Hid (Below w5.heap.size w5 W6) := hV.out.trans (hb.mono hV.out.size)
      clear hb hR TC0 TC1 RI LI hB IMOi RN
      have LI := LI0
      clear LI0
      have hdl : (Rn.done F n p i).length ≤ 800 := by
        have q1 := Rn.done_len F n p i
        have q2 : i * n ≤ 20 * 40 := Nat.mul_le_mul (by omega) hn40
        omega
      have HDS : Hid (W6.ownsRow w5.heap.size 2 1 (.slice da (Rn.done F n p i).length dc) (Rn.done F n p i ++ (Rn.own F n p i).take 0).length (rnVs (Rn.done F n p i ++ (Rn.own F n p i).take 0))) := by
        rw [List.take_zero, List.append_nil]
        exact hD.out
      clear hD
      go_wp2_with fail
      try dsimp only
      go_loopw [6, 8] (fun dv kv wr => ∃ (k : Nat), k ≤ rn ∧ kv = .int .i64 k ∧ Hid (wr.ownsRow w5.heap.size 2 1 dv (Rn.done F n p i ++ (Rn.own F n p i).take k).length (rnVs (Rn.done F n p i ++ (Rn.own F n p i).take k))) ∧ Hid (Below w5.heap.size w5 wr)) (fun _ kv _ => rn - (intOf kv).toNat)
      case atStart => exact ⟨0, Nat.zero_le _, rfl, HDS, hV⟩
      case round =>
        obtain ⟨Q1, hQ1⟩ : ∃ Q1, Q1 = wr := ⟨_, rfl⟩
        subst hQ1
        obtain ⟨k, hk, rfl, hE, hV1⟩ := hrel
        clear HDS hV
        obtain ⟨ea, ec, rfl⟩ := rown_shape hE.out
        obtain ⟨E, hE0⟩ : ∃ E, E = Rn.done F n p i ++ (Rn.own F n p i).take k := ⟨_, rfl⟩
        rw [← hE0] at hE ⊢
        have HE0 := Lib.hid hE0
        clear hE0
        obtain ⟨yg', e, ra', rc', tc0, hrow⟩ := (YI.out.below hV1.out).one (i := i) hlt
        cases e
        try simp only at tc0
        rw [← HRN.out] at tc0 hrow
        by_cases hlk : k < rn
        case neg =>
          obtain rfl : k = rn := by omega
          have HE2 : Hid (Q1.ownsRow w5.heap.size 2 1 (.slice ea (Rn.done F n p (i + 1)).length ec) (Rn.done F n p (i + 1)).length (rnVs (Rn.done F n p (i + 1)))) := by
            have q := hE.out
            rw [HE0.out, HRN.out, List.take_length] at q
            exact q
          have hel : E.length = (Rn.done F n p (i + 1)).length := by rw [HE0.out, HRN.out, List.take_length]; rfl
          rw [hel]
          clear hel hE hrow
          go_wp2_with fail
          go_roundw
          case rel => exact ⟨i + 1, by omega, by go_num, HE2, hV1⟩
          case measure => simp [intOf]; omega
        have hlkz : (k : Int) < (rn : Int) := by omega
        obtain ⟨rg, e, c1⟩ := hrow.at1 hlk
        subst e
        obtain ⟨x, hx⟩ : ∃ x, x = (Rn.own F n p i).getD k 0 := ⟨_, rfl⟩
        rw [show Rn.nf (Rn.own F n p i) k = (x : Int) by rw [hx]; rfl] at c1
        have hko : k < (Rn.own F n p i).length := by rw [← HRN.out]; exact hlk
        have HNH : Hid (¬ (∃ j, j < E.length ∧ Rn.nf E j = (x : Int))) := by
          rw [HE0.out]
          rintro ⟨j, hj, e⟩
          have hmem : x ∈ Rn.done F n p i ++ (Rn.own F n p i).take k := by
            have q := Rn.getD_mem hj
            unfold Rn.nf at e
            rwa [show (Rn.done F n p i ++ (Rn.own F n p i).take k).getD j 0 = x by omega] at q
          rw [List.mem_append] at hmem
          rcases hmem with q | q
          · exact Rn.own_new HOK.out.1 p i (by rw [hx]; exact Rn.getD_mem hko) q
          · obtain ⟨t, ht, e2⟩ := List.getElem_of_mem q
            rw [List.length_take] at ht
            rw [List.getElem_take] at e2
            have hr := Rn.own_rise HOK.out.1 p i
            have up : ∀ d t, t + d < (Rn.own F n p i).length → Rn.nf (Rn.own F n p i) t ≤ Rn.nf (Rn.own F n p i) (t + d) := by
              intro d
              induction d with
              | zero => intro t _; exact Int.le_refl _
              | succ d ih =>
                intro t ht
                have q1 := ih t (by omega)
                have q2 := (hr (t + (d + 1)) ht).2 (by omega)
                rw [show t + (d + 1) - 1 = t + d by omega] at q2
                omega
            have h1 := up (k - 1 - t) t (by omega)
            have h2 := (hr k hko).2 (by omega)
            rw [show t + (k - 1 - t) = k - 1 by omega] at h1
            have e3 : Rn.nf (Rn.own F n p i) t = (x : Int) := by
              unfold Rn.nf
              rw [List.getD_eq_getElem?_getD, List.getElem?_eq_getElem (by omega)]
              simp [e2]
            have e4 : Rn.nf (Rn.own F n p i) k = (x : Int) := by rw [hx]; rfl
            omega
        have HA : Hid ((Rn.own F n p i).take (k + 1) = (Rn.own F n p i).take k ++ [x]) := by
          show _ = _
          rw [List.take_succ_eq_append_getElem hko, hx, List.getD_eq_getElem?_getD, List.getElem?_eq_getElem hko]
          rfl
        have hsz := hV1.out.size
        have HEI : Hid (IsAt ea E.length (Rn.nf E) Q1) := by
          obtain ⟨a9, c9, e9, q⟩ := rls_own hE.out
          cases e9
          have q := q.at_
          rw [Nat.mul_one] at q
          exact q
        have hdl2 : E.length ≤ 1000 := by
          rw [HE0.out, List.length_append, List.length_take]
          have := Rn.own_len F n p i
          omega
        clear hx hrow hko
        go_wp2_with fail
        refine (nhas_any ea _ ec _ (x : Int) false _ HEI.out (by omega) (by simp only [Bool.false_eq_true, false_iff]; exact HNH.out)).mono ?_
        rintro e w9 ⟨rfl, hw⟩
        subst w9
        clear HEI HNH
        go_wp2_with (at_builtin; refine wpList_append_lies _ rfl _ _ 24 rfl (w5.heap.size) 2 i2 (.int .i64 0) 1 8 Tryd.underlying24 hi2 hx0 hx1 hx2 rfl (by decide) _ _ _ rfl (hE.out.alloc _) ⟨Q1.heap.size, 0, none⟩ 1 1 [.int .i64 (x : Int)] rfl rfl ?a1 ?a2 ?a3 ?a4 ?a5 ?a6 (Q1.heap.size + 1) ?a7 ?_)
        try (case a1 => (intro j u hj; match j, hj with
          | 0, hj => (simp at hj; subst hj; simp [Addr.add])))
        try (case a2 => first | rfl | (intro u hu; simp at hu; subst hu; rfl))
        try (case a3 => omega)
        try (case a4 => (unfold maxLen; omega))
        try (case a5 => omega)
        try (case a6 => first | omega | (simp; omega))
        try (case a7 => simp)
        intro g cap_ W3 hown hgrow hat hlt3
        have HE3 : Hid (W3.ownsRow w5.heap.size 2 1 (.slice (some ⟨g, 0, none⟩) (E.length + 1) cap_) (Rn.done F n p i ++ (Rn.own F n p i).take (k + 1)).length (rnVs (Rn.done F n p i ++ (Rn.own F n p i).take (k + 1)))) := by
          show World.ownsRow _ _ _ _ _ _ _
          rw [HA.out, ← List.append_assoc, ← HE0.out, rnVs_app, List.length_append]
          simpa using hown
        have HV3 : Hid (Below w5.heap.size w5 W3) := (hV1.out.alloc hV1.out.size _).grown hgrow (by simp; omega) (fun q hq => (hE.out.lt q hq).1)
        clear hown hgrow hat hlt3 hE hV1 HA c1 tc0
        go_wp2_with fail
        go_roundw
        case rel => exact ⟨k + 1, by omega, by go_num, HE3, HV3⟩
        case measure => simp [intOf]; omega
end Go.Proofs.YtbkpedcabbppbaaDoor
