/-
  RenewBest: the model's.
-/
import Derived.Test.YtbkpedcabbppbaaDoorRnO1
import Derived.Test.YtbkpedcabbppbaaDoorRnT5
namespace Go.Proofs.YtbkpedcabbppbaaDoor
open Go.RowKit Go.Deep

namespace Rn
theorem bs_big {n : Nat} {f : Nat → Int} {z : Int} (h : 400 < n) : bs n f z = bad 2 := by unfold bs; rw [if_pos h]
theorem bs_form {n : Nat} {f : Nat → Int} {z : Int} (h : ¬ 400 < n) (h2 : ¬ (Right n f ∧ BudOk z)) : bs n f z = bad 1 := by unfold bs; rw [if_neg h, if_neg (by rw [dB_ff h2]; simp)]
end Rn
set_option maxRecDepth 100000 in
set_option maxHeartbeats 8000000 in
theorem specBest_any (a : Option Addr) (n cap : Nat) (f : Nat → Int) (z : Int) (w : World) (h : IsAt a (n * 2) f w) (hs : n ≤ 1048576) :
    Calls Tryd.prog 8 #[.slice a n cap, .int .i64 z] w fun e w' => RoEnd w.heap.size (Rn.bs n f z) e w' ∧ Below w.heap.size w w' := by
  obtain ⟨W, hW⟩ : ∃ W, W = w.alloc (.cells #[.slice none 0 0, .int .i64 0, .int .i64 0, .int .i64 0] 26) := ⟨_, rfl⟩
  have HB : Hid (Below w.heap.size w W) := by show Below _ _ _; rw [hW]; exact nbel_alloc _ _
  obtain ⟨g4, hg4⟩ : ∃ g4, g4 = w.heap.size := ⟨_, rfl⟩
  have HO : Hid (W.rowIs g4 26 4 (rowN [.slice none 0 0, .int .i64 0, .int .i64 0, .int .i64 0])) := by show W.rowIs _ _ _ _; rw [hW, hg4]; exact rowN_alloc _ _ _
  have H := Lib.hid h
  have HW := Lib.hid hW
  have HG4 := Lib.hid hg4
  clear h hW hg4
  by_cases c4 : 400 < n
  · rw [Rn.bs_big c4]
    have c1 : (400 : Int) < (n : Int) := by omega
    clear c4
    go_enter Tryd.func8, Tryd.ntmps8
    go_upto_region 1 with fail
    rw [← HW.out, ← HG4.out]
    obtain ⟨⟨o0, o1, o2, o3⟩, z0, z1, z2, z3⟩ := rowN4 HO.out
    have hol := HO.out.lt
    go_wp2_with fail
    have zr := rput4 HO.out (.slice none 0 0) (.int .i64 0) (.int .i64 0) (.int .i64 2)
    have zb := rbel4 (g := g4) HB.out (by rw [HG4.out]; exact Nat.le_refl _) (.slice none 0 0) (.int .i64 0) (.int .i64 0) (.int .i64 2)
    generalize (((W.setCell ⟨g4, 0, none⟩ (.slice none 0 0)).setCell ⟨g4, 1, none⟩ (.int .i64 0)).setCell ⟨g4, 2, none⟩ (.int .i64 0)).setCell ⟨g4, 3, none⟩ (.int .i64 2) = ZZ at zr zb ⊢
    obtain ⟨⟨y0, y1, y2, y3⟩, _⟩ := rowN4 zr
    exact bodyPost_ret (v := roV 0 0 2 0 none 0) (by simp only [results, Tryd.results8]; simp [go_sem, y0, y1, y2, y3]) rfl ⟨RoEnd.bad _ _ _, zb⟩
  have c4n : ¬ (400 : Int) < (n : Int) := by omega
  by_cases cr : Rn.Right n f
  case neg =>
    rw [Rn.bs_form c4 (fun x => cr x.1)]
    have HC := Lib.hid (dB_ff cr)
    clear cr
    go_enter Tryd.func8, Tryd.ntmps8
    go_upto_region 1 with fail
    rw [← HW.out, ← HG4.out]
    go_wp2_with fail
    refine (specAssets_any a n cap f _ (H.out.below HB.out) hs).mono ?_
    rintro e w1 ⟨rfl, hb⟩
    rw [HC.out]
    replace HO := Lib.hid (nrow_below HO.out hb)
    replace HB : Hid (Below w.heap.size w w1) := HB.out.trans (hb.mono HB.out.size)
    clear hb
    obtain ⟨⟨o0, o1, o2, o3⟩, z0, z1, z2, z3⟩ := rowN4 HO.out
    have hol := HO.out.lt
    go_wp2_with fail
    have zr := rput4 HO.out (.slice none 0 0) (.int .i64 0) (.int .i64 0) (.int .i64 1)
    have zb := rbel4 (g := g4) HB.out (by rw [HG4.out]; exact Nat.le_refl _) (.slice none 0 0) (.int .i64 0) (.int .i64 0) (.int .i64 1)
    generalize (((w1.setCell ⟨g4, 0, none⟩ (.slice none 0 0)).setCell ⟨g4, 1, none⟩ (.int .i64 0)).setCell ⟨g4, 2, none⟩ (.int .i64 0)).setCell ⟨g4, 3, none⟩ (.int .i64 1) = ZZ at zr zb ⊢
    obtain ⟨⟨y0, y1, y2, y3⟩, _⟩ := rowN4 zr
    exact bodyPost_ret (v := roV 0 0 1 0 none 0) (by simp only [results, Tryd.results8]; simp [go_sem, y0, y1, y2, y3]) rfl ⟨RoEnd.bad _ _ _, zb⟩
  have HC := Lib.hid (dB_tt cr)
  have HRT := Lib.hid cr
  have hn40 := cr.1
  clear cr
  by_cases cz : Rn.BudOk z
  case neg =>
    rw [Rn.bs_form c4 (fun x => cz x.2)]
    have cz2 : z < 0 ∨ (¬ z < 0 ∧ 300 < z) := by unfold Rn.BudOk at cz; omega
    clear cz
    rcases cz2 with c1 | ⟨c1, c2⟩
    all_goals
      go_enter Tryd.func8, Tryd.ntmps8
      go_upto_region 1 with fail
      rw [← HW.out, ← HG4.out]
      go_wp2_with fail
      refine (specAssets_any a n cap f _ (H.out.below HB.out) hs).mono ?_
      rintro e w1 ⟨rfl, hb⟩
      rw [HC.out]
      replace HO := Lib.hid (nrow_below HO.out hb)
      replace HB : Hid (Below w.heap.size w w1) := HB.out.trans (hb.mono HB.out.size)
      clear hb
      obtain ⟨⟨o0, o1, o2, o3⟩, z0, z1, z2, z3⟩ := rowN4 HO.out
      have hol := HO.out.lt
      go_wp2_with fail
      have zr := rput4 HO.out (.slice none 0 0) (.int .i64 0) (.int .i64 0) (.int .i64 1)
      have zb := rbel4 (g := g4) HB.out (by rw [HG4.out]; exact Nat.le_refl _) (.slice none 0 0) (.int .i64 0) (.int .i64 0) (.int .i64 1)
      generalize (((w1.setCell ⟨g4, 0, none⟩ (.slice none 0 0)).setCell ⟨g4, 1, none⟩ (.int .i64 0)).setCell ⟨g4, 2, none⟩ (.int .i64 0)).setCell ⟨g4, 3, none⟩ (.int .i64 1) = ZZ at zr zb ⊢
      obtain ⟨⟨y0, y1, y2, y3⟩, _⟩ := rowN4 zr
      exact bodyPost_ret (v := roV 0 0 1 0 none 0) (by simp only [results, Tryd.results8]; simp [go_sem, y0, y1, y2, y3]) rfl ⟨RoEnd.bad _ _ _, zb⟩
  have HZ := Lib.hid cz
  rw [← Rn.of_bs HRT.out HZ.out]
  obtain ⟨b, rfl⟩ : ∃ b : Nat, z = (b : Int) := ⟨z.toNat, by have := cz.1; omega⟩
  have hb3 : b ≤ 300 := by have := cz.2; omega
  have hbz : ¬ (b : Int) < 0 := by omega
  have hbz3 : ¬ (300 : Int) < (b : Int) := by omega
  rw [Int.toNat_natCast]
  clear cz c4
  obtain ⟨i1, hi1, hy0, hy1, hy2⟩ := info_parts roinfo
  obtain ⟨O, hO⟩ : ∃ O, O = Rn.of_ n f b (Rn.picks f n b).length (Rn.nf (Rn.picks f n b)) := ⟨_, rfl⟩
  rw [← hO]
  have HOO := Lib.hid hO
  clear hO
  go_enter Tryd.func8, Tryd.ntmps8
  go_upto_region 1 with fail
  rw [← HW.out, ← HG4.out]
  clear HW
  go_wp2_with fail
  refine (specAssets_any a n cap f _ (H.out.below HB.out) hs).mono ?_
  rintro e w1 ⟨rfl, hb⟩
  rw [HC.out]
  replace HO := Lib.hid (nrow_below HO.out hb)
  replace HB : Hid (Below w.heap.size w w1) := HB.out.trans (hb.mono HB.out.size)
  clear hb HC
  go_wp2_with fail
  refine (specTable_any a n cap f b _ (H.out.below HB.out) hs).mono ?_
  rintro e w2 ⟨⟨ta, tk, rfl, hS⟩, hb⟩
  rw [Rn.tn_yes ⟨HRT.out, HZ.out⟩] at hS ⊢
  rw [Int.toNat_natCast] at hS
  obtain ⟨N, hN⟩ : ∃ N, N = b + 1 := ⟨_, rfl⟩
  rw [← hN] at hS
  obtain ⟨m, hm⟩ : ∃ m, m = n + 1 := ⟨_, rfl⟩
  rw [← hm] at hS ⊢
  have HM := Lib.hid hm
  have HN := Lib.hid hN
  have HT := Lib.hid hS.at_
  replace HO := Lib.hid (nrow_below HO.out hb)
  replace HB : Hid (Below w.heap.size w w2) := HB.out.trans (hb.mono HB.out.size)
  clear hb hS hm hN
  go_upto_region 7 with fail
  obtain ⟨W0, hW0⟩ : ∃ W0, W0 = w2.alloc (.cells #[] 2) := ⟨_, rfl⟩
  have hb0 : Below w2.heap.size w2 W0 := by rw [hW0]; exact nbel_alloc _ _
  have HOW : Hid (W0.ownsRow w2.heap.size 2 1 (.slice (some ⟨w2.heap.size, 0, none⟩) 0 0) 0 (rnVs [])) := by show World.ownsRow _ _ _ _ _ _ _; rw [hW0]; exact World.ownsRow_made w2 #[] 0 (Nat.le_refl _) (Nat.zero_le _) rfl
  replace HB := Lib.hid HB.out
  rw [← hW0]
  have HB0 := Lib.hid hb0
  clear hW0 hb0
  go_wp2_with fail
  try dsimp only
  go_loopw [6, 7, 8] (fun pv lv iv wr => ∃ (i : Nat), i ≤ n ∧ iv = .int .i64 i ∧ lv = .int .i64 ((Rn.pl f n b i).2 : Int) ∧ Hid (wr.ownsRow w2.heap.size 2 1 pv (Rn.pl f n b i).1.length (rnVs (Rn.pl f n b i).1)) ∧ Hid (Below w2.heap.size w2 wr)) (fun _ _ iv _ => n - (intOf iv).toNat)
  case atStart => exact ⟨0, Nat.zero_le _, rfl, rfl, HOW, HB0⟩
  case round =>
    obtain ⟨i, hi, rfl, rfl, hO, hB⟩ := hrel
    obtain ⟨av, cv, rfl⟩ := rown_shape hO.out
    clear HOW HB0
    by_cases hlt : i < n
    case neg =>
      obtain rfl : i = n := by omega
      obtain ⟨a9, k9, e9, hL⟩ := rls_own hO.out
      cases e9
      have HL := Lib.hid hL
      clear hL
      have hpl : (Rn.picks f i b).length ≤ 40 := Nat.le_trans (Rn.picks_len f i b) hn40
      have hnil : av = none → (Rn.picks f i b).length = 0 ∧ cv = 0 := fun e => by
        rcases HL.out with q | ⟨g, e', _⟩
        · exact ⟨q.2.1, q.2.2⟩
        · rw [e] at e'; cases e'
      have HNIL := Lib.hid hnil
      clear hnil
      go_wp2_with fail
      refine (specOf_any a i cap f b av _ cv (Rn.nf (Rn.picks f i b)) _ (H.out.below (HB.out.trans (hB.out.mono HB.out.size))) hs (by have q := HL.out.at_; rw [Nat.mul_one] at q; exact q) (by omega) HNIL.out).mono ?_
      rintro e w3 ⟨⟨a8, k8, rfl, hL8⟩, hb⟩
      rw [← HOO.out] at hL8 ⊢
      have HB3 : Hid (Below w.heap.size w w3) := HB.out.trans ((hB.out.trans (hb.mono hB.out.size)).mono HB.out.size)
      have HO3 := Lib.hid (nrow_below (nrow_below HO.out hB.out) hb)
      have HL8 : Hid (LsOwn 2 1 w.heap.size O.m a8 k8 O.L w3) := hL8.low (Nat.le_trans HB.out.size hB.out.size)
      clear hL8 hb HO hO hB HL
      obtain ⟨⟨o0, o1, o2, o3⟩, z0, z1, z2, z3⟩ := rowN4 HO3.out
      have hol := HO3.out.lt
      go_wp2_with fail
      have zr := rput4 HO3.out (.slice a8 O.m k8) (.int .i64 O.cs) (.int .i64 O.wo) (.int .i64 O.cd)
      have zb := rbel4 (g := g4) HB3.out (by rw [HG4.out]; exact Nat.le_refl _) (.slice a8 O.m k8) (.int .i64 O.cs) (.int .i64 O.wo) (.int .i64 O.cd)
      have zl := lsown4 HL8.out HO3.out (by decide) (.slice a8 O.m k8) (.int .i64 O.cs) (.int .i64 O.wo) (.int .i64 O.cd)
      generalize (((w3.setCell ⟨g4, 0, none⟩ (.slice a8 O.m k8)).setCell ⟨g4, 1, none⟩ (.int .i64 O.cs)).setCell ⟨g4, 2, none⟩ (.int .i64 O.wo)).setCell ⟨g4, 3, none⟩ (.int .i64 O.cd) = ZZ at zr zb zl ⊢
      obtain ⟨⟨y0, y1, y2, y3⟩, _⟩ := rowN4 zr
      exact bodyPost_ret (v := roV O.cs O.wo O.cd O.m a8 k8) (by simp only [results, Tryd.results8]; simp [go_sem, y0, y1, y2, y3]) rfl ⟨⟨a8, k8, rfl, zl⟩, zb⟩
    have hltz : (i : Int) < (n : Int) := by omega
    have hi00 : (0 : Int) ≤ (i : Int) := by omega
    have hlen := Rn.pl_len f n b i
    have hleft := Rn.pl_left f n b i
    obtain ⟨k1, hk1⟩ : ∃ k1, k1 = i + 1 := ⟨_, rfl⟩
    have hm1 := HM.out
    have hk1z : (k1 : Int) < (m : Int) := by omega
    have hk0z : (i : Int) < (m : Int) := by omega
    have hk10 : (0 : Int) ≤ (k1 : Int) := by omega
    have e6 : IntKind.i64.wrap ((i : Int) + 1) = (k1 : Int) := by rw [rwrap (by omega) (by omega)]; omega
    obtain ⟨lb, e, c0, c1⟩ := (H.out.below (HB.out.trans (hB.out.mono HB.out.size))).at2 hlt
    subst e
    have hcc := HRT.out.c hlt
    obtain ⟨c, hc⟩ : ∃ c, c = Rn.c f i := ⟨_, rfl⟩
    obtain ⟨y, hy⟩ : ∃ y, y = f (i * 2 + 1) := ⟨_, rfl⟩
    rw [hcc.1, ← hc] at c0
    rw [← hy] at c1
    rw [← hc] at hcc
    have hc3 : c ≤ 300 := hcc.2.2
    have hyb : 0 ≤ y ∧ y ≤ 1000 := by rw [hy]; exact (HRT.out.2 i hlt).2
    obtain ⟨left, hlf⟩ : ∃ left, left = (Rn.pl f n b i).2 := ⟨_, rfl⟩
    have hlN : left < N := by have := HN.out; omega
    have hlNz : (left : Int) < (N : Int) := by omega
    have hl00 : (0 : Int) ≤ (left : Int) := by omega
    rw [← hlf]
    have HLF := Lib.hid hlf
    have HC := Lib.hid hc
    have HK1 := Lib.hid hk1
    have HTK : Hid (Rn.tak f n i left = true ↔ c ≤ left ∧ y + Rn.T f n k1 (left - c) = Rn.T f n i left) := by
      show _ ↔ _
      rw [hc, hy, hk1]
      exact Rn.T_tak hlt
    have HTA : Hid (Rn.tak f n i left = Rn.tak f n i (Rn.pl f n b i).2) := by show _ = _; rw [hlf]
    by_cases hcl : c ≤ left
    case neg =>
      have HA : Hid (Rn.pl f n b (i + 1) = Rn.pl f n b i) := Rn.pl_no (by
        rw [← HTA.out]
        cases hq : Rn.tak f n i left with
        | false => rfl
        | true => exact absurd (HTK.out.1 hq).1 hcl)
      have hclz : decide (c ≤ left) = false := by simp; omega
      clear hc hy hcc hk1 hlf hcl hm1 hyb hleft
      go_wp2_with fail
      go_quiet (fail)
      go_wp2_with fail
      go_roundw
      case rel => exact ⟨i + 1, by omega, by rw [HK1.out], by rw [HA.out, HLF.out], by rw [HA.out]; exact rown_below hO.out (ndrewN (Below.refl _ _) _), ndrewN hB.out _⟩
      case measure => have := HK1.out; simp [intOf]; omega
    obtain ⟨d, hd⟩ : ∃ d : Nat, left = c + d := ⟨left - c, by omega⟩
    have hdN : d < N := by omega
    have hdz : (d : Int) < (N : Int) := by omega
    have hd00 : (0 : Int) ≤ (d : Int) := by omega
    have e9 : IntKind.i64.wrap ((left : Int) - (c : Int)) = (d : Int) := by rw [rwrap (by omega) (by omega)]; omega
    have hclz : decide (c ≤ left) = true := by simp; omega
    have HD := Lib.hid hd
    have hTT := HT.out.below hB.out
    obtain ⟨g1, e1, a1, r1, k1c, R1⟩ := hTT.one (i := k1) (by omega)
    subst e1
    obtain ⟨g2, e2, a2, r2, k2c, R2⟩ := hTT.one (i := i) (by omega)
    cases e2
    obtain ⟨x1, e1, q1⟩ := R1.at1 hdN
    subst e1
    obtain ⟨x2, e2, q2⟩ := R2.at1 hlN
    subst e2
    obtain ⟨nd, hnd⟩ : ∃ nd, nd = Rn.T f n k1 d := ⟨_, rfl⟩
    obtain ⟨tt, htt⟩ : ∃ tt, tt = Rn.T f n i left := ⟨_, rfl⟩
    obtain ⟨s, hs'⟩ : ∃ s, s = y + nd := ⟨_, rfl⟩
    rw [← hnd] at q1
    rw [← htt] at q2
    have e10 : IntKind.i64.wrap (y + nd) = s := by
      have := Rn.T_bd HRT.out k1 d
      rw [← hnd] at this
      rw [rwrap (by omega) (by omega), hs']
    have HTQ : Hid (Rn.tak f n i left = true ↔ s = tt) := by
      show _ ↔ _
      rw [HTK.out, hs', hnd, htt, show left - c = d by omega]
      exact ⟨fun x => x.2, fun x => ⟨hcl, x⟩⟩
    try simp only at k1c k2c
    clear hTT R1 R2 hnd htt hs' hc hy hcc hk1 hlf hm1 hyb hleft hd HTK
    by_cases hst : s = tt
    · have HA : Hid (Rn.pl f n b (i + 1) = ((Rn.pl f n b i).1 ++ [i], (Rn.pl f n b i).2 - Rn.c f i)) := Rn.pl_yes (by rw [← HTA.out]; exact HTQ.out.2 hst)
      have hstb : (s == tt) = true := by simp [hst]
      clear hst hcl
      go_wp2_with fail
      go_quiet (fail)
      obtain ⟨V, hV⟩ : ∃ V, V = wr.drewN nq := ⟨_, rfl⟩
      have hbv : Below wr.heap.size wr V := by rw [hV]; exact ndrewN (Below.refl _ _) _
      have HO2 := Lib.hid (rown_below hO.out hbv)
      have HBV : Hid (Below w2.heap.size w2 V) := hB.out.trans (hbv.mono hB.out.size)
      have hszV : w2.heap.size ≤ V.heap.size := HBV.out.size
      have cc0 : V.cell? ⟨lb, i * 2, none⟩ = some (.int .i64 (c : Int)) := (hbv.cell (World.block_lt_of_cell? _ _ c0)).trans c0
      have hlbV : lb < w2.heap.size := by
        obtain ⟨lb2, e, c0', _⟩ := (H.out.below HB.out).at2 hlt
        cases e
        exact World.block_lt_of_cell? _ _ c0'
      rw [← hV]
      clear hV hbv hO hB c0 c1 q1 q2 k1c k2c
      go_wp2_with (at_builtin; refine wpList_append_lies _ rfl _ _ 24 rfl (w2.heap.size) 2 i1 (.int .i64 0) 1 8 Tryd.underlying24 hi1 hy0 hy1 hy2 rfl (by decide) _ _ _ rfl (HO2.out.alloc _) ⟨V.heap.size, 0, none⟩ 1 1 [.int .i64 (i : Int)] rfl rfl ?a1 ?a2 ?a3 ?a4 ?a5 ?a6 (V.heap.size + 1) ?a7 ?_)
      try (case a1 => (intro j u hj; match j, hj with
        | 0, hj => (simp at hj; subst hj; simp [Addr.add])))
      try (case a2 => first | rfl | (intro u hu; simp at hu; subst hu; rfl))
      try (case a3 => omega)
      try (case a4 => (unfold maxLen; omega))
      try (case a5 => omega)
      try (case a6 => first | omega | (simp; omega))
      try (case a7 => simp)
      intro g cap' W3 hown hgrow hat hlt3
      have cc3 : W3.cell? ⟨lb, i * 2, none⟩ = some (.int .i64 (c : Int)) := by
        have hblk : W3.heap[lb]? = V.heap[lb]? := by
          rw [hgrow.block lb (by simp; omega) (fun e => by have := (HO2.out.lt lb e.symm).1; omega)]
          exact (nbel_alloc _ _).block _ (by omega)
        rw [← cc0]
        simp [World.cell?, hblk]
      have HO3 : Hid (W3.ownsRow w2.heap.size 2 1 (.slice (some ⟨g, 0, none⟩) ((Rn.pl f n b i).1.length + 1) cap') (Rn.pl f n b (i + 1)).1.length (rnVs (Rn.pl f n b (i + 1)).1)) := by
        show World.ownsRow _ _ _ _ _ _ _
        rw [HA.out]
        simp only [rnVs_app]
        simpa using hown
      have HB3 : Hid (Below w2.heap.size w2 W3) := (HBV.out.alloc HBV.out.size _).grown hgrow (by simp; omega) (fun k hk => (HO2.out.lt k hk).1)
      clear hown hgrow hat hlt3 HBV HO2 cc0
      go_wp2_with fail
      go_roundw
      case rel => exact ⟨i + 1, by omega, by rw [HK1.out], by rw [HA.out, ← HC.out, ← HLF.out]; congr 1; have := HD.out; omega, HO3, HB3⟩
      case measure => have := HK1.out; simp [intOf]; omega
    · have HA : Hid (Rn.pl f n b (i + 1) = Rn.pl f n b i) := Rn.pl_no (by
        rw [← HTA.out]
        cases hq : Rn.tak f n i left with
        | false => rfl
        | true => exact absurd (HTQ.out.1 hq) hst)
      have hstb : (s == tt) = false := by simp [hst]
      clear hst hcl
      go_wp2_with fail
      go_quiet (fail)
      go_wp2_with fail
      go_roundw
      case rel => exact ⟨i + 1, by omega, by rw [HK1.out], by rw [HA.out, HLF.out], by rw [HA.out]; exact rown_below hO.out (ndrewN (Below.refl _ _) _), ndrewN hB.out _⟩
      case measure => have := HK1.out; simp [intOf]; omega
end Go.Proofs.YtbkpedcabbppbaaDoor
