/-
  The law FnMissing.
-/
import Derived.Test.YtemmmhkjjcmcmaaMMath
import Derived.BigRegion
namespace Go.Proofs.Ytemmmhkjjcmcmaa
open Go.RowKit

theorem own_push {B : Nat} {v v' : Value} {ys : List Nat} {x : Nat} {w W W' : World} {o : Obj} (hB : B = w.heap.size) (h : Own B v ys W) (hb : Below B w W) (hg : (W.alloc o).grownBy W' v.ownBlock)
    (hown : W'.ownsRow B 26 1 v' (ys.length + 1) (ys.map (Value.float .f64) ++ [.float .f64 x])) (hnil : ¬ v' = .slice none 0 0) : Own B v' (ys ++ [x]) W' ∧ Below B w W' := by
  have hz := hb.size
  refine ⟨⟨by simpa using hown, hnil⟩, ?_⟩
  have h2 : Own B v ys (W.alloc o) := h.below ((Below.refl _ _).alloc (Nat.le_refl _) _)
  exact below_grown hB h2 (hb.alloc (by omega) _) hg
theorem own_all {B : Nat} {v v' : Value} {zs : List Nat} {w W W' : World} (hB : B = w.heap.size) (h : Own B v [] W) (hb : Below B w W) (hg : W.grownBy W' v.ownBlock)
    (hown : W'.ownsRow B 26 1 v' zs.length (zs.map (Value.float .f64))) (hnil : ¬ v' = .slice none 0 0) : Own B v' zs W' ∧ Below B w W' :=
  ⟨⟨hown, hnil⟩, below_grown hB h hb hg⟩

set_option linter.unusedSimpArgs false in
set_option maxRecDepth 100000 in
set_option maxHeartbeats 4000000 in
theorem missing_law (a : Option Addr) (len cap : Nat) (w : World) (h : Bytes a len w) (hl : len ≤ 1048576) :
    Calls Try.prog 3 #[.slice a len cap] w fun e w' => e = .returned (.bool true) ∧ Below w.heap.size w w' := by
  have z1 : ¬ (1048576 : Int) < (len : Int) := by omega
  have H := Lib.hid h
  clear h
  obtain ⟨i0, hi, hz0, hz1, hz2⟩ := info_parts info_float
  go_enter Try.func3, Try.ntmps3
  go_wp2_with fail
  refine (drawSum_any a len cap _ H.out hl).mono ?_
  rintro e w1 ⟨v, rfl, zs, hzl, hown, hb⟩
  obtain ⟨g, cp, rfl, hg0, hg1, hcell⟩ := hown.form
  have HB1 : Hid (Below w.heap.size w w1) := hb
  have HC := Lib.hid hcell
  clear hb hcell hown H
  by_cases hn : zs.length ≤ 400
  · have hnz : ¬ (400 : Int) < (zs.length : Int) := by omega
    go_wp2_with fail
    go_loopw [4, 5] (fun ov iv wr => ∃ k : Nat, k ≤ zs.length ∧ iv = .int .i64 k ∧ Hid (Own w1.heap.size ov (Fl.ys zs k) wr) ∧ Hid (Below w1.heap.size w1 wr)) (fun _ iv _ => zs.length - (intOf iv).toNat)
    case atStart => exact ⟨0, Nat.zero_le _, rfl, own_start w1, (Below.refl _ _).alloc (Nat.le_refl _) _⟩
    case round =>
      obtain ⟨k, hk, rfl, hO, hB⟩ := hrel
      by_cases hlt : k < zs.length
      · have hltz : (k : Int) < (zs.length : Int) := by omega
        have c0 := (hB.out.cell (p := ⟨g, k, none⟩) hg1).trans (HC.out k hlt)
        have hyl : (Fl.ys zs k).length ≤ k := by rw [Fl.ys_len]; exact Fl.cntTo_le zs k
        go_wp2_with fail
        refine (lawMeas_any _ _).mono ?_
        rintro e w2 ⟨rfl, rfl⟩
        cases hm : Fl.measB (Fl.el zs k)
        · have Hy : Hid (Fl.ys zs (k + 1) = Fl.ys zs k) := Fl.ys_no zs k hlt hm
          clear hm
          go_wp2_with fail
          go_roundw
          case rel => exact ⟨k + 1, by omega, by go_num, by rw [Hy.out]; exact hO, hB⟩
          case measure => simp [intOf]; omega
        · have Hy : Hid (Fl.ys zs (k + 1) = Fl.ys zs k ++ [Fl.el zs k]) := Fl.ys_yes zs k hlt hm
          clear hm
          go_wp2_with (at_builtin; refine wpList_append_own _ rfl _ _ 23 rfl w1.heap.size 26 i0 (.float .f64 0) 1 8 Try.underlying23 hi hz0 hz1 hz2 rfl (by decide) _ _ _ rfl (hO.out.1.alloc _) ⟨w2.heap.size, 0, none⟩ 1 1 [.float .f64 (Fl.el zs k)] rfl rfl ?c1 ?c2 ?c3 ?c4 ?c5 ?_)
          case c1 =>
            intro j u hj
            match j, hj with
            | 0, hj => simp at hj; subst hj; simp [Addr.add]
          case c2 => intro u hu; simp at hu; subst hu; rfl
          case c3 => unfold maxLen; omega
          case c4 => omega
          case c5 => have := hB.out.size; simp; omega
          · intro v' w3 hown hgrow hnil
            have HP : Hid (Own w1.heap.size v' (Fl.ys zs (k + 1)) w3 ∧ Below w1.heap.size w1 w3) := by rw [Hy.out]; exact own_push rfl hO.out hB.out hgrow hown (by simpa using hnil)
            clear hown hgrow hnil hO hB c0
            go_wp2_with fail
            go_roundw
            case rel => exact ⟨k + 1, by omega, by go_num, HP.out.1, HP.out.2⟩
            case measure => simp [intOf]; omega
      · obtain rfl : k = zs.length := by omega
        obtain ⟨g2, cp2, rfl, hg2, hg3, hcell2⟩ := hO.out.form
        have hym := Fl.ys_meas zs zs.length
        have hys := Fl.ys_sum zs zs.length
        have hyc := Fl.ys_len zs zs.length
        have hyl : (Fl.ys zs zs.length).length ≤ zs.length := by rw [Fl.ys_len]; exact Fl.cntTo_le zs zs.length
        have HYM := Lib.hid hym
        have HYS := Lib.hid hys
        have HYC := Lib.hid hyc
        have HC2 := Lib.hid hcell2
        clear hym hys hyc hcell2
        generalize Fl.ys zs zs.length = ys at *
        go_wp2_with fail
        go_loop [6, 7] (fun sv iv => ∃ k : Nat, k ≤ ys.length ∧ iv = .int .i64 k ∧ sv = .float .f64 (Fl.sumTo ys k)) (fun _ iv => ys.length - (intOf iv).toNat)
        case atStart => exact ⟨0, Nat.zero_le _, rfl, rfl⟩
        case round =>
          obtain ⟨k, hk2, rfl, rfl⟩ := hrel
          by_cases hlt2 : k < ys.length
          · have hltz : (k : Int) < (ys.length : Int) := by omega
            have g1 := HC2.out k hlt2
            have hm := HYM.out k hlt2
            have hgd := Fl.good_addF _ (Fl.el ys k) (Fl.good_sumTo ys k)
            have Hs : Hid (Fl.sumTo ys (k + 1) = Fl.addF (Fl.sumTo ys k) (Fl.el ys k)) := Fl.sumTo_succ ys k (by omega)
            have hq := fun (wx : World) => run_float_arith (P := Try.prog) (w := wx) .add 26 .f64 _ _ _ (hgd.2 hm)
            clear hgd hm
            go_wp2_with fail
            go_round
            case rel => exact ⟨k + 1, by omega, by go_num, by rw [Hs.out]⟩
            case measure => simp [intOf]; omega
          · obtain rfl : k = ys.length := by omega
            have hS : Fl.sumTo zs zs.length = Fl.sumTo ys ys.length := HYS.out.symm
            have hQ : Fl.cntTo zs zs.length ≠ 0 → floatBits .quo .f64 (Fl.sumTo ys ys.length) (floatOfInt .f64 (ys.length : Int)) = some (meanF zs zs.length) := fun h0 => by
              have := meanF_quo zs zs.length h0 hn
              rw [hS, ← HYC.out] at this
              exact this
            have hZ := meanF_zero zs zs.length
            rw [← HYC.out] at hQ hZ
            have K1 := Lib.hid (fun (b cap : Nat) (wx : World) hc => implSum_any b zs.length cap zs wx rfl hc hn)
            have K2 := Lib.hid (fun (wx : World) (hb : Below wr.heap.size wr wx) => implSum_any g2 ys.length cp2 ys wx rfl (fun i hi => (hb.cell (p := ⟨g2, i, none⟩) hg3).trans (HC2.out i hi)) (by omega))
            have K3 := Lib.hid (fun (b cap : Nat) (wx : World) hc => implMean_any b zs.length cap zs wx rfl hc hn)
            rw [hS] at K1
            have HN1 : Hid (∀ j u, (zs.map (Value.float .f64))[j]? = some u → (wr.alloc (.cells #[] 26)).cell? ((⟨g, 0, none⟩ : Addr).add j) = some u) := row_cells (fun i hi => by
              rw [World.cell?_alloc_lt _ _ ⟨g, i, none⟩ (by show g < wr.heap.size; have := hB.out.size; omega)]
              exact (hB.out.cell (p := ⟨g, i, none⟩) hg1).trans (HC.out i hi))
            clear hS HYS HYC HYM
            generalize Fl.sumTo ys ys.length = S at *
            generalize meanF zs zs.length = M at *
            by_cases hy0 : ys.length = 0
            · obtain rfl := hZ hy0
              rw [hy0] at K2
              have hy1 : ¬ (0 : Int) < (ys.length : Int) := by omega
              clear hZ hQ
              go_wp2_with (at_builtin; refine wpList_append_own _ rfl _ _ 23 rfl wr.heap.size 26 i0 (.float .f64 0) 1 8 Try.underlying23 hi hz0 hz1 hz2 rfl (by decide) _ _ _ rfl ((own_start wr).1) ⟨g, 0, none⟩ zs.length cp (zs.map (Value.float .f64)) rfl (by simp) HN1.out (one_cells zs) (len_max zs hn) (len_bytes zs hn) (alloc_le wr) ?_)
              intro v3 w3 hown hgrow hnil
              have HP : Hid (Own wr.heap.size v3 zs w3 ∧ Below wr.heap.size wr w3) := own_all rfl (own_start wr) ((Below.refl _ _).alloc (Nat.le_refl _) _) hgrow (by simpa using hown) (by simpa using hnil)
              clear hown hgrow hnil HN1
              obtain ⟨g4, cp4, rfl, hg4, hg5, hc4⟩ := HP.out.1.form
              have HC4 := Lib.hid hc4
              clear hc4
              go_wp2_with fail
              refine (K1.out g4 cp4 _ HC4.out).mono ?_
              rintro e w4 ⟨rfl, rfl⟩
              go_wp2_with fail
              refine (same_any _ _).mono ?_
              rintro e w5 ⟨rfl, rfl⟩
              go_wp2_with fail
              refine (K2.out _ HP.out.2).mono ?_
              rintro e w6 ⟨rfl, rfl⟩
              go_wp2_with fail
              refine (same_any _ _).mono ?_
              rintro e w7 ⟨rfl, rfl⟩
              have HN2 : Hid (∀ j u, (zs.map (Value.float .f64))[j]? = some u → (w7.alloc (.cells #[] 26)).cell? ((⟨g, 0, none⟩ : Addr).add j) = some u) := row_cells (fun i hi => by
                have hgw : g < wr.heap.size := by have := hB.out.size; omega
                rw [World.cell?_alloc_lt _ _ ⟨g, i, none⟩ (by show g < w7.heap.size; have := HP.out.2.size; omega)]
                exact (HP.out.2.cell (p := ⟨g, i, none⟩) hgw).trans ((hB.out.cell (p := ⟨g, i, none⟩) hg1).trans (HC.out i hi)))
              go_wp2_with (at_builtin; refine BigFrame.wpList_want (by rfl) (fun K hK => wp_append_own _ _ _ 23 rfl w7.heap.size 26 i0 (.float .f64 0) 1 8 Try.underlying23 hi hz0 hz1 hz2 rfl (by decide) _ _ _ rfl ((own_start w7).1) ⟨g, 0, none⟩ zs.length cp (zs.map (Value.float .f64)) rfl (by simp) HN2.out (one_cells zs) (len_max zs hn) (len_bytes zs hn) (alloc_le w7) ?_); intro v8 w8 hown hgrow hnil; refine hK _ _ ?_; refine Hid.out ?_)
              refine Lib.hid ?_
              have HP8 : Hid (Own w7.heap.size v8 zs w8 ∧ Below w7.heap.size w7 w8) := own_all rfl (own_start w7) ((Below.refl _ _).alloc (Nat.le_refl _) _) hgrow (by simpa using hown) (fun e => by
                have h9 : Value.slice (some ⟨w7.heap.size, 0, none⟩) 0 0 = Value.slice none 0 0 := (hnil.1 e).1
                simp at h9)
              clear hown hgrow hnil HN2
              obtain ⟨g6, cp6, rfl, hg6, hg7, hc6⟩ := HP8.out.1.form
              have HC6 := Lib.hid hc6
              have HBf : Hid (Below w.heap.size w w8) := by
                have e1 := HB1.out.trans (hB.out.mono HB1.out.size)
                have e2 := e1.trans (HP.out.2.mono e1.size)
                exact e2.trans (HP8.out.2.mono e2.size)
              clear hc6
              go_wp2_with fail
              refine (K3.out g6 cp6 _ HC6.out).mono ?_
              rintro e w9 ⟨rfl, rfl⟩
              go_wp2_with fail
              refine (same_any _ _).mono ?_
              rintro e w10 ⟨rfl, rfl⟩
              go_wp2_with fail
              go_ret
              exact ⟨rfl, HBf.out⟩
            · have hq := fun (wx : World) => run_float_arith (P := Try.prog) (w := wx) .quo 26 .f64 _ _ _ (hQ hy0)
              have hy1 : (0 : Int) < (ys.length : Int) := by omega
              clear hZ hQ
              go_wp2_with (at_builtin; refine wpList_append_own _ rfl _ _ 23 rfl wr.heap.size 26 i0 (.float .f64 0) 1 8 Try.underlying23 hi hz0 hz1 hz2 rfl (by decide) _ _ _ rfl ((own_start wr).1) ⟨g, 0, none⟩ zs.length cp (zs.map (Value.float .f64)) rfl (by simp) HN1.out (one_cells zs) (len_max zs hn) (len_bytes zs hn) (alloc_le wr) ?_)
              intro v3 w3 hown hgrow hnil
              have HP : Hid (Own wr.heap.size v3 zs w3 ∧ Below wr.heap.size wr w3) := own_all rfl (own_start wr) ((Below.refl _ _).alloc (Nat.le_refl _) _) hgrow (by simpa using hown) (by simpa using hnil)
              clear hown hgrow hnil HN1
              obtain ⟨g4, cp4, rfl, hg4, hg5, hc4⟩ := HP.out.1.form
              have HC4 := Lib.hid hc4
              clear hc4
              go_wp2_with fail
              refine (K1.out g4 cp4 _ HC4.out).mono ?_
              rintro e w4 ⟨rfl, rfl⟩
              go_wp2_with fail
              refine (same_any _ _).mono ?_
              rintro e w5 ⟨rfl, rfl⟩
              go_wp2_with fail
              refine (K2.out _ HP.out.2).mono ?_
              rintro e w6 ⟨rfl, rfl⟩
              go_wp2_with fail
              refine (same_any _ _).mono ?_
              rintro e w7 ⟨rfl, rfl⟩
              have HN2 : Hid (∀ j u, (zs.map (Value.float .f64))[j]? = some u → (w7.alloc (.cells #[] 26)).cell? ((⟨g, 0, none⟩ : Addr).add j) = some u) := row_cells (fun i hi => by
                have hgw : g < wr.heap.size := by have := hB.out.size; omega
                rw [World.cell?_alloc_lt _ _ ⟨g, i, none⟩ (by show g < w7.heap.size; have := HP.out.2.size; omega)]
                exact (HP.out.2.cell (p := ⟨g, i, none⟩) hgw).trans ((hB.out.cell (p := ⟨g, i, none⟩) hg1).trans (HC.out i hi)))
              go_wp2_with (at_builtin; refine BigFrame.wpList_want (by rfl) (fun K hK => wp_append_own _ _ _ 23 rfl w7.heap.size 26 i0 (.float .f64 0) 1 8 Try.underlying23 hi hz0 hz1 hz2 rfl (by decide) _ _ _ rfl ((own_start w7).1) ⟨g, 0, none⟩ zs.length cp (zs.map (Value.float .f64)) rfl (by simp) HN2.out (one_cells zs) (len_max zs hn) (len_bytes zs hn) (alloc_le w7) ?_); intro v8 w8 hown hgrow hnil; refine hK _ _ ?_; refine Hid.out ?_)
              refine Lib.hid ?_
              have HP8 : Hid (Own w7.heap.size v8 zs w8 ∧ Below w7.heap.size w7 w8) := own_all rfl (own_start w7) ((Below.refl _ _).alloc (Nat.le_refl _) _) hgrow (by simpa using hown) (fun e => by
                have h9 : Value.slice (some ⟨w7.heap.size, 0, none⟩) 0 0 = Value.slice none 0 0 := (hnil.1 e).1
                simp at h9)
              clear hown hgrow hnil HN2
              obtain ⟨g6, cp6, rfl, hg6, hg7, hc6⟩ := HP8.out.1.form
              have HC6 := Lib.hid hc6
              have HBf : Hid (Below w.heap.size w w8) := by
                have e1 := HB1.out.trans (hB.out.mono HB1.out.size)
                have e2 := e1.trans (HP.out.2.mono e1.size)
                exact e2.trans (HP8.out.2.mono e2.size)
              clear hc6
              go_wp2_with fail
              refine (K3.out g6 cp6 _ HC6.out).mono ?_
              rintro e w9 ⟨rfl, rfl⟩
              go_wp2_with fail
              refine (same_any _ _).mono ?_
              rintro e w10 ⟨rfl, rfl⟩
              go_wp2_with fail
              go_ret
              exact ⟨rfl, HBf.out⟩
  · have hnz : (400 : Int) < (zs.length : Int) := by omega
    clear hn
    go_wp2_with fail
    go_ret
    exact ⟨rfl, HB1.out⟩
end Go.Proofs.Ytemmmhkjjcmcmaa
