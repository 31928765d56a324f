/-
  The law FnRiverBook.
-/
import Derived.Test.YtdpghhmcibiplaaDoorRvS6
import Derived.Test.YtdpghhmcibiplaaDoorRvDr4
import Derived.Test.YtdpghhmcibiplaaDoorRvR4
import Derived.Test.YtdpghhmcibiplaaDoorRvLw3
import Derived.Deep.QuietTactic
import Derived.BigQuiet
namespace Go.Proofs.YtdpghhmcibiplaaDoor
open Go.RowKit Go.Deep

/-- Of a run that goes well all rains are right. -/
theorem runs_all {n : Nat} {rs : Nat → Rv.Rc} {q : Nat → Rv.Rain} : ∀ {M : Nat} {t : Rv.RSt}, Rv.runs n rs q M = some t → ∀ k, k < M → (q k).len = n ∧ Rv.RainOk n (q k).at_
  | 0, _, _, k, hk => absurd hk (Nat.not_lt_zero _)
  | M + 1, t, h, k, hk => by
    obtain ⟨t0, s, h0, hq, _, _⟩ := Rv.runs_prev h
    by_cases e : k = M
    · subst e; exact hq
    · exact runs_all h0 k (by omega)
theorem rainSum_bd {n : Nat} {q : Nat → Rv.Rain} (hn : n ≤ 40) : ∀ k, (∀ i, i < k → Rv.RainOk n (q i).at_) → 0 ≤ Rv.rainSum n q k ∧ Rv.rainSum n q k ≤ (k : Int) * 40000000
  | 0, _ => by simp [Rv.rainSum]
  | k + 1, h => by
    have h1 := rainSum_bd hn k (fun i hi => h i (by omega))
    have h2 := h k (by omega)
    have h3 := Rv.sumN_nonneg (f := (q k).at_) (n := n) (fun j hj => (h2 j hj).1)
    have h4 := Rv.sumN_le (f := (q k).at_) (n := n) (M := 1000000) (fun j hj => (h2 j hj).2)
    have h5 : (n : Int) * 1000000 ≤ 40000000 := by omega
    show 0 ≤ Rv.rainSum n q k + Rv.sumN (q k).at_ n ∧ Rv.rainSum n q k + Rv.sumN (q k).at_ n ≤ _
    have h6 : ((k + 1 : Nat) : Int) * 40000000 = (k : Int) * 40000000 + 40000000 := by rw [Int.natCast_add, Int.add_mul]; rfl
    omega
theorem bcode_field (a b c : Value) (d e : Int) (w : World) : (Instr.field 27 (.agg #[a, b, c, .int .i64 d, .int .i64 e]) 4).run Tryd.prog w = .ok (.int .i64 e) w := by kernel_rfl
/-- The model's run, whatever was drawn. -/
theorem specRun_all (lb n cn : Nat) (ra : Option Addr) (M cr : Nat) (rs : Nat → Rv.Rc) (q : Nat → Rv.Rain) (w : World) (h : RcBlk lb n rs w) (h2 : RainsAt ra M q w) (hn : n ≤ 400) :
    Calls Tryd.prog 35 #[.slice (some ⟨lb, 0, none⟩) n cn, .slice ra M cr] w fun e w' => RoE (fun code => code = 0 → (Rv.Right n rs ∧ M ≤ 60) ∧ ∃ t, Rv.runs n rs q M = some t) e ∧ Below w.heap.size w w' := by
  by_cases hM : 60 < M
  · refine (specRun_over (some ⟨lb, 0, none⟩) ra n cn M cr w (Or.inr hM)).mono ?_
    rintro e w' ⟨rfl, hb⟩
    exact ⟨⟨_, _, _, _, _, _, _, _, _, _, _, rfl, fun e => absurd e (by decide)⟩, hb⟩
  · by_cases hr : Rv.Right n rs
    · refine (specRun_ok lb n cn ra M cr rs q w (fun i hi => h.cells hi) h2 (by omega) hr).mono ?_
      rintro e w' ⟨⟨a1, n1, c1, a2, n2, c2, a3, n3, c3, sea, code, rfl, hc⟩, hb⟩
      exact ⟨⟨_, _, _, _, _, _, _, _, _, _, _, rfl, fun e => ⟨⟨hr, by omega⟩, hc e⟩⟩, hb⟩
    · refine (specRun_no (some ⟨lb, 0, none⟩) ra n cn M cr rs w h.at_ (by omega) hr).mono ?_
      rintro e w' ⟨rfl, hb⟩
      exact ⟨⟨_, _, _, _, _, _, _, _, _, _, _, rfl, fun e => absurd e (by decide)⟩, hb⟩

set_option linter.unusedSimpArgs false in
set_option maxRecDepth 100000 in
set_option maxHeartbeats 8000000 in
theorem riverBook_law (w : World) (a : Option Addr) (len cap : Nat) (h : Bytes a len w) (_u : len ≤ 9223372036854775807) (_g : Et w) :
    Calls Tryd.prog 7 #[.slice a len cap] w fun e w' => e = .returned (.bool true) ∧ Below w.heap.size w w' := by
  clear _u _g
  by_cases hb1 : 1048576 < len
  · have hz : (1048576 : Int) < (len : Int) := by omega
    clear h
    go_enter Tryd.func7, Tryd.ntmps7
    go_wp2
    go_ret
    exact ⟨rfl, Below.refl _ _⟩
  have hz1' : ¬ (1048576 : Int) < (len : Int) := by omega
  have H := Lib.hid h
  clear h
  obtain ⟨i0, hi0, hy0, hy1, hy2⟩ := info_parts info_rc
  go_enter Tryd.func7, Tryd.ntmps7
  go_wp2_with fail
  refine (drawRun_any a len cap w H.out (by omega)).mono ?_
  rintro e w1 ⟨hE, hB⟩
  obtain ⟨n, gl, cl, rs, M, ra, cr, q, rfl, ⟨hn1, hn2⟩, hls, hra, hM, hlen⟩ := hE
  have HLS := Lib.hid hls
  have HRA := Lib.hid hra
  have HB := Lib.hid hB
  clear hls hra hB hlen
  go_wp2_with fail
  refine (specRun_all gl n cl ra M cr rs q _ HLS.out HRA.out (by omega)).mono ?_
  rintro e w2 ⟨⟨a1, k1, c1, a2, k2, c2, a3, k3, c3, sea, code, rfl, hc⟩, hb⟩
  replace HLS := Lib.hid (HLS.out.block (hb.block _ HLS.out.lt))
  replace HRA := Lib.hid (HRA.out.below hb)
  replace HB : Hid (Below w.heap.size w w2) := HB.out.trans (hb.mono HB.out.size)
  clear hb
  have hcf := bcode_field (.slice a1 k1 c1) (.slice a2 k2 c2) (.slice a3 k3 c3) sea code
  by_cases hcode : code = 0
  rotate_left
  · have hcz : (code != 0) = true := by simpa using hcode
    clear hc hcode
    go_wp2_with fail
    go_ret
    exact ⟨rfl, HB.out⟩
  have hcz : (code != 0) = false := by simp [hcode]
  obtain ⟨⟨hr, hM60⟩, t, ht⟩ := hc hcode
  have HR := Lib.hid hr
  have HT := Lib.hid ht
  have HAL := Lib.hid (runs_all ht)
  have HBK := Lib.hid (Rv.runs_book hr ht)
  have hn40 : n ≤ 40 := hr.1.2
  clear hc hcode hr ht
  have HST : Hid (∀ j, j < n → 0 ≤ (rs j).st ∧ (rs j).st ≤ 1000000000000) := fun j hj => by
    have := (HR.out.2 j hj).1.1
    omega
  go_wp2_with fail
  refine (lwStores_any _ n _ rs _ HLS.out.at_ (by omega) HST.out).mono ?_
  rintro e w3 ⟨rfl, hww⟩
  subst hww
  have hst0 := Rv.sumN_nonneg (f := fun j => (rs j).st) (n := n) (fun j hj => (HST.out j hj).1)
  have hst1 := Rv.sumN_le (f := fun j => (rs j).st) (n := n) (M := 1000000000) (fun j hj => (HR.out.2 j hj).1.1.2)
  have hst2 : Rv.sumN (fun j => (rs j).st) n ≤ 40000000000 := by
    have : (n : Int) * 1000000000 ≤ 40000000000 := by omega
    omega
  clear hst1
  obtain ⟨S0, hS0⟩ : ∃ S, S = Rv.sumN (fun j => (rs j).st) n := ⟨_, rfl⟩
  rw [← hS0] at hst0 hst2 ⊢
  have HS0 := Lib.hid hS0
  clear hS0
  go_wp2_with fail
  go_loop [5, 6] (fun sv kv => ∃ k : Nat, k ≤ M ∧ kv = .int .i64 k ∧ sv = .int .i64 (S0 + Rv.rainSum n q k)) (fun _ kv => M - (intOf kv).toNat)
  case atStart => exact ⟨0, Nat.zero_le _, rfl, by show _ = Value.int .i64 (S0 + 0); rw [Int.add_zero]⟩
  case round =>
    obtain ⟨k, hk, rfl, rfl⟩ := hrel
    have hrb := rainSum_bd hn40 k (fun i hi => (HAL.out i (by omega)).2)
    have hk60 : (k : Int) * 40000000 ≤ 2400000000 := by omega
    by_cases hlt : k < M
    · have hltz : (k : Int) < (M : Int) := by omega
      have hk0 : (0 : Int) ≤ (k : Int) := by omega
      obtain ⟨rb, ai, rc', rfl, hrc, hia⟩ := HRA.out.at_ hlt
      have HIA := Lib.hid hia
      have hql := (HAL.out k hlt).1
      have HQ := Lib.hid (HAL.out k hlt).2
      have h3 := Rv.sumN_nonneg (f := (q k).at_) (n := n) (fun j hj => (HQ.out j hj).1)
      have h4 := Rv.sumN_le (f := (q k).at_) (n := n) (M := 1000000) (fun j hj => (HQ.out j hj).2)
      have h5 : Rv.sumN (q k).at_ n ≤ 40000000 := by
        have : (n : Int) * 1000000 ≤ 40000000 := by omega
        omega
      have HRN : Hid (Rv.rainSum n q (k + 1) = Rv.rainSum n q k + Rv.sumN (q k).at_ n) := rfl
      rw [hql] at hrc
      have HIA2 : Hid (IntsAt ai n (q k).at_ w3) := by have := HIA.out; rw [hql] at this; exact this
      clear hia HIA h4 hql
      go_wp2_with fail
      refine (lwSum_any ai n rc' (q k).at_ _ HIA2.out (by omega) (fun j hj => by have := HQ.out j hj; omega)).mono ?_
      rintro e w4 ⟨rfl, hww⟩
      subst hww
      generalize Rv.sumN (q k).at_ n = X at *
      generalize hY : Rv.rainSum n q k = Y at *
      go_wp2_with fail
      go_round
      case rel => exact ⟨k + 1, by omega, by go_num, by rw [HRN.out, Int.add_assoc]⟩
      case measure => simp [intOf]; omega
    · obtain rfl : k = M := by omega
      have HNW : Hid (∀ j u, ((listOf rs n).flatMap rcCells)[j]? = some u → (w3.alloc (.cells #[] 43)).cell? ((⟨gl, 0, none⟩ : Addr).add j) = some u) := rc_news (fun i hi => (HLS.out.cells hi).block (blk_alloc_lt _ _ _ HLS.out.lt))
      go_wp2_with (at_builtin; refine wpList_append_own _ rfl _ _ 25 rfl w3.heap.size 43 i0 (.agg #[.int .i64 0, .int .i64 0, .int .i64 0, .int .i64 0, .int .i64 0]) 5 40 Tryd.underlying25 hi0 hy0 hy1 hy2 rfl (by decide) _ _ _ rfl (World.ownsRow_made w3 #[] 0 (Nat.le_refl _) (Nat.zero_le _) rfl) ⟨gl, 0, none⟩ n cl ((listOf rs n).flatMap rcCells) rfl (by rw [rcCells_len, listOf_len]) HNW.out rc_one (by unfold maxLen; omega) (by omega) (by simp) ?_)
      intro v5 w5 hown hgrow hnil
      have hb5 : Below w3.heap.size w3 w5 := ((Below.refl _ _).alloc (Nat.le_refl _) _).grown hgrow (by simp) (fun k e => by cases e; exact Nat.le_refl _)
      obtain ⟨g5, c5, rfl, hg5, hls5⟩ := own_rc (by simpa using hown) hn1
      have HL5 := Lib.hid hls5
      have HRA5 := Lib.hid (HRA.out.below hb5)
      have HB5 : Hid (Below w.heap.size w w5) := HB.out.trans (hb5.mono HB.out.size)
      clear hown hgrow hnil hls5 hb5 HNW
      go_wp2_with fail
      refine (implRun_ok g5 n c5 ra k cr rs q t _ (fun i hi => HL5.out.cells hi) HRA5.out hM60 HR.out HT.out).mono ?_
      rintro e w6 ⟨⟨xl, xf, xt, xc, rfl, _, hxl, hxt⟩, hb6⟩
      have HXL := Lib.hid hxl
      have HXT := Lib.hid hxt
      have HB6 : Hid (Below w.heap.size w w6) := HB5.out.trans (hb6.mono HB5.out.size)
      clear hxl hxt hb6 HB5 HL5 HRA5
      obtain ⟨W7, hW7⟩ : ∃ W', W' = w6.alloc (.cells #[.slice (some ⟨xl, 0, none⟩) n xc, .slice (some ⟨xf, 0, none⟩) n n, .slice (some ⟨xt, 0, none⟩) n n, .int .i64 t.sea, .int .i64 0] 27) := ⟨_, rfl⟩
      have hb7 : Below w6.heap.size w6 W7 := by rw [hW7]; exact rbel _ _
      have HV : Hid (W7.rowIs w6.heap.size 27 5 (ro5 (.slice (some ⟨xl, 0, none⟩) n xc) (.slice (some ⟨xf, 0, none⟩) n n) (.slice (some ⟨xt, 0, none⟩) n n) t.sea 0)) := by show World.rowIs _ _ _ _ _; rw [hW7]; exact World.rowIs_alloc w6 #[.slice (some ⟨xl, 0, none⟩) n xc, .slice (some ⟨xf, 0, none⟩) n n, .slice (some ⟨xt, 0, none⟩) n n, .int .i64 t.sea, .int .i64 0] 27 _ (ro5_row (.slice (some ⟨xl, 0, none⟩) n xc) (.slice (some ⟨xf, 0, none⟩) n n) (.slice (some ⟨xt, 0, none⟩) n n) t.sea 0)
      obtain ⟨px, hpx⟩ : ∃ g, g = w6.heap.size := ⟨_, rfl⟩
      rw [← hpx] at HV
      obtain ⟨hRt, hbook, hsea, htk⟩ := HBK.out
      have hA0 := Rv.sumN_nonneg (f := fun j => (t.rs j).st) (n := n) (fun j hj => (hRt.2 j hj).1.1.1)
      have hA1 := Rv.sumN_le (f := fun j => (t.rs j).st) (n := n) (M := 1000000000) (fun j hj => (hRt.2 j hj).1.1.2)
      have hB0 := Rv.sumN_nonneg (f := t.tk) (n := n) (fun j hj => (htk j hj).1.1)
      have hB1 := Rv.sumN_le (f := t.tk) (n := n) (M := 60000000) (fun j hj => by have := (htk j hj).1.2; omega)
      have KS : Hid (∀ m, Calls Tryd.prog 36 #[.slice (some ⟨xl, 0, none⟩) n xc] (W7.drewN m) fun e w' => e = .returned (.int .i64 (Rv.sumN (fun j => (t.rs j).st) n)) ∧ w' = W7.drewN m) := fun m => lwStores_any _ n xc t.rs _ ((HXL.out.at_.below hb7).below (below_drewN (Below.refl _ _) m)) (by omega) (fun j hj => by have := (hRt.2 j hj).1.1; omega)
      have KT : Hid (∀ m, Calls Tryd.prog 37 #[.slice (some ⟨xt, 0, none⟩) n n] (W7.drewN m) fun e w' => e = .returned (.int .i64 (Rv.sumN t.tk n)) ∧ w' = W7.drewN m) := fun m => lwSum_any _ n n t.tk _ ((HXT.out.at_.below hb7).below (below_drewN (Below.refl _ _) m)) (by omega) (fun j hj => by have := (htk j hj).1; omega)
      have HB7 : Hid (Below w.heap.size w W7) := HB6.out.trans (hb7.mono HB6.out.size)
      rw [← HS0.out] at hbook
      have hA2 : Rv.sumN (fun j => (t.rs j).st) n ≤ 40000000000 := by
        have : (n : Int) * 1000000000 ≤ 40000000000 := by omega
        omega
      have hB2 : Rv.sumN t.tk n ≤ 2400000000 := by
        have : (n : Int) * 60000000 ≤ 2400000000 := by omega
        omega
      generalize Rv.sumN (fun j => (t.rs j).st) n = X1 at *
      generalize Rv.sumN t.tk n = X2 at *
      generalize Rv.rainSum n q k = X3 at *
      have heq : (S0 + X3 == X1 + X2 + t.sea) = true := by rw [hbook]; simp
      have hs0 := hsea.1
      have hs1 : t.sea ≤ 2500000000000 := by have := hsea.2; omega
      have hnn : ((n : Int) == (n : Int)) = true := by simp
      have HW := Lib.hid hW7
      have HGE := Lib.hid hpx
      clear hA1 hB1 hRt hsea htk HBK hb7 hW7 hpx HXL HXT HB6 hbook hrb hk60
      go_upto_region 12 with fail
      rw [← HW.out, ← HGE.out]
      clear HW HGE
      have x0 : W7.cell? ⟨px, 0, none⟩ = some (.slice (some ⟨xl, 0, none⟩) n xc) := HV.out.cell (i := 0) (by omega)
      have x2 : W7.cell? ⟨px, 2, none⟩ = some (.slice (some ⟨xt, 0, none⟩) n n) := HV.out.cell (i := 2) (by omega)
      have x3 : W7.cell? ⟨px, 3, none⟩ = some (.int .i64 t.sea) := HV.out.cell (i := 3) (by omega)
      have x4 : W7.cell? ⟨px, 4, none⟩ = some (.int .i64 0) := HV.out.cell (i := 4) (by omega)
      go_quiet (first | (go_at_call 36; exact Calls.quiet_of_same (KS.out _)) | (go_at_call 37; exact Calls.quiet_of_same (KT.out _)))
      go_wp2_with fail
      go_ret
      exact ⟨rfl, below_drewN HB7.out _⟩
end Go.Proofs.YtdpghhmcibiplaaDoor
