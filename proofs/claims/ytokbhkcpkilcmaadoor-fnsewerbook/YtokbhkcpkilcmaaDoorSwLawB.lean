/-
  The law FnSewerBook.
-/
import Derived.Test.YtokbhkcpkilcmaaDoorSwSp2
import Derived.Test.YtokbhkcpkilcmaaDoorSwDr4
import Derived.Test.YtokbhkcpkilcmaaDoorSwLw
import Derived.Deep.QuietTactic
import Derived.BigQuiet
namespace Go.Proofs.YtokbhkcpkilcmaaDoor
open Go.RowKit Go.Deep

theorem step_append_when {P : Program} {ops : Array Oper} {o : Oper} {a : Act} {w : World} {K : Act → World → Prop} {Q : Exit → Act → World → Prop} {E : Prop}
    (hw : Region.wanted o (yielded ops a.tmps) = true) (s x : Operand) (t : TypeId) (hop : o.op = Op.call { callee := Callee.builtin Builtin.append, args := #[s, x], argTypes := #[t, t] }) (B : Nat)
    (e : TypeId) (i : TypeInfo) (z : Value) (size bytes : Nat) (h1 : P.underlying t = some (.slice e)) (h2 : P.info? e = some i) (h3 : i.zero = some z) (h4 : i.size = size) (h5 : i.bytes = bytes) (h6 : z.cells.size = size) (h7 : 0 < size)
    (v : Value) (n : Nat) (olds : List Value) (hs : a.eval s = v) (hown : w.ownsRow B e size v n olds)
    (ad : Addr) (m c : Nat) (news : List Value) (hx : a.eval x = .slice (some ad) m c) (hn : news.length = m * size) (hc : ∀ j u, news[j]? = some u → w.cell? (ad.add j) = some u) (h1c : ∀ u ∈ news, u.oneCell' = true)
    (b1 : n + m ≤ maxLen) (b2 : (n + m) * bytes ≤ 140737488355328) (hB : B ≤ w.heap.size)
    (hK : ∀ v' w', w'.ownsRow B e size v' (n + m) (olds ++ news) → w.grownBy w' v.ownBlock → K (a.put o.dst v') w') :
    if Region.wanted o (yielded ops a.tmps) = true then Oper.wp P o a w K Q else E := by
  rw [if_pos hw]
  obtain ⟨v', w', hrun, r1, r2, _⟩ := run_append_own (P := P) w B t o.type e i z size bytes h1 h2 h3 h4 h5 h6 h7 v n olds hown ad m c news hn hc h1c b1 b2 hB
  unfold Oper.wp
  simp [execOp, hop, resolve, invoke, builtin, hs, hx, hrun, Result.andThen]
  exact hK v' w' r1 r2
/-- Of a run that goes well all storms are right. -/
theorem runs_all {n : Nat} {rs : Nat → Sw.Rc} {q : Nat → Sw.Rain} : ∀ {M : Nat} {t : Sw.RSt}, Sw.runs n rs q M = some t → ∀ k, k < M → (q k).len = n ∧ Sw.RainOk n (q k).at_
  | 0, _, _, k, hk => absurd hk (Nat.not_lt_zero _)
  | M + 1, t, h, k, hk => by
    obtain ⟨t0, h0, hq, _⟩ := Sw.runs_prev h
    by_cases e : k = M
    · subst e; exact hq
    · exact runs_all h0 k (by omega)
theorem rainSum_bd {n : Nat} {q : Nat → Sw.Rain} (hn : n ≤ 40) : ∀ k, (∀ i, i < k → Sw.RainOk n (q i).at_) → 0 ≤ Sw.rainSum n q k ∧ Sw.rainSum n q k ≤ (k : Int) * 40000000
  | 0, _ => by simp [Sw.rainSum]
  | k + 1, h => by
    have h1 := rainSum_bd hn k (fun i hi => h i (by omega))
    have h2 := h k (by omega)
    have h3 := Sw.sumN_nonneg (f := (q k).at_) (n := n) (fun j hj => (h2 j hj).1)
    have h4 := Sw.sumN_le (f := (q k).at_) (n := n) (M := 1000000) (fun j hj => (h2 j hj).2)
    have h5 : (n : Int) * 1000000 ≤ 40000000 := by omega
    show 0 ≤ Sw.rainSum n q k + Sw.sumN (q k).at_ n ∧ Sw.rainSum n q k + Sw.sumN (q k).at_ n ≤ _
    have h6 : ((k + 1 : Nat) : Int) * 40000000 = (k : Int) * 40000000 + 40000000 := by rw [Int.natCast_add, Int.add_mul]; rfl
    omega
theorem bcode_field (a b c : Value) (d e : Int) (w : World) : (Instr.field 27 (.agg #[a, b, c, .int .i64 d, .int .i64 e]) 4).run Tryd.prog w = .ok (.int .i64 e) w := by kernel_rfl
theorem has_spills {tk : Nat → Int} {n i : Nat} (hi : i < n) : (decide (0 < tk i)) = true ↔ ∃ j, j < (Sw.spills tk n).length ∧ (((Sw.spills tk n).getD j 0 : Nat) : Int) = (i : Int) := by
  rw [decide_eq_true_iff, ← Sw.mem_spills (m := n) hi]
  constructor
  · intro h
    obtain ⟨j, hj, e⟩ := List.mem_iff_getElem.1 h
    exact ⟨j, hj, by rw [List.getD_eq_getElem?_getD, List.getElem?_eq_getElem hj]; simp [e]⟩
  · rintro ⟨j, hj, e⟩
    rw [List.getD_eq_getElem?_getD, List.getElem?_eq_getElem hj] at e
    have e3 : (((Sw.spills tk n)[j] : Nat) : Int) = (i : Int) := by simpa using e
    have e2 : (Sw.spills tk n)[j] = i := by omega
    rw [← e2]; exact List.getElem_mem hj

set_option linter.unusedSimpArgs false in
set_option maxRecDepth 100000 in
set_option maxHeartbeats 8000000 in
theorem sewerBook_law (w : World) (a : Option Addr) (len cap : Nat) (h : Bytes a len w) (_u : len ≤ 9223372036854775807) (hg : Et w) :
    Calls Tryd.prog 6 #[.slice a len cap] w fun e w' => e = .returned (.bool true) ∧ Below w.heap.size w w' := by
  clear _u
  have HG := Lib.hid hg
  clear hg
  by_cases hb1 : 1048576 < len
  · have hz : (1048576 : Int) < (len : Int) := by omega
    clear h
    go_enter Tryd.func6, Tryd.ntmps6
    go_wp2
    go_ret
    exact ⟨rfl, Below.refl _ _⟩
  have hz1' : ¬ (1048576 : Int) < (len : Int) := by omega
  have H := Lib.hid h
  clear h
  obtain ⟨i0, hi0, hy0, hy1, hy2⟩ := info_parts info_rc
  go_enter Tryd.func6, Tryd.ntmps6
  go_wp2_with fail
  refine (drawRun_any a len cap w H.out (by omega)).mono ?_
  rintro e w1 ⟨hE, hB⟩
  obtain ⟨n, gl, cl, rs, M, ra, cr, q, rfl, ⟨hn1, hn2⟩, hls, hra, hM, hlen⟩ := hE
  have HLS := Lib.hid hls
  have HRA := Lib.hid hra
  have HB := Lib.hid hB
  have HLN : Hid (∀ k, k < M → (q k).len ≤ 4194304) := fun k hk => by have := hlen k hk; omega
  clear hls hra hB hlen
  go_wp2_with fail
  refine (specRun_any _ ra n cl M cr rs q _ HLS.out.at_ HRA.out).mono ?_
  rintro e w2 ⟨hE, hb⟩
  replace HLS := Lib.hid (HLS.out.block (hb.block _ HLS.out.lt))
  replace HRA := Lib.hid (HRA.out.below hb)
  replace HB : Hid (Below w.heap.size w w2) := HB.out.trans (hb.mono HB.out.size)
  clear hb
  have hcf := bcode_field
  rcases hE with ⟨k, _, hk0, rfl⟩ | ⟨t, yl, yf, yt, yc, hrf, rfl, _⟩
  · have hcz : (k != 0) = true := by simpa using hk0
    clear hk0
    go_wp2_with fail
    go_ret
    exact ⟨rfl, HB.out⟩
  obtain ⟨hr, hM60, ht⟩ := runF_some hrf
  have HRF := Lib.hid hrf
  have HR := Lib.hid hr
  have HAL := Lib.hid (runs_all ht)
  have HBK := Lib.hid (Sw.runs_book hr ht)
  have hn40 : n ≤ 40 := hr.1.2
  clear hr ht hrf
  have HST : Hid (∀ j, j < n → 0 ≤ (rs j).st ∧ (rs j).st ≤ 1000000000000) := fun j hj => by
    have h1 := (HR.out.2 j hj).1.2.2.2.2
    have h2 := (HR.out.2 j hj).1.2.1
    omega
  go_wp2_with fail
  clear hcf
  refine (lwStores_any _ n _ rs _ HLS.out.at_ (by omega) HST.out).mono ?_
  rintro e w3 ⟨rfl, hww⟩
  subst w3
  have hst0 := Sw.sumN_nonneg (f := fun j => (rs j).st) (n := n) (fun j hj => (HST.out j hj).1)
  have hst1 := Sw.sumN_le (f := fun j => (rs j).st) (n := n) (M := 1000000) (fun j hj => by have h1 := (HR.out.2 j hj).1.2.2.2.2; have h2 := (HR.out.2 j hj).1.2.1; omega)
  have hst2 : Sw.sumN (fun j => (rs j).st) n ≤ 40000000 := by
    have : (n : Int) * 1000000 ≤ 40000000 := by omega
    omega
  clear hst1
  obtain ⟨S0, hS0⟩ : ∃ S, S = Sw.sumN (fun j => (rs j).st) n := ⟨_, rfl⟩
  rw [← hS0] at hst0 hst2 ⊢
  have HS0 := Lib.hid hS0
  clear hS0
  go_wp2_with fail
  go_loop [5, 6] (fun sv kv => ∃ k : Nat, k ≤ M ∧ kv = .int .i64 k ∧ sv = .int .i64 (S0 + Sw.rainSum n q k)) (fun _ kv => M - (intOf kv).toNat)
  case atStart => exact ⟨0, Nat.zero_le _, rfl, by show _ = Value.int .i64 (S0 + 0); rw [Int.add_zero]⟩
  case round =>
    obtain ⟨k, hk, rfl, rfl⟩ := hrel
    have hrb := rainSum_bd hn40 k (fun i hi => (HAL.out i (by omega)).2)
    have hk60 : (k : Int) * 40000000 ≤ 2400000000 := by omega
    by_cases hlt : k < M
    · have hltz : (k : Int) < (M : Int) := by omega
      have hk0 : (0 : Int) ≤ (k : Int) := by omega
      obtain ⟨rb, ai, rc', rfl, hrc, hia⟩ := HRA.out.at_ hlt
      have HIA := Lib.hid hia
      have hql := (HAL.out k hlt).1
      have HQ := Lib.hid (HAL.out k hlt).2
      have h3 := Sw.sumN_nonneg (f := (q k).at_) (n := n) (fun j hj => (HQ.out j hj).1)
      have h4 := Sw.sumN_le (f := (q k).at_) (n := n) (M := 1000000) (fun j hj => (HQ.out j hj).2)
      have h5 : Sw.sumN (q k).at_ n ≤ 40000000 := by
        have : (n : Int) * 1000000 ≤ 40000000 := by omega
        omega
      have HRN : Hid (Sw.rainSum n q (k + 1) = Sw.rainSum n q k + Sw.sumN (q k).at_ n) := rfl
      rw [hql] at hrc
      have HIA2 : Hid (IntsAt ai n (q k).at_ w2) := by have := HIA.out; rw [hql] at this; exact this
      clear hia HIA h4 hql
      go_wp2_with fail
      refine (lwSum_any ai n rc' (q k).at_ _ HIA2.out (by omega) (fun j hj => by have := HQ.out j hj; omega)).mono ?_
      rintro e w4 ⟨rfl, hww⟩
      subst w4
      generalize Sw.sumN (q k).at_ n = X at *
      generalize hY : Sw.rainSum n q k = Y at *
      go_wp2_with fail
      go_round
      case rel => exact ⟨k + 1, by omega, by go_num, by rw [HRN.out, Int.add_assoc]⟩
      case measure => simp [intOf]; omega
    · obtain rfl : k = M := by omega
      have HNW : Hid (∀ j u, (inVs (scF rs) (n * 6))[j]? = some u → (w2.alloc (.cells #[] 55)).cell? ((⟨gl, 0, none⟩ : Addr).add j) = some u) := rc_news (fun i hi => (HLS.out.cells hi).block (blk_alloc_lt _ _ _ HLS.out.lt))
      go_wp2_with (at_builtin; refine wpList_append_own _ rfl _ _ 25 rfl w2.heap.size 55 i0 (.agg #[.int .i64 0, .int .i64 0, .int .i64 0, .int .i64 0, .int .i64 0, .int .i64 0]) 6 48 Tryd.underlying25 hi0 hy0 hy1 hy2 rfl (by decide) _ _ _ rfl (World.ownsRow_made w2 #[] 0 (Nat.le_refl _) (Nat.zero_le _) rfl) ⟨gl, 0, none⟩ n cl (inVs (scF rs) (n * 6)) rfl (by rw [inVs_len]) HNW.out rc_one (by unfold maxLen; omega) (by omega) (by simp) ?_)
      intro v5 w5 hown hgrow hnil
      have hb5 : Below w2.heap.size w2 w5 := ((Below.refl _ _).alloc (Nat.le_refl _) _).grown hgrow (by simp) (fun k e => by cases e; exact Nat.le_refl _)
      obtain ⟨g5, c5, rfl, hg5, hls5⟩ := own_rc (by simpa using hown) hn1
      have HL5 := Lib.hid hls5
      have HRA5 := Lib.hid (HRA.out.below hb5)
      have HLS5 := Lib.hid (HLS.out.block (hb5.block _ HLS.out.lt))
      have HB5 : Hid (Below w.heap.size w w5) := HB.out.trans (hb5.mono HB.out.size)
      clear hown hgrow hnil hls5 hb5 HNW HRA HLS HB
      go_wp2_with fail
      refine (implRun_any _ ra n c5 k cr rs q _ HL5.out.at_ HRA5.out HLN.out (HG.out.below HB5.out)).mono ?_
      rintro e w6 ⟨hE, hb6⟩
      rw [HRF.out] at hE
      rcases hE with ⟨_, e9, _⟩ | ⟨t2, xl, xf, xt, xc, e9, rfl, hL⟩
      · cases e9
      obtain rfl : t = t2 := Option.some.inj e9
      obtain ⟨W7, hW7⟩ : ∃ W', W' = w6.alloc (.cells #[.slice (some ⟨xl, 0, none⟩) n xc, .slice (some ⟨xf, 0, none⟩) n n, .slice (some ⟨xt, 0, none⟩) n n, .int .i64 t.sea, .int .i64 0] 27) := ⟨_, rfl⟩
      have hb7 : Below w6.heap.size w6 W7 := by rw [hW7]; exact rbel _ _
      have HXL : Hid (RcBlk xl n t.rs W7) := hL.2.2.1.block (hb7.block _ hL.2.2.1.lt)
      have HXT : Hid (InBlk xt n t.tk W7) := hL.2.2.2.2.block (hb7.block _ hL.2.2.2.2.lt)
      have HB7 : Hid (Below w.heap.size w W7) := (HB5.out.trans (hb6.mono HB5.out.size)).trans (hb7.mono (Nat.le_trans HB5.out.size hb6.size))
      have HRA7 : Hid (RainsAt ra k q W7) := (HRA5.out.below hb6).below hb7
      have HLS7 : Hid (RcBlk gl n rs W7) := (HLS5.out.block (hb6.block _ HLS5.out.lt)).block (hb7.block _ (by have := HLS5.out.lt; have := hb6.size; omega))
      have HV : Hid (W7.rowIs w6.heap.size 27 5 (ro5 (.slice (some ⟨xl, 0, none⟩) n xc) (.slice (some ⟨xf, 0, none⟩) n n) (.slice (some ⟨xt, 0, none⟩) n n) t.sea 0)) := by show World.rowIs _ _ _ _ _; rw [hW7]; exact World.rowIs_alloc w6 _ 27 _ (ro5_row _ _ _ _ _)
      clear hL e9 hb6 HB5 HL5 HRA5 HLS5 hb7
      obtain ⟨px, hpx⟩ : ∃ g, g = w6.heap.size := ⟨_, rfl⟩
      rw [← hpx] at HV
      obtain ⟨hRt, hbook, hsea, htk⟩ := HBK.out
      have HRT := Lib.hid hRt
      have HA9 : Hid (∀ j, j < n → 0 ≤ (t.rs j).st ∧ (t.rs j).st ≤ 1000000000000) := fun j hj => by
        have h1 := (HRT.out.2 j hj).1.2.2.2.2
        have h2 := (HRT.out.2 j hj).1.2.1
        omega
      have HB9 : Hid (∀ j, j < n → 0 ≤ t.tk j ∧ t.tk j ≤ 1000000000000) := fun j hj => by have := (htk j hj).1; omega
      have hA0 := Sw.sumN_nonneg (f := fun j => (t.rs j).st) (n := n) (fun j hj => (HA9.out j hj).1)
      have hA1 := Sw.sumN_le (f := fun j => (t.rs j).st) (n := n) (M := 1000000) (fun j hj => by have h1 := (HRT.out.2 j hj).1.2.2.2.2; have h2 := (HRT.out.2 j hj).1.2.1; omega)
      have hB0 := Sw.sumN_nonneg (f := t.tk) (n := n) (fun j hj => (htk j hj).1.1)
      have hB1 := Sw.sumN_le (f := t.tk) (n := n) (M := 4800000000) (fun j hj => by have := (htk j hj).1.2; omega)
      rw [← HS0.out] at hbook
      have hA2 : Sw.sumN (fun j => (t.rs j).st) n ≤ 40000000 := by
        have : (n : Int) * 1000000 ≤ 40000000 := by omega
        omega
      have hB2 : Sw.sumN t.tk n ≤ 192000000000 := by
        have : (n : Int) * 4800000000 ≤ 192000000000 := by omega
        omega
      obtain ⟨X1, hX1⟩ : ∃ X, X = Sw.sumN (fun j => (t.rs j).st) n := ⟨_, rfl⟩
      obtain ⟨X2, hX2⟩ : ∃ X, X = Sw.sumN t.tk n := ⟨_, rfl⟩
      rw [← hX1] at hA0 hA2 hbook
      rw [← hX2] at hB0 hB2 hbook
      have HX1 := Lib.hid hX1
      have HX2 := Lib.hid hX2
      clear hX1 hX2
      generalize Sw.rainSum n q k = X3 at *
      have heq : (S0 + X3 == X1 + X2 + t.sea) = true := by rw [hbook]; simp
      have hne9 : (S0 + X3 != X1 + X2 + t.sea) = false := by rw [hbook]; simp
      have hs0 := hsea.1
      have hs1 : t.sea ≤ 4800000000 := by have := hsea.2; omega
      have hnn : ((n : Int) == (n : Int)) = true := by simp
      have hnn2 : ((n : Int) != (n : Int)) = false := by simp
      have hw12 : IntKind.i64.wrap (X1 + X2) = X1 + X2 := by rw [IntKind.wrap_i64]; omega
      have hw13 : IntKind.i64.wrap (X1 + X2 + t.sea) = X1 + X2 + t.sea := by rw [IntKind.wrap_i64]; omega
      have HW := Lib.hid hW7
      have HGE := Lib.hid hpx
      clear hA1 hB1 hRt hsea htk HBK hW7 hpx hbook hrb hk60
      go_upto_region 12 with fail
      rw [← HW.out, ← HGE.out]
      clear HW HGE
      refine wp_region_held_drew (S := fun V => Below W7.heap.size W7 V) (by kernel_rfl) (Below.refl _ _).drew (fun hHeld => ?_)
      obtain ⟨Z, hZ⟩ : ∃ Z, Z = W7.drew := ⟨_, rfl⟩
      rw [← hZ] at hHeld ⊢
      clear hZ
      refine take_do (i := 0) (v := (.pointer (some ⟨px, 4, none⟩))) rfl (by kernel_rfl) (by kernel_rfl) (by kernel_rfl) (fun _ _ _ h => h) (by rfl) ?_ (by assumption) ?_
      · intro w hSw
        skip
        go_simp
      simp only [Act.put, List.setIfInBounds_toArray, List.set_cons_zero, List.set_cons_succ]
      refine take_do (i := 1) (v := (.int .i64 0)) rfl (by kernel_rfl) (by kernel_rfl) (by kernel_rfl) (fun _ _ _ h => h) (by rfl) ?_ (by assumption) ?_
      · intro w hSw
        have x9 : World.cell? _ ⟨px, 4, none⟩ = some (.int .i64 0) := (rrow_below HV.out hSw).cell (i := 4) (by omega)
        go_simp
      simp only [Act.put, List.setIfInBounds_toArray, List.set_cons_zero, List.set_cons_succ]
      refine take_do (i := 2) (v := (.bool false)) rfl (by kernel_rfl) (by kernel_rfl) (by kernel_rfl) (fun _ _ _ h => h) (by rfl) ?_ (by assumption) ?_
      · intro w hSw
        skip
        go_simp
      simp only [Act.put, List.setIfInBounds_toArray, List.set_cons_zero, List.set_cons_succ]
      refine take_do (i := 3) (v := (.bool false)) rfl (by kernel_rfl) (by kernel_rfl) (by kernel_rfl) (fun _ _ _ h => h) (by rfl) ?_ (by assumption) ?_
      · intro w hSw
        skip
        go_simp
      simp only [Act.put, List.setIfInBounds_toArray, List.set_cons_zero, List.set_cons_succ]
      refine take_do (i := 4) (v := (.pointer (some ⟨px, 0, none⟩))) rfl (by kernel_rfl) (by kernel_rfl) (by kernel_rfl) (fun _ _ _ h => h) (by rfl) ?_ (by assumption) ?_
      · intro w hSw
        skip
        go_simp
      simp only [Act.put, List.setIfInBounds_toArray, List.set_cons_zero, List.set_cons_succ]
      refine take_do (i := 5) (v := (.slice (some ⟨xl, 0, none⟩) n xc)) rfl (by kernel_rfl) (by kernel_rfl) (by kernel_rfl) (fun _ _ _ h => h) (by rfl) ?_ (by assumption) ?_
      · intro w hSw
        have x9 : World.cell? _ ⟨px, 0, none⟩ = some (.slice (some ⟨xl, 0, none⟩) n xc) := (rrow_below HV.out hSw).cell (i := 0) (by omega)
        go_simp
      simp only [Act.put, List.setIfInBounds_toArray, List.set_cons_zero, List.set_cons_succ]
      refine take_do (i := 6) (v := (.int .i64 (n : Int))) rfl (by kernel_rfl) (by kernel_rfl) (by kernel_rfl) (fun _ _ _ h => h) (by rfl) ?_ (by assumption) ?_
      · intro w hSw
        skip
        go_simp
      simp only [Act.put, List.setIfInBounds_toArray, List.set_cons_zero, List.set_cons_succ]
      refine take_do (i := 7) (v := (.slice (some ⟨gl, 0, none⟩) n cl)) rfl (by kernel_rfl) (by kernel_rfl) (by kernel_rfl) (fun _ _ _ h => h) (by rfl) ?_ (by assumption) ?_
      · intro w hSw
        skip
        go_simp
      simp only [Act.put, List.setIfInBounds_toArray, List.set_cons_zero, List.set_cons_succ]
      refine take_do (i := 8) (v := (.int .i64 (n : Int))) rfl (by kernel_rfl) (by kernel_rfl) (by kernel_rfl) (fun _ _ _ h => h) (by rfl) ?_ (by assumption) ?_
      · intro w hSw
        skip
        go_simp
      simp only [Act.put, List.setIfInBounds_toArray, List.set_cons_zero, List.set_cons_succ]
      refine take_do (i := 9) (v := (.bool false)) rfl (by kernel_rfl) (by kernel_rfl) (by kernel_rfl) (fun _ _ _ h => h) (by rfl) ?_ (by assumption) ?_
      · intro w hSw
        skip
        go_simp
      simp only [Act.put, List.setIfInBounds_toArray, List.set_cons_zero, List.set_cons_succ]
      refine take_do (i := 10) (v := (.bool false)) rfl (by kernel_rfl) (by kernel_rfl) (by kernel_rfl) (fun _ _ _ h => h) (by rfl) ?_ (by assumption) ?_
      · intro w hSw
        skip
        go_simp
      simp only [Act.put, List.setIfInBounds_toArray, List.set_cons_zero, List.set_cons_succ]
      refine take_do (i := 11) (v := (.bool false)) rfl (by kernel_rfl) (by kernel_rfl) (by kernel_rfl) (fun _ _ _ h => h) (by rfl) ?_ (by assumption) ?_
      · intro w hSw
        skip
        go_simp
      simp only [Act.put, List.setIfInBounds_toArray, List.set_cons_zero, List.set_cons_succ]
      refine take_do (i := 12) (v := (.pointer (some ⟨px, 2, none⟩))) rfl (by kernel_rfl) (by kernel_rfl) (by kernel_rfl) (fun _ _ _ h => h) (by rfl) ?_ (by assumption) ?_
      · intro w hSw
        skip
        go_simp
      simp only [Act.put, List.setIfInBounds_toArray, List.set_cons_zero, List.set_cons_succ]
      refine take_do (i := 13) (v := (.slice (some ⟨xt, 0, none⟩) n n)) rfl (by kernel_rfl) (by kernel_rfl) (by kernel_rfl) (fun _ _ _ h => h) (by rfl) ?_ (by assumption) ?_
      · intro w hSw
        have x9 : World.cell? _ ⟨px, 2, none⟩ = some (.slice (some ⟨xt, 0, none⟩) n n) := (rrow_below HV.out hSw).cell (i := 2) (by omega)
        go_simp
      simp only [Act.put, List.setIfInBounds_toArray, List.set_cons_zero, List.set_cons_succ]
      refine take_do (i := 14) (v := (.int .i64 (n : Int))) rfl (by kernel_rfl) (by kernel_rfl) (by kernel_rfl) (fun _ _ _ h => h) (by rfl) ?_ (by assumption) ?_
      · intro w hSw
        skip
        go_simp
      simp only [Act.put, List.setIfInBounds_toArray, List.set_cons_zero, List.set_cons_succ]
      refine take_do (i := 15) (v := (.slice (some ⟨gl, 0, none⟩) n cl)) rfl (by kernel_rfl) (by kernel_rfl) (by kernel_rfl) (fun _ _ _ h => h) (by rfl) ?_ (by assumption) ?_
      · intro w hSw
        skip
        go_simp
      simp only [Act.put, List.setIfInBounds_toArray, List.set_cons_zero, List.set_cons_succ]
      refine take_do (i := 16) (v := (.int .i64 (n : Int))) rfl (by kernel_rfl) (by kernel_rfl) (by kernel_rfl) (fun _ _ _ h => h) (by rfl) ?_ (by assumption) ?_
      · intro w hSw
        skip
        go_simp
      simp only [Act.put, List.setIfInBounds_toArray, List.set_cons_zero, List.set_cons_succ]
      refine take_do (i := 17) (v := (.bool false)) rfl (by kernel_rfl) (by kernel_rfl) (by kernel_rfl) (fun _ _ _ h => h) (by rfl) ?_ (by assumption) ?_
      · intro w hSw
        skip
        go_simp
      simp only [Act.put, List.setIfInBounds_toArray, List.set_cons_zero, List.set_cons_succ]
      refine take_do (i := 18) (v := (.bool false)) rfl (by kernel_rfl) (by kernel_rfl) (by kernel_rfl) (fun _ _ _ h => h) (by rfl) ?_ (by assumption) ?_
      · intro w hSw
        skip
        go_simp
      simp only [Act.put, List.setIfInBounds_toArray, List.set_cons_zero, List.set_cons_succ]
      refine take_do (i := 19) (v := (.bool false)) rfl (by kernel_rfl) (by kernel_rfl) (by kernel_rfl) (fun _ _ _ h => h) (by rfl) ?_ (by assumption) ?_
      · intro w hSw
        skip
        go_simp
      simp only [Act.put, List.setIfInBounds_toArray, List.set_cons_zero, List.set_cons_succ]
      refine take_do (i := 20) (v := (.int .i64 (S0 + X3))) rfl (by kernel_rfl) (by kernel_rfl) (by kernel_rfl) (fun _ _ _ h => h) (by rfl) ?_ (by assumption) ?_
      · intro w hSw
        skip
        go_simp
      simp only [Act.put, List.setIfInBounds_toArray, List.set_cons_zero, List.set_cons_succ]
      refine take_do (i := 21) (v := (.pointer (some ⟨px, 0, none⟩))) rfl (by kernel_rfl) (by kernel_rfl) (by kernel_rfl) (fun _ _ _ h => h) (by rfl) ?_ (by assumption) ?_
      · intro w hSw
        skip
        go_simp
      simp only [Act.put, List.setIfInBounds_toArray, List.set_cons_zero, List.set_cons_succ]
      refine take_do (i := 22) (v := (.slice (some ⟨xl, 0, none⟩) n xc)) rfl (by kernel_rfl) (by kernel_rfl) (by kernel_rfl) (fun _ _ _ h => h) (by rfl) ?_ (by assumption) ?_
      · intro w hSw
        have x9 : World.cell? _ ⟨px, 0, none⟩ = some (.slice (some ⟨xl, 0, none⟩) n xc) := (rrow_below HV.out hSw).cell (i := 0) (by omega)
        go_simp
      simp only [Act.put, List.setIfInBounds_toArray, List.set_cons_zero, List.set_cons_succ]
      refine take_do (i := 24) (v := (.pointer (some ⟨px, 2, none⟩))) rfl (by kernel_rfl) (by kernel_rfl) (by kernel_rfl) (fun _ _ _ h => h) (by rfl) ?_ (by assumption) ?_
      · intro w hSw
        skip
        go_simp
      simp only [Act.put, List.setIfInBounds_toArray, List.set_cons_zero, List.set_cons_succ]
      refine take_do (i := 25) (v := (.slice (some ⟨xt, 0, none⟩) n n)) rfl (by kernel_rfl) (by kernel_rfl) (by kernel_rfl) (fun _ _ _ h => h) (by rfl) ?_ (by assumption) ?_
      · intro w hSw
        have x9 : World.cell? _ ⟨px, 2, none⟩ = some (.slice (some ⟨xt, 0, none⟩) n n) := (rrow_below HV.out hSw).cell (i := 2) (by omega)
        go_simp
      simp only [Act.put, List.setIfInBounds_toArray, List.set_cons_zero, List.set_cons_succ]
      refine take_do (i := 28) (v := (.pointer (some ⟨px, 3, none⟩))) rfl (by kernel_rfl) (by kernel_rfl) (by kernel_rfl) (fun _ _ _ h => h) (by rfl) ?_ (by assumption) ?_
      · intro w hSw
        skip
        go_simp
      simp only [Act.put, List.setIfInBounds_toArray, List.set_cons_zero, List.set_cons_succ]
      refine take_do (i := 29) (v := (.int .i64 t.sea)) rfl (by kernel_rfl) (by kernel_rfl) (by kernel_rfl) (fun _ _ _ h => h) (by rfl) ?_ (by assumption) ?_
      · intro w hSw
        have x9 : World.cell? _ ⟨px, 3, none⟩ = some (.int .i64 t.sea) := (rrow_below HV.out hSw).cell (i := 3) (by omega)
        go_simp
      simp only [Act.put, List.setIfInBounds_toArray, List.set_cons_zero, List.set_cons_succ]
      refine take_call (i := 23) rfl (by kernel_rfl) (fun K2 hK => ?_)
      go_simp
      refine (lwStores_any _ n xc t.rs _ (HXL.out.at_.below hHeld) (by omega) HA9.out).mono ?_
      rintro e w9 ⟨rfl, hw9⟩
      subst w9
      rw [← HX1.out]
      go_wp2_with fail
      refine hK.out _ _ hHeld (fun hHeld2 => ?_)
      clear hK hHeld
      have hHeld := hHeld2
      clear hHeld2
      refine take_call (i := 26) rfl (by kernel_rfl) (fun K2 hK => ?_)
      go_simp
      refine (lwSum_any _ n n t.tk _ (HXT.out.at_.below hHeld) (by omega) HB9.out).mono ?_
      rintro e w9 ⟨rfl, hw9⟩
      subst w9
      rw [← HX2.out]
      go_wp2_with fail
      refine hK.out _ _ hHeld (fun hHeld2 => ?_)
      clear hK hHeld
      have hHeld := hHeld2
      clear hHeld2
      refine take_do (i := 27) (v := (.int .i64 (X1 + X2))) rfl (by kernel_rfl) (by kernel_rfl) (by kernel_rfl) (fun _ _ _ h => h) (by rfl) ?_ (by assumption) ?_
      · intro w hSw
        skip
        go_simp
      simp only [Act.put, List.setIfInBounds_toArray, List.set_cons_zero, List.set_cons_succ]
      refine take_do (i := 30) (v := (.int .i64 (X1 + X2 + t.sea))) rfl (by kernel_rfl) (by kernel_rfl) (by kernel_rfl) (fun _ _ _ h => h) (by rfl) ?_ (by assumption) ?_
      · intro w hSw
        skip
        go_simp
      simp only [Act.put, List.setIfInBounds_toArray, List.set_cons_zero, List.set_cons_succ]
      refine take_do (i := 31) (v := (.bool false)) rfl (by kernel_rfl) (by kernel_rfl) (by kernel_rfl) (fun _ _ _ h => h) (by rfl) ?_ (by assumption) ?_
      · intro w hSw
        skip
        go_simp
      simp only [Act.put, List.setIfInBounds_toArray, List.set_cons_zero, List.set_cons_succ]
      refine take_do (i := 32) (v := (.bool false)) rfl (by kernel_rfl) (by kernel_rfl) (by kernel_rfl) (fun _ _ _ h => h) (by rfl) ?_ (by assumption) ?_
      · intro w hSw
        skip
        go_simp
      simp only [Act.put, List.setIfInBounds_toArray, List.set_cons_zero, List.set_cons_succ]
      refine take_do (i := 33) (v := (.bool false)) rfl (by kernel_rfl) (by kernel_rfl) (by kernel_rfl) (fun _ _ _ h => h) (by rfl) ?_ (by assumption) ?_
      · intro w hSw
        skip
        go_simp
      simp only [Act.put, List.setIfInBounds_toArray, List.set_cons_zero, List.set_cons_succ]
      refine take_do (i := 35) (v := (.pointer (some ⟨px, 0, none⟩))) rfl (by kernel_rfl) (by kernel_rfl) (by kernel_rfl) (fun _ _ _ h => h) (by rfl) ?_ (by assumption) ?_
      · intro w hSw
        skip
        go_simp
      simp only [Act.put, List.setIfInBounds_toArray, List.set_cons_zero, List.set_cons_succ]
      refine take_do (i := 36) (v := (.slice (some ⟨xl, 0, none⟩) n xc)) rfl (by kernel_rfl) (by kernel_rfl) (by kernel_rfl) (fun _ _ _ h => h) (by rfl) ?_ (by assumption) ?_
      · intro w hSw
        have x9 : World.cell? _ ⟨px, 0, none⟩ = some (.slice (some ⟨xl, 0, none⟩) n xc) := (rrow_below HV.out hSw).cell (i := 0) (by omega)
        go_simp
      simp only [Act.put, List.setIfInBounds_toArray, List.set_cons_zero, List.set_cons_succ]
      refine take_call (i := 34) rfl (by kernel_rfl) (fun K2 hK => ?_)
      obtain ⟨Z1, hZ1⟩ : ∃ Z', Z' = Z.alloc (.cells #[] 55) := ⟨_, rfl⟩
      have hb : Below Z.heap.size Z Z1 := by rw [hZ1]; exact rbel _ _
      have OW : Hid (Z1.ownsRow W7.heap.size 55 6 (.slice (some ⟨Z.heap.size, 0, none⟩) 0 0) 0 []) := by show World.ownsRow _ _ _ _ _ _ _; rw [hZ1]; exact World.ownsRow_made Z #[] 0 hHeld.size (Nat.zero_le _) rfl
      go_simp
      rw [← hZ1]
      clear hZ1
      refine hK.out _ _ (hHeld.trans (hb.mono hHeld.size)) (fun hHeld2 => ?_)
      clear hK hHeld hb
      have hHeld := hHeld2
      clear hHeld2
      refine take_call (i := 37) rfl (by kernel_rfl) (fun K2 hK => ?_)
      refine step_append_when rfl (.tmp 77) (.tmp 79) 25 rfl W7.heap.size 55 i0 _ 6 48 Tryd.underlying25 hi0 hy0 hy1 hy2 rfl (by decide) _ 0 [] rfl OW.out ⟨xl, 0, none⟩ n xc (inVs (scF t.rs) (n * 6)) rfl (by rw [inVs_len]) (rc_news (fun i hi => (HXL.out.cells hi).block (hHeld.block _ HXL.out.lt))) rc_one (by unfold maxLen; omega) (by omega) hHeld.size ?_
      intro v5 Z2 hown hgrow
      have hb0 : Below W7.heap.size Z1 Z2 := (Below.refl _ _).grown hgrow hHeld.size (fun k e => (OW.out.lt k e).1)
      obtain ⟨ga, ca, rfl, _, hls9⟩ := own_rc (by simpa using hown) hn1
      have HL9 := Lib.hid hls9
      refine hK.out _ _ (hHeld.trans hb0) (fun hHeld2 => ?_)
      clear hK hHeld hb0 hown hgrow hls9 OW
      have hHeld := hHeld2
      clear hHeld2
      simp only [Act.put, List.setIfInBounds_toArray, List.set_cons_zero, List.set_cons_succ]
      refine take_call (i := 38) rfl (by kernel_rfl) (fun K2 hK => ?_)
      go_simp
      refine (implRight_any _ n ca t.rs _ HL9.out.at_).mono ?_
      rintro e Z3 ⟨⟨b9, rfl, hb9⟩, hb⟩
      obtain rfl : b9 = true := hb9.2 HRT.out
      go_wp2_with fail
      refine hK.out _ _ (hHeld.trans (hb.mono hHeld.size)) (fun hHeld2 => ?_)
      clear hK hHeld hb hb9 HL9
      have hHeld := hHeld2
      clear hHeld2
      refine take_do (i := 39) (v := (.bool false)) rfl (by kernel_rfl) (by kernel_rfl) (by kernel_rfl) (fun _ _ _ h => h) (by rfl) ?_ (by assumption) ?_
      · intro w hSw
        skip
        go_simp
      simp only [Act.put, List.setIfInBounds_toArray, List.set_cons_zero, List.set_cons_succ]
      refine take_do (i := 40) (v := (.bool false)) rfl (by kernel_rfl) (by kernel_rfl) (by kernel_rfl) (fun _ _ _ h => h) (by rfl) ?_ (by assumption) ?_
      · intro w hSw
        skip
        go_simp
      simp only [Act.put, List.setIfInBounds_toArray, List.set_cons_zero, List.set_cons_succ]
      refine wpAnyH_done (by kernel_rfl) ?_ _
      have HH := Lib.hid hHeld
      have HB8 : Hid (Below w.heap.size w Z3) := HB7.out.trans (hHeld.mono HB7.out.size)
      have HXT8 : Hid (InBlk xt n t.tk Z3) := HXT.out.block (hHeld.block _ HXT.out.lt)
      have HV8 := Lib.hid (rrow_below HV.out hHeld)
      have HRA8 := Lib.hid (HRA7.out.below hHeld)
      have HLS8 : Hid (RcBlk gl n rs Z3) := HLS7.out.block (hHeld.block _ HLS7.out.lt)
      clear hHeld HB7 HXT HV HRA7 HLS7 HXL HH HA9 HB9 heq hne9 hw12 hw13 hA0 hA2 hB0 hB2 hs0 hs1 HX1 HX2
      have HNW : Hid (∀ j u, (inVs (scF rs) (n * 6))[j]? = some u → (Z3.alloc (.cells #[] 55)).cell? ((⟨gl, 0, none⟩ : Addr).add j) = some u) := rc_news (fun i hi => (HLS8.out.cells hi).block (blk_alloc_lt _ _ _ HLS8.out.lt))
      go_wp2_with (at_builtin; refine wpList_append_own _ rfl _ _ 25 rfl Z3.heap.size 55 i0 (.agg #[.int .i64 0, .int .i64 0, .int .i64 0, .int .i64 0, .int .i64 0, .int .i64 0]) 6 48 Tryd.underlying25 hi0 hy0 hy1 hy2 rfl (by decide) _ _ _ rfl (World.ownsRow_made Z3 #[] 0 (Nat.le_refl _) (Nat.zero_le _) rfl) ⟨gl, 0, none⟩ n cl (inVs (scF rs) (n * 6)) rfl (by rw [inVs_len]) HNW.out rc_one (by unfold maxLen; omega) (by omega) (by simp) ?_)
      intro v6 Z5 hown hgrow hnil
      have hb5 : Below Z3.heap.size Z3 Z5 := ((Below.refl _ _).alloc (Nat.le_refl _) _).grown hgrow (by simp) (fun k e => by cases e; exact Nat.le_refl _)
      obtain ⟨g6, c6, rfl, hg6, hls6⟩ := own_rc (by simpa using hown) hn1
      have HL6 := Lib.hid hls6
      have HRA9 := Lib.hid (HRA8.out.below hb5)
      have HXT9 : Hid (InBlk xt n t.tk Z5) := HXT8.out.block (hb5.block _ HXT8.out.lt)
      have HV9 := Lib.hid (rrow_below HV8.out hb5)
      have HB9 : Hid (Below w.heap.size w Z5) := HB8.out.trans (hb5.mono HB8.out.size)
      clear hown hgrow hnil hls6 hb5 HNW HRA8 HXT8 HV8 HB8 HLS8
      go_wp2_with fail
      refine (implSpills_any _ ra n c6 k cr rs q _ HL6.out.at_ HRA9.out HLN.out (HG.out.below HB9.out)).mono ?_
      rintro e Z6 ⟨⟨v7, rfl, hown⟩, hb⟩
      rw [spillF_some HRF.out] at hown
      obtain ⟨a7, c7, rfl, hI7⟩ : ∃ a c, v7 = .slice a (Sw.spills t.tk n).length c ∧ IsAt a (Sw.spills t.tk n).length (fun j => (((Sw.spills t.tk n).getD j 0 : Nat) : Int)) Z6 := by
        have h' : Z6.ownsRow Z5.heap.size 2 1 v7 ((Sw.spills t.tk n).map (fun (k : Nat) => (k : Int))).length (((Sw.spills t.tk n).map (fun (k : Nat) => (k : Int))).map (Value.int .i64)) := by
          rw [List.length_map, List.map_map]; exact hown
        rcases own_ints h' with ⟨e1, e2⟩ | ⟨g, cap, e1, e2, e3⟩
        · have e0 : Sw.spills t.tk n = [] := by simpa using e2
          exact ⟨none, 0, by rw [e1, e0]; rfl, Or.inl (by rw [e0]; rfl)⟩
        · rw [List.length_map] at e1 e3
          refine ⟨_, _, e1, IsAt.congr e3.at_ (fun j hj => ?_)⟩
          unfold inList
          simp [List.getD, hj]
      have HI7 := Lib.hid hI7
      have HLL : Hid ((Sw.spills t.tk n).length ≤ 1048576) := by show _ ≤ _; have := spills_len t.tk n; omega
      have HXTA : Hid (InBlk xt n t.tk Z6) := HXT9.out.block (hb.block _ HXT9.out.lt)
      have HVA := Lib.hid (rrow_below HV9.out hb)
      have HBA : Hid (Below w.heap.size w Z6) := HB9.out.trans (hb.mono HB9.out.size)
      have HHS : Hid (∀ i, i < n → ((decide (0 < t.tk i)) = true ↔ ∃ j, j < (Sw.spills t.tk n).length ∧ (((Sw.spills t.tk n).getD j 0 : Nat) : Int) = (i : Int))) := fun i hi => has_spills hi
      clear hb hown hI7 HXT9 HV9 HB9 HL6 HRA9
      go_wp2_with fail
      go_loopw [9] (fun iv wr => ∃ (i : Nat), i ≤ n ∧ iv = .int .i64 i ∧ Hid (Below Z6.heap.size Z6 wr)) (fun iv _ => n - (intOf iv).toNat)
      case atStart => exact ⟨0, Nat.zero_le _, rfl, Below.refl _ _⟩
      case round =>
        obtain ⟨i, hi, rfl, hW⟩ := hrel
        by_cases hlt9 : i < n
        · have hltz : (i : Int) < (n : Int) := by omega
          have hi0' : (0 : Int) ≤ (i : Int) := by omega
          have x2 : wr.cell? ⟨px, 2, none⟩ = some (.slice (some ⟨xt, 0, none⟩) n n) := (rrow_below HVA.out hW.out).cell (i := 2) (by omega)
          have t0 : wr.cell? ⟨xt, i, none⟩ = some (.int .i64 (t.tk i)) := (HXTA.out.block (hW.out.block _ HXTA.out.lt)).cell hlt9
          have KH : Hid (∀ m, Calls Tryd.prog 32 #[.slice a7 (Sw.spills t.tk n).length c7, .int .i64 (i : Int)] (wr.drewN m) fun e w' => e = .returned (.bool (decide (0 < t.tk i))) ∧ w' = wr.drewN m) := fun m => lwHas_any a7 _ c7 _ _ _ ((HI7.out.below hW.out).below (below_drewN (Below.refl _ _) m)) HLL.out _ (HHS.out i hlt9)
          by_cases hs : 0 < t.tk i
          · have hd9 : decide (0 < t.tk i) = true := by simp [hs]
            have HD9 := Lib.hid hd9
            have KH2 : Hid (∀ m, Calls Tryd.prog 32 #[.slice a7 (Sw.spills t.tk n).length c7, .int .i64 (i : Int)] (wr.drewN m) fun e w' => e = .returned (.bool true) ∧ w' = wr.drewN m) := fun m => by have := KH.out m; rw [HD9.out] at this; exact this
            clear KH
            go_wp2_with fail
            go_quiet (first | (go_at_call 32; exact Calls.quiet_of_same (KH2.out _)))
            go_wp2_with fail
            go_roundw
            case rel => exact ⟨i + 1, by omega, by go_num, below_drewN hW.out _⟩
            case measure => simp [intOf]; omega
          · have hd9 : decide (0 < t.tk i) = false := by simp [hs]
            have HD9 := Lib.hid hd9
            have KH2 : Hid (∀ m, Calls Tryd.prog 32 #[.slice a7 (Sw.spills t.tk n).length c7, .int .i64 (i : Int)] (wr.drewN m) fun e w' => e = .returned (.bool false) ∧ w' = wr.drewN m) := fun m => by have := KH.out m; rw [HD9.out] at this; exact this
            clear KH
            go_wp2_with fail
            go_quiet (first | (go_at_call 32; exact Calls.quiet_of_same (KH2.out _)))
            go_wp2_with fail
            go_roundw
            case rel => exact ⟨i + 1, by omega, by go_num, below_drewN hW.out _⟩
            case measure => simp [intOf]; omega
        · obtain rfl : i = n := by omega
          go_wp2_with fail
          go_ret
          exact ⟨rfl, HBA.out.trans (hW.out.mono HBA.out.size)⟩
end Go.Proofs.YtokbhkcpkilcmaaDoor
