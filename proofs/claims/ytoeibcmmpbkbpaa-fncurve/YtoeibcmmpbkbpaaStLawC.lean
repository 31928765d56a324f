/-
  The law FnCurve.
-/
import Derived.Test.YtoeibcmmpbkbpaaStD6
import Derived.Test.YtoeibcmmpbkbpaaLwAt
import Derived.Test.YtoeibcmmpbkbpaaStS2
import Derived.Test.YtoeibcmmpbkbpaaStA1
namespace Go.Proofs.Ytoeibcmmpbkbpaa
open Go.RowKit Go.Deep

theorem prs_cell {b n : Nat} {c : Nat → St.Pr} {w : World} (h : ∀ i, i < n → PrCells b (i * 2) (c i) w) {j : Nat} (hj : j < n * 2) : w.cell? ⟨b, j, none⟩ = some (prRow c j) := by
  have h1 := h (j / 2) (by omega)
  have h2 : j % 2 = 0 ∨ j % 2 = 1 := by omega
  rcases h2 with e | e
  · have : j / 2 * 2 = j := by omega
    rw [this] at h1
    rw [h1.1]; simp [prRow, prCell, e]
  · have : j / 2 * 2 + 1 = j := by omega
    have h3 := h1.2
    rw [this] at h3
    rw [h3]; simp [prRow, prCell, e]
def prVs (c : Nat → St.Pr) (n : Nat) : List Value := (listOf c n).flatMap prCells
theorem prVs_len (c : Nat → St.Pr) (n : Nat) : (prVs c n).length = n * 2 := by unfold prVs; rw [prCells_len, listOf_len]
theorem prVs_get {c : Nat → St.Pr} {n j : Nat} {u : Value} (h : (prVs c n)[j]? = some u) : j < n * 2 ∧ u = prRow c j := by
  have hj : j < n * 2 := by
    have := (List.getElem?_eq_some_iff.1 h).1
    rwa [prVs_len] at this
  refine ⟨hj, ?_⟩
  unfold prVs at h
  rw [prCells_get _ _ (by rw [listOf_len]; exact hj)] at h
  rw [← Option.some.inj h]
  unfold prRow
  rw [prList_of c (by omega)]
theorem prVs_one {c : Nat → St.Pr} {n : Nat} : ∀ u ∈ prVs c n, u.oneCell' = true := by
  intro u hu
  obtain ⟨p, _, hp⟩ := List.mem_flatMap.1 hu
  simp [prCells] at hp
  rcases hp with rfl | rfl <;> rfl
theorem minfo : (Try.prog.info? 30).map (fun i => (i.zero, i.size, i.bytes)) = some (some (.agg #[.int .i64 0, .int .i64 0]), 2, 16) := by kernel_rfl
/-- What the copy of a curve is. -/
theorem copy_prs {B : Nat} {v : Value} {n : Nat} {c : Nat → St.Pr} {w : World} (h : w.ownsRow B 30 2 v n (prVs c n)) : ∃ a k, v = .slice a n k ∧ PrsAt a n c w := by
  have h' : w.ownsRow B 30 2 v (listOf c n).length ((listOf c n).flatMap prCells) := by rw [listOf_len]; exact h
  rcases own_prs h' with ⟨e1, e2⟩ | ⟨g, k, e1, hg, hblk⟩
  · have hn : n = 0 := by have := congrArg List.length e2; simpa [listOf_len] using this
    exact ⟨none, 0, by rw [e1, hn], Or.inl hn⟩
  · rw [listOf_len] at e1 hblk
    exact ⟨_, k, e1, (hblk.congr (fun j hj => prList_of c hj)).at_⟩
theorem pick_in {lo fu z : Int} (h : lo < fu) : lo ≤ lo + z % (fu - lo + 1) ∧ lo + z % (fu - lo + 1) ≤ fu := by
  have h1 := Int.emod_nonneg z (show fu - lo + 1 ≠ 0 by omega)
  have h2 := Int.emod_lt_of_pos z (show 0 < fu - lo + 1 by omega)
  omega
/-- What stands while the law goes on. -/
structure CuS (w : World) (b n : Nat) (c : Nat → St.Pr) (W : World) : Prop where
  cells : ∀ i, i < n → PrCells b (i * 2) (c i) W
  bel : Below w.heap.size w W
theorem CuS.below {w : World} {b n : Nat} {c : Nat → St.Pr} {W W' : World} (h : CuS w b n c W) (hb : Below W.heap.size W W') : CuS w b n c W' := ⟨fun i hi => (h.cells i hi).block (hb.block _ (h.cells i hi).lt), h.bel.trans (hb.mono h.bel.size)⟩
set_option maxRecDepth 100000 in
set_option maxHeartbeats 8000000 in
theorem curve_law (w : World) (a : Option Addr) (len cap : Nat) (h : Bytes a len w) (hm : len ≤ 9223372036854775807) (a2 : Option Addr) (len2 cap2 : Nat) (h2 : Bytes a2 len2 w) (hm2 : len2 ≤ 9223372036854775807) :
    Calls Try.prog 3 #[.slice a len cap, .slice a2 len2 cap2] w fun e w' => e = .returned (.bool true) ∧ Below w.heap.size w w' := by
  by_cases hb1 : 1048576 < len
  · have hz : (1048576 : Int) < (len : Int) := by omega
    go_enter Try.func3, Try.ntmps3
    go_wp2_with fail
    go_ret
    exact ⟨rfl, Below.refl _ _⟩
  have hz : ¬ (1048576 : Int) < (len : Int) := by omega
  by_cases hb2 : 1048576 < len2
  · have hz2 : (1048576 : Int) < (len2 : Int) := by omega
    go_enter Try.func3, Try.ntmps3
    go_wp2_with fail
    go_ret
    exact ⟨rfl, Below.refl _ _⟩
  have hz2 : ¬ (1048576 : Int) < (len2 : Int) := by omega
  obtain ⟨z0, p0, q0, _, L0⟩ := lwAt_val a2 len2 cap2 0 256 w h2 (by omega) (by omega) (by omega) (by omega) (by omega)
  obtain ⟨z1, p1, q1, _, L1⟩ := lwAt_val a2 len2 cap2 1 256 w h2 (by omega) (by omega) (by omega) (by omega) (by omega)
  obtain ⟨z2, p2, q2, _, L2⟩ := lwAt_val a2 len2 cap2 2 256 w h2 (by omega) (by omega) (by omega) (by omega) (by omega)
  obtain ⟨z3, p3, q3, _, L3⟩ := lwAt_val a2 len2 cap2 3 256 w h2 (by omega) (by omega) (by omega) (by omega) (by omega)
  have HL0 := Lib.hid L0
  have HL1 := Lib.hid L1
  have HL2 := Lib.hid L2
  have HL3 := Lib.hid L3
  have H := Lib.hid h
  have hlen : len ≤ 1048576 := by omega
  clear h h2 L0 L1 L2 L3 hm hm2 hb1 hb2
  go_enter Try.func3, Try.ntmps3
  go_wp2_with fail
  refine (drawStore_any a len cap _ H.out hlen).mono ?_
  rintro e W1 ⟨ca, cn, ck, ra, rn, rk, v, c, r, rfl, hbd, ⟨hpc, hpr⟩, hb⟩
  obtain ⟨W2, hW2⟩ : ∃ W2, W2 = W1.alloc (.cells #[.slice ca cn ck, .slice ra rn rk, .int .i64 v] 26) := ⟨_, rfl⟩
  have hg2 : Below W1.heap.size W1 W2 := by rw [hW2]; exact (Below.refl _ _).alloc (Nat.le_refl _) _
  have HST : Hid (StAt ca cn c ra rn r W2) := ⟨hpc.below hg2, hpr.below hg2⟩
  have HB2 : Hid (Below w.heap.size w W2) := hb.trans (hg2.mono hb.size)
  have hx := box3 W1 (.slice ca cn ck) (.slice ra rn rk) (.int .i64 v) 26
  rw [← hW2] at hx
  have HX := Lib.hid hx
  have HW2 := Lib.hid hW2
  clear hpc hpr hb hg2 hx hW2 hbd
  go_wp2_with fail
  rw [← HW2.out]
  refine (sRight_any ca cn ck c ra rn rk r v _ HST.out).mono ?_
  rintro e W3 ⟨⟨b, rfl, hbb⟩, hG⟩
  cases b with
  | false =>
    have HB3 : Hid (Below w.heap.size w W3) := HB2.out.trans (hG.bel.mono HB2.out.size)
    clear hG hbb
    go_wp2_with fail
    go_ret
    exact ⟨rfl, HB3.out⟩
  | true =>
    have hok : St.CurveOk cn c := (hbb.1 rfl).1
    have hcn := hok.1
    obtain ⟨b, rfl, hc⟩ := HST.out.cu.all (by omega)
    have HC : Hid (CuS w b cn c W3) := ⟨fun i hi => (hc i hi).block (hG.bel.block _ (hc i hi).lt), HB2.out.trans (hG.bel.mono HB2.out.size)⟩
    have hx0 : W3.cell? ⟨W1.heap.size, 0, none⟩ = some (.slice (some ⟨b, 0, none⟩) cn ck) := (hG.bel.cell (World.block_lt_of_cell? _ _ HX.out.1)).trans HX.out.1
    obtain ⟨c0a, c0b⟩ := HC.out.cells 0 (by omega)
    obtain ⟨c1a, c1b⟩ := HC.out.cells (cn - 1) (by omega)
    simp only [Nat.zero_mul, Nat.zero_add] at c0a c0b
    have hy1 : ((cn : Int) - 1).toNat = cn - 1 := by omega
    have hy3 : ¬ (cn : Int) - 1 < 0 := by omega
    have hy4 : (cn : Int) - 1 < (cn : Int) := by omega
    have hy5 : (cn : Int) ≤ 30 := by omega
    have hy6 : (0 : Int) < (cn : Int) := by omega
    have hr := (St.rises_all hok (cn - 1) 0 (by omega) (by omega))
    have hb0 := (hok.2 0 (by omega)).1.2.1
    have hb1 := (hok.2 (cn - 1) (by omega)).1.2.2
    have ha0 := (hok.2 0 (by omega)).1.1.1
    have ha1 := (hok.2 (cn - 1) (by omega)).1.1.2
    obtain ⟨LO, hLO⟩ : ∃ x, x = (c 0).b := ⟨_, rfl⟩
    obtain ⟨FU, hFU⟩ : ∃ x, x = (c (cn - 1)).b := ⟨_, rfl⟩
    obtain ⟨LA, hLA⟩ : ∃ x, x = (c 0).a := ⟨_, rfl⟩
    obtain ⟨FA, hFA⟩ : ∃ x, x = (c (cn - 1)).a := ⟨_, rfl⟩
    rw [← hLO, ← hFU, ← hLA, ← hFA] at hr
    rw [← hLO] at hb0 c0b
    rw [← hFU] at hb1 c1b
    rw [← hLA] at ha0 c0a
    rw [← hFA] at ha1 c1a
    have HLO := Lib.hid hLO
    have HFU := Lib.hid hFU
    have HLA := Lib.hid hLA
    have HFA := Lib.hid hFA
    have HOK := Lib.hid hok
    have hpos : 0 < FU - LO + 1 := by omega
    have hne : (FU - LO + 1 == 0) = false := by simp; omega
    have hs0 : 0 ≤ z0 * 256 + z1 := by omega
    have hs1 : 0 ≤ z2 * 256 + z3 := by omega
    obtain ⟨V, hV⟩ : ∃ V, LO + (z0 * 256 + z1) % (FU - LO + 1) = V := ⟨_, rfl⟩
    obtain ⟨X, hX⟩ : ∃ X, LO + (z2 * 256 + z3) % (FU - LO + 1) = X := ⟨_, rfl⟩
    have hVb := pick_in (z := z0 * 256 + z1) (show LO < FU by omega)
    rw [hV] at hVb
    have hXb := pick_in (z := z2 * 256 + z3) (show LO < FU by omega)
    rw [hX] at hXb
    have hm0 := Int.emod_nonneg (z0 * 256 + z1) (show FU - LO + 1 ≠ 0 by omega)
    have hm1 := Int.emod_lt_of_pos (z0 * 256 + z1) hpos
    have hm2 := Int.emod_nonneg (z2 * 256 + z3) (show FU - LO + 1 ≠ 0 by omega)
    have hm3 := Int.emod_lt_of_pos (z2 * 256 + z3) hpos
    clear hok hLO hFU hLA hFA hc hG hbb HST
    go_wp2_with fail
    refine (HL0.out _ HC.out.bel).mono ?_
    rintro e w1 ⟨rfl, rfl⟩
    go_wp2_with fail
    refine (HL1.out _ HC.out.bel).mono ?_
    rintro e w1 ⟨rfl, rfl⟩
    go_wp2_with fail
    refine (HL2.out _ HC.out.bel).mono ?_
    rintro e w1 ⟨rfl, rfl⟩
    go_wp2_with fail
    refine (HL3.out _ HC.out.bel).mono ?_
    rintro e w1 ⟨rfl, rfl⟩
    have HVb := Lib.hid hVb
    have HXb := Lib.hid hXb
    have HN := Lib.hid hcn
    obtain ⟨i0, hi, hzz0, hzz1, hzz2⟩ := info_parts minfo
    clear c0a c0b c1a c1b hx0 hcn
    go_wp2_with (at_builtin; refine wpList_append_own _ rfl _ _ 23 rfl w1.heap.size 30 i0 _ 2 16 Try.underlying23 hi hzz0 hzz1 hzz2 rfl (by decide) _ _ _ rfl (World.ownsRow_made w1 #[] 0 (Nat.le_refl _) (Nat.zero_le _) rfl) ⟨b, 0, none⟩ cn ck (prVs c cn) rfl ?qa1 ?qa2 ?qa3 ?qa4 ?qa5 ?qa6 ?_)
    try (case qa1 => exact prVs_len _ _)
    try (case qa2 =>
      intro j u hj
      obtain ⟨hj2, rfl⟩ := prVs_get hj
      have hcell := fun o => Lib.cell?_alloc_some o (prs_cell HC.out.cells hj2)
      first | (rw [Addr.add_lit, Nat.zero_add]; exact hcell _) | exact hcell _)
    try (case qa3 => exact prVs_one)
    try (case qa4 => unfold maxLen; have := HN.out; omega)
    try (case qa5 => have := HN.out; omega)
    try (case qa6 => simp)
    intro v' w2 hown hgrow hnil
    have hbw2 : Below w1.heap.size w1 w2 := ((Below.refl _ w1).alloc (Nat.le_refl _) _).grown hgrow (by simp) (by intro k hk; simp [Value.ownBlock] at hk; omega)
    obtain ⟨aa, ak, rfl, hpp⟩ := copy_prs hown
    have HPP := Lib.hid hpp
    replace HC := Lib.hid (HC.out.below hbw2)
    clear hown hgrow hnil hpp hbw2
    go_wp2_with fail
    refine (implLevel_any aa cn ak c V _ HPP.out).mono ?_
    rintro e w3 ⟨⟨A, rfl, hA, _⟩, hG⟩
    have HA := Lib.hid (hA HOK.out)
    replace HC := Lib.hid (HC.out.below hG.bel)
    clear hA hG HPP
    go_wp2_with (at_builtin; refine wpList_append_own _ rfl _ _ 23 rfl w3.heap.size 30 i0 _ 2 16 Try.underlying23 hi hzz0 hzz1 hzz2 rfl (by decide) _ _ _ rfl (World.ownsRow_made w3 #[] 0 (Nat.le_refl _) (Nat.zero_le _) rfl) ⟨b, 0, none⟩ cn ck (prVs c cn) rfl ?qb1 ?qb2 ?qb3 ?qb4 ?qb5 ?qb6 ?_)
    try (case qb1 => exact prVs_len _ _)
    try (case qb2 =>
      intro j u hj
      obtain ⟨hj2, rfl⟩ := prVs_get hj
      have hcell := fun o => Lib.cell?_alloc_some o (prs_cell HC.out.cells hj2)
      first | (rw [Addr.add_lit, Nat.zero_add]; exact hcell _) | exact hcell _)
    try (case qb3 => exact prVs_one)
    try (case qb4 => unfold maxLen; have := HN.out; omega)
    try (case qb5 => have := HN.out; omega)
    try (case qb6 => simp)
    intro v' w4 hown hgrow hnil
    have hbw4 : Below w3.heap.size w3 w4 := ((Below.refl _ w3).alloc (Nat.le_refl _) _).grown hgrow (by simp) (by intro k hk; simp [Value.ownBlock] at hk; omega)
    obtain ⟨aa, ak, rfl, hpp⟩ := copy_prs hown
    have HPP := Lib.hid hpp
    replace HC := Lib.hid (HC.out.below hbw4)
    clear hown hgrow hnil hpp hbw4
    go_wp2_with fail
    refine (implLevel_any aa cn ak c X _ HPP.out).mono ?_
    rintro e w5 ⟨⟨B, rfl, hB, _⟩, hG⟩
    have HBv := Lib.hid (hB HOK.out)
    replace HC := Lib.hid (HC.out.below hG.bel)
    clear hB hG HPP
    obtain ⟨c0a, _⟩ := HC.out.cells 0 (by have := HN.out; omega)
    obtain ⟨c1a, _⟩ := HC.out.cells (cn - 1) (by have := HN.out; omega)
    simp only [Nat.zero_mul] at c0a
    rw [← HLA.out] at c0a
    rw [← HFA.out] at c1a
    have hrange := St.along_range (x := V) HN.out.1 (rise_b HOK.out) (rise_a HOK.out)
    rw [← HA.out, ← HLA.out, ← HFA.out] at hrange
    have hA0 : ¬ A < LA := by omega
    have hA1 : ¬ FA < A := by omega
    have hlv : V ≤ X → A ≤ B := fun hvx => by
      have hv := HVb.out
      have hx := HXb.out
      have := St.along_le (x := V) (y := X) HN.out.1 (rise_b HOK.out) (rise_a HOK.out) (by show (c 0).b ≤ V; rw [← HLO.out]; omega) hvx (by show X ≤ (c (cn - 1)).b; rw [← HFU.out]; omega)
      rw [← HA.out, ← HBv.out] at this
      exact this
    have hback : St.along cn (fun i => (c i).a) (fun i => (c i).b) A ≤ V := by
      have hv := HVb.out
      have := St.along_back (x := V) HN.out.1 (rise_b HOK.out) (rise_a HOK.out) (by show (c 0).b ≤ V; rw [← HLO.out]; omega) (by show V ≤ (c (cn - 1)).b; rw [← HFU.out]; omega)
      rw [← HA.out] at this
      exact this
    have HBK := Lib.hid hback
    have HLV := Lib.hid hlv
    have fin : (V ≤ X → ¬ B < A) := fun h => by have := HLV.out h; omega
    clear hback hlv hrange
    by_cases hvx : V ≤ X
    · have hab := fin hvx
      clear fin
      go_wp2_with (at_builtin; refine wpList_append_own _ rfl _ _ 23 rfl w5.heap.size 30 i0 _ 2 16 Try.underlying23 hi hzz0 hzz1 hzz2 rfl (by decide) _ _ _ rfl (World.ownsRow_made w5 #[] 0 (Nat.le_refl _) (Nat.zero_le _) rfl) ⟨b, 0, none⟩ cn ck (prVs c cn) rfl ?qc1 ?qc2 ?qc3 ?qc4 ?qc5 ?qc6 ?_)
      try (case qc1 => exact prVs_len _ _)
      try (case qc2 =>
        intro j u hj
        obtain ⟨hj2, rfl⟩ := prVs_get hj
        have hcell := fun o => Lib.cell?_alloc_some o (prs_cell HC.out.cells hj2)
        first | (rw [Addr.add_lit, Nat.zero_add]; exact hcell _) | exact hcell _)
      try (case qc3 => exact prVs_one)
      try (case qc4 => unfold maxLen; have := HN.out; omega)
      try (case qc5 => have := HN.out; omega)
      try (case qc6 => simp)
      intro v' w6 hown hgrow hnil
      have hbw6 : Below w5.heap.size w5 w6 := ((Below.refl _ w5).alloc (Nat.le_refl _) _).grown hgrow (by simp) (by intro k hk; simp [Value.ownBlock] at hk; omega)
      obtain ⟨aa, ak, rfl, hpp⟩ := copy_prs hown
      have HPP := Lib.hid hpp
      replace HC := Lib.hid (HC.out.below hbw6)
      clear hown hgrow hnil hpp hbw6
      go_wp2_with fail
      refine (implVolume_any aa cn ak c A _ HPP.out).mono ?_
      rintro e w7 ⟨⟨Z, rfl, hZ, _⟩, hG⟩
      have hZV : Z ≤ V := by rw [hZ HOK.out]; exact HBK.out
      replace HC := Lib.hid (HC.out.below hG.bel)
      clear hZ hG HPP
      go_wp2_with fail
      refine (sLevelAt_any (some ⟨b, 0, none⟩) cn ck c V _ (Or.inr ⟨b, rfl, HC.out.cells⟩)).mono ?_
      rintro e w8 ⟨⟨Y, rfl, hY, _⟩, hG⟩
      obtain rfl : Y = A := by rw [hY HOK.out, HA.out]
      replace HC := Lib.hid (HC.out.below hG.bel)
      clear hY hG
      go_wp2_with fail
      go_ret
      exact ⟨rfl, HC.out.bel⟩
    · clear fin
      go_wp2_with (at_builtin; refine wpList_append_own _ rfl _ _ 23 rfl w5.heap.size 30 i0 _ 2 16 Try.underlying23 hi hzz0 hzz1 hzz2 rfl (by decide) _ _ _ rfl (World.ownsRow_made w5 #[] 0 (Nat.le_refl _) (Nat.zero_le _) rfl) ⟨b, 0, none⟩ cn ck (prVs c cn) rfl ?qd1 ?qd2 ?qd3 ?qd4 ?qd5 ?qd6 ?_)
      try (case qd1 => exact prVs_len _ _)
      try (case qd2 =>
        intro j u hj
        obtain ⟨hj2, rfl⟩ := prVs_get hj
        have hcell := fun o => Lib.cell?_alloc_some o (prs_cell HC.out.cells hj2)
        first | (rw [Addr.add_lit, Nat.zero_add]; exact hcell _) | exact hcell _)
      try (case qd3 => exact prVs_one)
      try (case qd4 => unfold maxLen; have := HN.out; omega)
      try (case qd5 => have := HN.out; omega)
      try (case qd6 => simp)
      intro v' w6 hown hgrow hnil
      have hbw6 : Below w5.heap.size w5 w6 := ((Below.refl _ w5).alloc (Nat.le_refl _) _).grown hgrow (by simp) (by intro k hk; simp [Value.ownBlock] at hk; omega)
      obtain ⟨aa, ak, rfl, hpp⟩ := copy_prs hown
      have HPP := Lib.hid hpp
      replace HC := Lib.hid (HC.out.below hbw6)
      clear hown hgrow hnil hpp hbw6
      go_wp2_with fail
      refine (implVolume_any aa cn ak c A _ HPP.out).mono ?_
      rintro e w7 ⟨⟨Z, rfl, hZ, _⟩, hG⟩
      have hZV : Z ≤ V := by rw [hZ HOK.out]; exact HBK.out
      replace HC := Lib.hid (HC.out.below hG.bel)
      clear hZ hG HPP
      go_wp2_with fail
      refine (sLevelAt_any (some ⟨b, 0, none⟩) cn ck c V _ (Or.inr ⟨b, rfl, HC.out.cells⟩)).mono ?_
      rintro e w8 ⟨⟨Y, rfl, hY, _⟩, hG⟩
      obtain rfl : Y = A := by rw [hY HOK.out, HA.out]
      replace HC := Lib.hid (HC.out.below hG.bel)
      clear hY hG
      go_wp2_with fail
      go_ret
      exact ⟨rfl, HC.out.bel⟩
end Go.Proofs.Ytoeibcmmpbkbpaa
