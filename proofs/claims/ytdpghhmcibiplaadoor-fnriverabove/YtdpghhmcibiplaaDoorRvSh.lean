/-
  The contracts of RiverShort: the program's and the model's.
-/
import Derived.Test.YtdpghhmcibiplaaDoorRvI7
import Derived.Test.YtdpghhmcibiplaaDoorRvS4
import Derived.Test.YtdpghhmcibiplaaDoorRvOwn
import Derived.Test.YtdpghhmcibiplaaDoorRvAb
namespace Go.Proofs.YtdpghhmcibiplaaDoor
open Go.RowKit Go.Deep

theorem short_len (rs : Nat → Rv.Rc) (tk : Nat → Int) (m : Nat) : (Rv.short rs tk m).length ≤ m := by unfold Rv.short; exact Nat.le_trans (List.length_filter_le _ _) (by simp)
theorem ne_empty {W : World} {g h n : Nat} {f : Nat → Int} {T : TypeId} (h1 : W.heap[h]? = some (.cells #[] T)) (h2 : InBlk g n f W) (hn : 1 ≤ n) : g ≠ h := fun e => by
  subst e
  obtain ⟨m, F, hm, ⟨c, hc, hs, _⟩, _⟩ := h2
  rw [h1] at hc
  cases hc
  simp at hs; omega
/-- What RiverShort tells. -/
def shOf (n : Nat) (rs : Nat → Rv.Rc) : Except Int Rv.St → List Nat
  | .error _ => []
  | .ok st => Rv.short rs st.tk n

set_option maxRecDepth 100000 in
set_option maxHeartbeats 4000000 in
theorem implShort_any (a b : Option Addr) (n cn m cm : Nat) (rs : Nat → Rv.Rc) (f : Nat → Int) (w : World) (h : RcsAt a n rs w) (h2 : IntsAt b m f w) (hg : Et w) :
    Calls Tryd.prog 25 #[.slice a n cn, .slice b m cm] w fun e w' => (∃ v, e = .returned v ∧ w'.ownsRow w.heap.size 2 1 v (shOf n rs (Rv.stepF n m rs f)).length (natVs (shOf n rs (Rv.stepF n m rs f)))) ∧ Below w.heap.size w w' := by
  obtain ⟨i1, hi1, hy0, hy1, hy2⟩ := info_parts info_i64
  have H := Lib.hid h
  have H2 := Lib.hid h2
  have HG := Lib.hid hg
  clear h h2 hg
  go_enter Tryd.func25, Tryd.ntmps25
  go_wp2_with fail
  refine (implStep_any a b n cn m cm rs f _ H.out H2.out HG.out).mono ?_
  rintro e w1 ⟨hE, hb⟩
  have HB1 := Lib.hid hb
  clear hb
  rcases hE with ⟨k, hk, hk0, rfl⟩ | ⟨st, gl, gf, gt, c, cf, ct, hk, rfl, hL⟩
  · have HK := Lib.hid hk
    have hkz : (k == 0) = false := by simp [hk0]
    have hkn : (k != 0) = true := by simp [hk0]
    clear hk
    go_wp2_with fail
    go_ret
    exact ⟨⟨_, rfl, by rw [HK.out]; exact World.ownsRow_nil _ _ _ _⟩, HB1.out.alloc HB1.out.size _⟩
  · have hn := (Rv.stepF_inv hk).1.1.1
    have HK := Lib.hid hk
    have HL := Lib.hid hL.2.2.2.2
    have hn1 : 1 ≤ n := hn.1
    have hn2 : n ≤ 40 := hn.2
    have zt : gt < w1.heap.size := hL.2.2.2.2.lt
    have zB : w.heap.size ≤ gt := hL.1.2.2
    clear hk hL hn
    have R1 := Lib.hid (World.rowIs_alloc w1 #[.slice (some ⟨gl, 0, none⟩) n c, .slice (some ⟨gf, 0, none⟩) n cf, .slice (some ⟨gt, 0, none⟩) n ct, .int .i64 st.sea, .int .i64 0] 27 _ (ro5_row (.slice (some ⟨gl, 0, none⟩) n c) (.slice (some ⟨gf, 0, none⟩) n cf) (.slice (some ⟨gt, 0, none⟩) n ct) st.sea 0))
    have HB2 : Hid (Below w.heap.size w (w1.alloc (.cells #[.slice (some ⟨gl, 0, none⟩) n c, .slice (some ⟨gf, 0, none⟩) n cf, .slice (some ⟨gt, 0, none⟩) n ct, .int .i64 st.sea, .int .i64 0] 27))) := HB1.out.alloc HB1.out.size _
    have HL2 : Hid (InBlk gt n st.tk (w1.alloc (.cells #[.slice (some ⟨gl, 0, none⟩) n c, .slice (some ⟨gf, 0, none⟩) n cf, .slice (some ⟨gt, 0, none⟩) n ct, .int .i64 st.sea, .int .i64 0] 27))) := HL.out.alloc _
    clear HL HB1
    go_wp2_with fail
    go_loopw [6, 16] (fun ov iv wr => ∃ (i : Nat), i ≤ n ∧ iv = .int .i64 i ∧ Hid (wr.ownsRow (w1.heap.size + 1) 2 1 ov (Rv.short rs st.tk i).length (natVs (Rv.short rs st.tk i))) ∧ Hid (Below w.heap.size w wr) ∧ Hid (wr.rowIs w1.heap.size 27 5 (ro5 (.slice (some ⟨gl, 0, none⟩) n c) (.slice (some ⟨gf, 0, none⟩) n cf) (.slice (some ⟨gt, 0, none⟩) n ct) st.sea 0)) ∧ Hid (InBlk gt n st.tk wr)) (fun _ iv _ => n - (intOf iv).toNat)
    case atStart => exact ⟨0, Nat.zero_le _, rfl, World.ownsRow_nil _ _ _ _, HB2, R1, HL2⟩
    case round =>
      obtain ⟨i, hi, rfl, hO, hB, hR, hT⟩ := hrel
      clear HB2 R1 HL2
      obtain ⟨av, cv, rfl⟩ := own_shape hO.out
      by_cases hlt : i < n
      · have hltz : (i : Int) < (n : Int) := by omega
        have hlen := short_len rs st.tk i
        have zw : w1.heap.size < wr.heap.size := hR.out.lt
        obtain ⟨lb, rfl, c0, c1, c2, c3, c4⟩ := (H.out.below hB.out).at_ hlt
        have t0 := hT.out.cell hlt
        have p2 : wr.cell? ⟨w1.heap.size, 2, none⟩ = some (.slice (some ⟨gt, 0, none⟩) n ct) := hR.out.cell (i := 2) (by omega)
        by_cases hs : st.tk i < (rs i).tk
        · have hA := Lib.hid (show Rv.short rs st.tk (i + 1) = Rv.short rs st.tk i ++ [i] by rw [Rv.short_succ, if_pos hs])
          go_wp2_with fail
          go_region
          have hO1 := Lib.hid (own_far (W' := wr.drew) hO.out (fun _ _ _ => rfl))
          have hB1 : Hid (Below w.heap.size w wr.drew) := hB.out.drew
          have hR1 := Lib.hid hR.out.drew
          have hT1 : Hid (InBlk gt n st.tk wr.drew) := hT.out.block rfl
          have zw' : w1.heap.size < wr.drew.heap.size := zw
          clear hO hB hR hT c0 c1 c2 c3 c4 t0 p2 zw
          generalize wr.drew = W2 at *
          go_wp2_with (at_builtin; refine wpList_append_lies _ rfl _ _ 23 rfl (w1.heap.size + 1) 2 i1 (.int .i64 0) 1 8 Tryd.underlying23 hi1 hy0 hy1 hy2 rfl (by decide) _ _ _ rfl (hO1.out.alloc _) ⟨W2.heap.size, 0, none⟩ 1 1 [.int .i64 (i : Int)] rfl rfl ?a1 ?a2 ?a3 ?a4 ?a5 ?a6 (W2.heap.size + 1) ?a7 ?_)
          try (case a1 => (intro j u hj; match j, hj with
            | 0, hj => (simp at hj; subst hj; simp [Addr.add])))
          try (case a2 => first | rfl | (intro u hu; simp at hu; subst hu; rfl))
          try (case a3 => omega)
          try (case a4 => (unfold maxLen; omega))
          try (case a5 => omega)
          try (case a6 => first | omega | (simp; omega))
          try (case a7 => simp)
          intro g cap W3 hown hgrow hat hlt3
          have keep : ∀ k, k < w1.heap.size + 1 → W3.heap[k]? = W2.heap[k]? := fun k hk => by
            rw [hgrow.block k (by simp; omega) (fun e => by have := (hO1.out.lt k e.symm).1; omega), blk_alloc_lt _ _ _ (by omega)]
          have HO3 : Hid (W3.ownsRow (w1.heap.size + 1) 2 1 (.slice (some ⟨g, 0, none⟩) ((Rv.short rs st.tk i).length + 1) cap) (Rv.short rs st.tk (i + 1)).length (natVs (Rv.short rs st.tk (i + 1)))) := Lib.hid (by
            rw [hA.out, natVs_app]; simpa using hown)
          have HB3 : Hid (Below w.heap.size w W3) := (hB1.out.alloc hB1.out.size _).grown hgrow (by simp; have := hB1.out.size; omega) (fun k hk => by have := (hO1.out.lt k hk).1; omega)
          have HR3 : Hid (W3.rowIs w1.heap.size 27 5 _) := hR1.out.of_block (keep _ (by omega))
          have HT3 : Hid (InBlk gt n st.tk W3) := hT1.out.block (keep _ (by omega))
          clear hown hgrow hat hlt3 hO1 hB1 hR1 hT1 hA keep
          go_wp2_with fail
          go_roundw
          case rel => exact ⟨i + 1, by omega, by go_num, HO3, HB3, HR3, HT3⟩
          case measure => simp [intOf]; omega
        · have hA := Lib.hid (show Rv.short rs st.tk (i + 1) = Rv.short rs st.tk i by rw [Rv.short_succ, if_neg hs, List.append_nil])
          go_wp2_with fail
          go_region
          go_wp2_with fail
          go_roundw
          case rel => exact ⟨i + 1, by omega, by go_num, Lib.hid (by rw [hA.out]; exact own_far hO.out (fun _ _ _ => rfl)), hB.out.drew, hR.out.drew, hT.out.block rfl⟩
          case measure => simp [intOf]; omega
      · obtain rfl : i = n := by omega
        go_wp2_with fail
        go_ret
        have hz := hB.out.size
        refine ⟨⟨_, rfl, ?_⟩, hB.out⟩
        rw [HK.out]
        obtain ⟨h1, h2⟩ := hO.out
        refine ⟨h1, ?_⟩
        rcases h2 with h2 | ⟨g, cp, cur, e1, e2, e3⟩
        · exact Or.inl h2
        · exact Or.inr ⟨g, cp, cur, e1, by omega, e3⟩
set_option maxRecDepth 100000 in
set_option maxHeartbeats 4000000 in
theorem specShort_any (a b : Option Addr) (n cn m cm : Nat) (rs : Nat → Rv.Rc) (f : Nat → Int) (w : World) (h : RcsAt a n rs w) (h2 : IntsAt b m f w) :
    Calls Tryd.prog 24 #[.slice a n cn, .slice b m cm] w fun e w' => (∃ v, e = .returned v ∧ w'.ownsRow w.heap.size 2 1 v (shOf n rs (Rv.stepF n m rs f)).length (natVs (shOf n rs (Rv.stepF n m rs f)))) ∧ Below w.heap.size w w' := by
  obtain ⟨i1, hi1, hy0, hy1, hy2⟩ := info_parts info_i64
  have H := Lib.hid h
  have H2 := Lib.hid h2
  clear h h2
  have HST : Hid ((w.alloc (.cells #[] 2)).ownsRow w.heap.size 2 1 (.slice (some ⟨w.heap.size, 0, none⟩) 0 0) 0 []) := World.ownsRow_made w #[] 0 (Nat.le_refl _) (Nat.zero_le _) rfl
  go_enter Tryd.func24, Tryd.ntmps24
  go_wp2_with fail
  refine (specStep_any a b n cn m cm rs f _ (H.out.below ((Below.refl _ _).alloc (Nat.le_refl _) _)) (H2.out.below ((Below.refl _ _).alloc (Nat.le_refl _) _))).mono ?_
  rintro e w1 ⟨hE, hb⟩
  have HB1 : Hid (Below w.heap.size w w1) := ((Below.refl _ _).alloc (Nat.le_refl _) _).trans (hb.mono (by simp))
  have HO1 := Lib.hid (own_far HST.out (fun k _ hk => hb.block k hk))
  have hzw : w.heap.size < w1.heap.size := by have := hb.size; simp at this; omega
  have HEM : Hid (w1.heap[w.heap.size]? = some (.cells #[] 2)) := (hb.block _ (by simp)).trans (blk_alloc_new _ _)
  clear hb HST
  rcases hE with ⟨k, hk, hk0, rfl⟩ | ⟨st, gl, gf, gt, c, cf, ct, hk, rfl, hL⟩
  · have HK := Lib.hid hk
    clear hk
    have HO2 := Lib.hid (own_far (W' := w1.alloc (.cells #[.slice none 0 0, .slice none 0 0, .slice none 0 0, .int .i64 0, .int .i64 k] 27)) HO1.out (fun k _ hk => blk_alloc_lt _ _ _ hk))
    clear HO1
    go_wp2_with fail
    go_loopw [5, 7] (fun ov iv wr => ov = .slice (some ⟨w.heap.size, 0, none⟩) 0 0 ∧ iv = .int .i64 0 ∧ Hid (wr = w1.alloc (.cells #[.slice none 0 0, .slice none 0 0, .slice none 0 0, .int .i64 0, .int .i64 k] 27))) (fun _ _ _ => 0)
    case atStart => exact ⟨rfl, rfl, rfl⟩
    case round =>
      obtain ⟨rfl, rfl, hW⟩ := hrel
      obtain rfl := hW.out
      clear hW
      go_wp2_with fail
      go_ret
      exact ⟨⟨_, rfl, by rw [HK.out]; exact HO2.out⟩, HB1.out.alloc HB1.out.size _⟩
  · have hn := (Rv.stepF_inv hk).1.1.1
    have HK := Lib.hid hk
    have HL := Lib.hid hL.2.2
    have hn1 : 1 ≤ n := hn.1
    have hn2 : n ≤ 40 := hn.2
    have zt : gt < w1.heap.size := hL.2.2.lt
    have HTG : Hid (gt ≠ w.heap.size) := ne_empty HEM.out hL.2.2 hn.1
    clear hk hL hn
    have R1 := Lib.hid (World.rowIs_alloc w1 #[.slice (some ⟨gl, 0, none⟩) n c, .slice (some ⟨gf, 0, none⟩) n cf, .slice (some ⟨gt, 0, none⟩) n ct, .int .i64 st.sea, .int .i64 0] 27 _ (ro5_row (.slice (some ⟨gl, 0, none⟩) n c) (.slice (some ⟨gf, 0, none⟩) n cf) (.slice (some ⟨gt, 0, none⟩) n ct) st.sea 0))
    have HB2 : Hid (Below w.heap.size w (w1.alloc (.cells #[.slice (some ⟨gl, 0, none⟩) n c, .slice (some ⟨gf, 0, none⟩) n cf, .slice (some ⟨gt, 0, none⟩) n ct, .int .i64 st.sea, .int .i64 0] 27))) := HB1.out.alloc HB1.out.size _
    have HL2 : Hid (InBlk gt n st.tk (w1.alloc (.cells #[.slice (some ⟨gl, 0, none⟩) n c, .slice (some ⟨gf, 0, none⟩) n cf, .slice (some ⟨gt, 0, none⟩) n ct, .int .i64 st.sea, .int .i64 0] 27))) := HL.out.alloc _
    have HO2 := Lib.hid (own_far (W' := w1.alloc (.cells #[.slice (some ⟨gl, 0, none⟩) n c, .slice (some ⟨gf, 0, none⟩) n cf, .slice (some ⟨gt, 0, none⟩) n ct, .int .i64 st.sea, .int .i64 0] 27)) HO1.out (fun k _ hk => blk_alloc_lt _ _ _ hk))
    clear HL HB1 HO1
    go_wp2_with fail
    go_loopw [5, 7] (fun ov iv wr => ∃ (i : Nat), i ≤ n ∧ iv = .int .i64 i ∧ Hid (wr.ownsRow w.heap.size 2 1 ov (Rv.short rs st.tk i).length (natVs (Rv.short rs st.tk i)) ∧ ∀ k, ov.ownBlock = some k → k ≠ w1.heap.size ∧ k ≠ gt) ∧ Hid (Below w.heap.size w wr) ∧ Hid (wr.rowIs w1.heap.size 27 5 (ro5 (.slice (some ⟨gl, 0, none⟩) n c) (.slice (some ⟨gf, 0, none⟩) n cf) (.slice (some ⟨gt, 0, none⟩) n ct) st.sea 0)) ∧ Hid (InBlk gt n st.tk wr)) (fun _ iv _ => n - (intOf iv).toNat)
    case atStart => exact ⟨0, Nat.zero_le _, rfl, ⟨HO2.out, fun k hk => by simp [Value.ownBlock] at hk; subst hk; exact ⟨by omega, fun e => HTG.out e.symm⟩⟩, HB2, R1, HL2⟩
    case round =>
      obtain ⟨i, hi, rfl, hO, hB, hR, hT⟩ := hrel
      clear HB2 R1 HL2
      obtain ⟨av, cv, rfl⟩ := own_shape hO.out.1
      by_cases hlt : i < n
      · have hltz : (i : Int) < (n : Int) := by omega
        have hlen := short_len rs st.tk i
        have zw : w1.heap.size < wr.heap.size := hR.out.lt
        obtain ⟨lb, rfl, c0, c1, c2, c3, c4⟩ := (H.out.below hB.out).at_ hlt
        have t0 := hT.out.cell hlt
        have p2 : wr.cell? ⟨w1.heap.size, 2, none⟩ = some (.slice (some ⟨gt, 0, none⟩) n ct) := hR.out.cell (i := 2) (by omega)
        by_cases hs : st.tk i < (rs i).tk
        · have hA := Lib.hid (show Rv.short rs st.tk (i + 1) = Rv.short rs st.tk i ++ [i] by rw [Rv.short_succ, if_pos hs])
          go_wp2_with fail
          go_region
          have hO1 := Lib.hid (own_far (W' := wr.drew) hO.out.1 (fun _ _ _ => rfl))
          have hO2 := Lib.hid hO.out.2
          have hB1 : Hid (Below w.heap.size w wr.drew) := hB.out.drew
          have hR1 := Lib.hid hR.out.drew
          have hT1 : Hid (InBlk gt n st.tk wr.drew) := hT.out.block rfl
          have zw' : w1.heap.size < wr.drew.heap.size := zw
          clear hO hB hR hT c0 c1 c2 c3 c4 t0 p2 zw
          generalize wr.drew = W2 at *
          go_wp2_with (at_builtin; refine wpList_append_lies _ rfl _ _ 23 rfl w.heap.size 2 i1 (.int .i64 0) 1 8 Tryd.underlying23 hi1 hy0 hy1 hy2 rfl (by decide) _ _ _ rfl (hO1.out.alloc _) ⟨W2.heap.size, 0, none⟩ 1 1 [.int .i64 (i : Int)] rfl rfl ?a1 ?a2 ?a3 ?a4 ?a5 ?a6 (W2.heap.size + 1) ?a7 ?_)
          try (case a1 => (intro j u hj; match j, hj with
            | 0, hj => (simp at hj; subst hj; simp [Addr.add])))
          try (case a2 => first | rfl | (intro u hu; simp at hu; subst hu; rfl))
          try (case a3 => omega)
          try (case a4 => (unfold maxLen; omega))
          try (case a5 => omega)
          try (case a6 => first | omega | (simp; omega))
          try (case a7 => simp)
          intro g cap W3 hown hgrow hat hlt3
          have keep : ∀ k, (k = w1.heap.size ∨ k = gt) → W3.heap[k]? = W2.heap[k]? := fun k hk => by
            have hk2 : k < W2.heap.size := by omega
            rw [hgrow.block k (by simp; omega) (fun e => by have := hO2.out k e.symm; omega), blk_alloc_lt _ _ _ hk2]
          have hgn : g ≠ w1.heap.size ∧ g ≠ gt := by
            rcases hat with e | e
            · exact hO2.out g e
            · omega
          have HO3 : Hid (W3.ownsRow w.heap.size 2 1 (.slice (some ⟨g, 0, none⟩) ((Rv.short rs st.tk i).length + 1) cap) (Rv.short rs st.tk (i + 1)).length (natVs (Rv.short rs st.tk (i + 1))) ∧ ∀ k, (Value.slice (some ⟨g, 0, none⟩) ((Rv.short rs st.tk i).length + 1) cap).ownBlock = some k → k ≠ w1.heap.size ∧ k ≠ gt) := Lib.hid ⟨by
            rw [hA.out, natVs_app]; simpa using hown, fun k hk => by simp [Value.ownBlock] at hk; subst hk; exact hgn⟩
          have HB3 : Hid (Below w.heap.size w W3) := (hB1.out.alloc hB1.out.size _).grown hgrow (by simp; have := hB1.out.size; omega) (fun k hk => (hO1.out.lt k hk).1)
          have HR3 : Hid (W3.rowIs w1.heap.size 27 5 _) := hR1.out.of_block (keep _ (Or.inl rfl))
          have HT3 : Hid (InBlk gt n st.tk W3) := hT1.out.block (keep _ (Or.inr rfl))
          clear hown hgrow hat hlt3 hO1 hO2 hB1 hR1 hT1 hA keep hgn
          go_wp2_with fail
          go_roundw
          case rel => exact ⟨i + 1, by omega, by go_num, HO3, HB3, HR3, HT3⟩
          case measure => simp [intOf]; omega
        · have hA := Lib.hid (show Rv.short rs st.tk (i + 1) = Rv.short rs st.tk i by rw [Rv.short_succ, if_neg hs, List.append_nil])
          go_wp2_with fail
          go_region
          go_wp2_with fail
          go_roundw
          case rel => exact ⟨i + 1, by omega, by go_num, Lib.hid ⟨by rw [hA.out]; exact own_far hO.out.1 (fun _ _ _ => rfl), hO.out.2⟩, hB.out.drew, hR.out.drew, hT.out.block rfl⟩
          case measure => simp [intOf]; omega
      · obtain rfl : i = n := by omega
        have p2 : wr.cell? ⟨w1.heap.size, 2, none⟩ = some (.slice (some ⟨gt, 0, none⟩) i ct) := hR.out.cell (i := 2) (by omega)
        go_wp2_with fail
        go_ret
        exact ⟨⟨_, rfl, by rw [HK.out]; exact hO.out.1⟩, hB.out⟩
end Go.Proofs.YtdpghhmcibiplaaDoor
