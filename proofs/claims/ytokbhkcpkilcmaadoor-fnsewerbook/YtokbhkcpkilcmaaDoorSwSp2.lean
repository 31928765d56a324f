/-
  The contract of the model's SewerSpills.
-/
import Derived.Test.YtokbhkcpkilcmaaDoorSwSp1
import Derived.Test.YtokbhkcpkilcmaaDoorSwS6
namespace Go.Proofs.YtokbhkcpkilcmaaDoor
open Go.RowKit Go.Deep

theorem ne_empty {W : World} {g h n : Nat} {f : Nat → Int} {T : TypeId} (h1 : W.heap[h]? = some (.cells #[] T)) (h2 : InBlk g n f W) (hn : 1 ≤ n) : g ≠ h := fun e => by
  subst e
  obtain ⟨m, F, hm, ⟨c, hc, hs, _⟩, _⟩ := h2
  rw [h1] at hc
  cases hc
  simp at hs; omega
set_option maxRecDepth 100000 in
set_option maxHeartbeats 4000000 in
theorem specSpills_any (a ra : Option Addr) (n cn M cr : Nat) (rs : Nat → Sw.Rc) (q : Nat → Sw.Rain) (w : World) (h : RcsAt a n rs w) (h2 : RainsAt ra M q w) :
    Calls Tryd.prog 20 #[.slice a n cn, .slice ra M cr] w fun e w' => (∃ v, e = .returned v ∧ w'.ownsRow w.heap.size 2 1 v (Sw.spillF n M rs q).length (natVs (Sw.spillF n M rs q))) ∧ Below w.heap.size w w' := by
  obtain ⟨i1, hi1, hy0, hy1, hy2⟩ := info_parts info_i64
  have H := Lib.hid h
  have H2 := Lib.hid h2
  clear h h2
  have HST : Hid ((w.alloc (.cells #[] 2)).ownsRow w.heap.size 2 1 (.slice (some ⟨w.heap.size, 0, none⟩) 0 0) 0 []) := World.ownsRow_made w #[] 0 (Nat.le_refl _) (Nat.zero_le _) rfl
  go_enter Tryd.func20, Tryd.ntmps20
  go_wp2_with fail
  refine (specRun_any a ra n cn M cr rs q _ (H.out.below ((Below.refl _ _).alloc (Nat.le_refl _) _)) (H2.out.below ((Below.refl _ _).alloc (Nat.le_refl _) _))).mono ?_
  rintro e w1 ⟨hE, hb⟩
  have HB1 : Hid (Below w.heap.size w w1) := ((Below.refl _ _).alloc (Nat.le_refl _) _).trans (hb.mono (by simp))
  have HO1 := Lib.hid (own_far HST.out (fun k _ hk => hb.block k hk))
  have hzw : w.heap.size < w1.heap.size := by have := hb.size; simp at this; omega
  have HEM : Hid (w1.heap[w.heap.size]? = some (.cells #[] 2)) := (hb.block _ (by simp)).trans (blk_alloc_new _ _)
  clear hb HST
  rcases hE with ⟨k, hk, hk0, rfl⟩ | ⟨t, gl, gf, gt, c, hk, rfl, hL⟩
  · have HK := Lib.hid (spillF_none hk)
    clear hk
    have HO2 := Lib.hid (own_far (W' := w1.alloc (.cells #[.slice none 0 0, .slice none 0 0, .slice none 0 0, .int .i64 0, .int .i64 k] 27)) HO1.out (fun k _ hk => blk_alloc_lt _ _ _ hk))
    clear HO1
    go_wp2_with fail
    go_loopw [5, 7] (fun ov iv wr => ov = .slice (some ⟨w.heap.size, 0, none⟩) 0 0 ∧ iv = .int .i64 0 ∧ Hid (wr = w1.alloc (.cells #[.slice none 0 0, .slice none 0 0, .slice none 0 0, .int .i64 0, .int .i64 k] 27))) (fun _ _ _ => 0)
    case atStart => exact ⟨rfl, rfl, rfl⟩
    case round =>
      obtain ⟨rfl, rfl, hW⟩ := hrel
      obtain rfl := hW.out
      clear hW
      go_wp2_with fail
      go_ret
      exact ⟨⟨_, rfl, by rw [HK.out]; exact HO2.out⟩, HB1.out.alloc HB1.out.size _⟩
  · have hn := (runF_some hk).1.1
    have HK := Lib.hid (spillF_some hk)
    have HL := Lib.hid hL.2.2.2.2
    have hn1 : 1 ≤ n := hn.1
    have hn2 : n ≤ 40 := hn.2
    have zt : gt < w1.heap.size := hL.2.2.2.2.lt
    have HTG : Hid (gt ≠ w.heap.size) := ne_empty HEM.out hL.2.2.2.2 hn.1
    clear hk hL hn
    have R1 := Lib.hid (World.rowIs_alloc w1 #[.slice (some ⟨gl, 0, none⟩) n c, .slice (some ⟨gf, 0, none⟩) n n, .slice (some ⟨gt, 0, none⟩) n n, .int .i64 t.sea, .int .i64 0] 27 _ (ro5_row (.slice (some ⟨gl, 0, none⟩) n c) (.slice (some ⟨gf, 0, none⟩) n n) (.slice (some ⟨gt, 0, none⟩) n n) t.sea 0))
    have HB2 : Hid (Below w.heap.size w (w1.alloc (.cells #[.slice (some ⟨gl, 0, none⟩) n c, .slice (some ⟨gf, 0, none⟩) n n, .slice (some ⟨gt, 0, none⟩) n n, .int .i64 t.sea, .int .i64 0] 27))) := HB1.out.alloc HB1.out.size _
    have HL2 : Hid (InBlk gt n t.tk (w1.alloc (.cells #[.slice (some ⟨gl, 0, none⟩) n c, .slice (some ⟨gf, 0, none⟩) n n, .slice (some ⟨gt, 0, none⟩) n n, .int .i64 t.sea, .int .i64 0] 27))) := IsBlk.alloc HL.out _
    have HO2 := Lib.hid (own_far (W' := w1.alloc (.cells #[.slice (some ⟨gl, 0, none⟩) n c, .slice (some ⟨gf, 0, none⟩) n n, .slice (some ⟨gt, 0, none⟩) n n, .int .i64 t.sea, .int .i64 0] 27)) HO1.out (fun k _ hk => blk_alloc_lt _ _ _ hk))
    clear HL HB1 HO1
    go_wp2_with fail
    go_loopw [5, 7] (fun ov iv wr => ∃ (i : Nat), i ≤ n ∧ iv = .int .i64 i ∧ Hid (wr.ownsRow w.heap.size 2 1 ov (Sw.spills t.tk i).length (natVs (Sw.spills t.tk i)) ∧ ∀ k, ov.ownBlock = some k → k ≠ w1.heap.size ∧ k ≠ gt) ∧ Hid (Below w.heap.size w wr) ∧ Hid (wr.rowIs w1.heap.size 27 5 (ro5 (.slice (some ⟨gl, 0, none⟩) n c) (.slice (some ⟨gf, 0, none⟩) n n) (.slice (some ⟨gt, 0, none⟩) n n) t.sea 0)) ∧ Hid (InBlk gt n t.tk wr)) (fun _ iv _ => n - (intOf iv).toNat)
    case atStart => exact ⟨0, Nat.zero_le _, rfl, ⟨HO2.out, fun k hk => by simp [Value.ownBlock] at hk; subst hk; exact ⟨by omega, fun e => HTG.out e.symm⟩⟩, HB2, R1, HL2⟩
    case round =>
      obtain ⟨i, hi, rfl, hO, hB, hR, hT⟩ := hrel
      clear HB2 R1 HL2
      obtain ⟨av, cv, rfl⟩ := own_shape hO.out.1
      have p2 : wr.cell? ⟨w1.heap.size, 2, none⟩ = some (.slice (some ⟨gt, 0, none⟩) n n) := hR.out.cell (i := 2) (by omega)
      by_cases hlt : i < n
      · have hltz : (i : Int) < (n : Int) := by omega
        have hlen := spills_len t.tk i
        have zw : w1.heap.size < wr.heap.size := hR.out.lt
        have t0 := hT.out.cell hlt
        by_cases hs : 0 < t.tk i
        · have hA := Lib.hid (show Sw.spills t.tk (i + 1) = Sw.spills t.tk i ++ [i] by rw [Sw.spills_succ, if_pos hs])
          have hO1 := Lib.hid hO.out.1
          have hO2 := Lib.hid hO.out.2
          go_wp2_with (at_builtin; refine wpList_append_lies _ rfl _ _ 23 rfl w.heap.size 2 i1 (.int .i64 0) 1 8 Tryd.underlying23 hi1 hy0 hy1 hy2 rfl (by decide) _ _ _ rfl (hO1.out.alloc _) ⟨wr.heap.size, 0, none⟩ 1 1 [.int .i64 (i : Int)] rfl rfl ?a1 ?a2 ?a3 ?a4 ?a5 ?a6 (wr.heap.size + 1) ?a7 ?_)
          try (case a1 => (intro j u hj; match j, hj with
            | 0, hj => (simp at hj; subst hj; simp [Addr.add])))
          try (case a2 => first | rfl | (intro u hu; simp at hu; subst hu; rfl))
          try (case a3 => omega)
          try (case a4 => (unfold maxLen; omega))
          try (case a5 => omega)
          try (case a6 => first | omega | (simp; omega))
          try (case a7 => simp)
          intro g cap W3 hown hgrow hat hlt3
          have keep : ∀ k, (k = w1.heap.size ∨ k = gt) → W3.heap[k]? = wr.heap[k]? := fun k hk => by
            have hk2 : k < wr.heap.size := by omega
            rw [hgrow.block k (by simp; omega) (fun e => by have := hO2.out k e.symm; omega), blk_alloc_lt _ _ _ hk2]
          have hgn : g ≠ w1.heap.size ∧ g ≠ gt := by
            rcases hat with e | e
            · exact hO2.out g e
            · omega
          have HO3 : Hid (W3.ownsRow w.heap.size 2 1 (.slice (some ⟨g, 0, none⟩) ((Sw.spills t.tk i).length + 1) cap) (Sw.spills t.tk (i + 1)).length (natVs (Sw.spills t.tk (i + 1))) ∧ ∀ k, (Value.slice (some ⟨g, 0, none⟩) ((Sw.spills t.tk i).length + 1) cap).ownBlock = some k → k ≠ w1.heap.size ∧ k ≠ gt) := Lib.hid ⟨by
            rw [hA.out, natVs_app]; simpa using hown, fun k hk => by simp [Value.ownBlock] at hk; subst hk; exact hgn⟩
          have HB3 : Hid (Below w.heap.size w W3) := (hB.out.alloc hB.out.size _).grown hgrow (by simp; have := hB.out.size; omega) (fun k hk => (hO1.out.lt k hk).1)
          have HR3 : Hid (W3.rowIs w1.heap.size 27 5 _) := hR.out.of_block (keep _ (Or.inl rfl))
          have HT3 : Hid (InBlk gt n t.tk W3) := hT.out.block (keep _ (Or.inr rfl))
          clear hown hgrow hat hlt3 hO1 hO2 hB hR hT hA keep hgn hO t0 p2
          go_wp2_with fail
          go_roundw
          case rel => exact ⟨i + 1, by omega, by go_num, HO3, HB3, HR3, HT3⟩
          case measure => simp [intOf]; omega
        · have hA := Lib.hid (show Sw.spills t.tk (i + 1) = Sw.spills t.tk i by rw [Sw.spills_succ, if_neg hs, List.append_nil])
          go_wp2_with fail
          go_roundw
          case rel => exact ⟨i + 1, by omega, by go_num, Lib.hid ⟨by rw [hA.out]; exact hO.out.1, hO.out.2⟩, hB, hR, hT⟩
          case measure => simp [intOf]; omega
      · obtain rfl : i = n := by omega
        go_wp2_with fail
        go_ret
        exact ⟨⟨_, rfl, by rw [HK.out]; exact hO.out.1⟩, hB.out⟩
end Go.Proofs.YtokbhkcpkilcmaaDoor
