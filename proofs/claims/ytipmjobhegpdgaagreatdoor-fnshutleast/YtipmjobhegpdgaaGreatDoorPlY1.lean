/-
  The program's layout of a plan.
-/
import Derived.Test.YtipmjobhegpdgaaGreatDoorPlY0
import Derived.Maps.AppendAt
namespace Go.Proofs.YtipmjobhegpdgaaGreatDoor
open Go Go.RowKit Go.Deep

theorem yinfo_i64 : (Tryz.prog.info? 2).map (fun i => (i.zero, i.size, i.bytes)) = some (some (.int .i64 0), 1, 8) := by kernel_rfl
set_option maxRecDepth 100000 in
set_option maxHeartbeats 2000000 in
theorem layoutOf_any (n : Pl.Plan) (la : Option Addr) (lk : Nat) (a : Option Addr) (m cap : Nat) (f : Nat → Int) (w : World) (h : IsAt la (n.rn * 3) n.R w) (hr : Pl.Right n) (hl : IsAt a m f w) (hm : m ≤ 1048576) :
    Calls Tryz.prog 50 #[.slice la n.rn lk, .slice a m cap] w fun e w' => (∃ b cnt kf gv, e = .returned (.map (some b)) ∧ LayS n (Pl.In m f) n.rn b cnt kf gv w.heap.size w') ∧ Below w.heap.size w w' := by
  have H := Lib.hid h
  have HL := Lib.hid hl
  have HR := Lib.hid hr
  have hrn := hr.r
  have HS0 : Hid (LayS n (Pl.In m f) 0 w.heap.size 0 (fun _ => (0, 0)) (fun _ => .slice none 0 0) w.heap.size (w.alloc (.map #[] 0))) := by
    refine ⟨⟨heap_alloc_new _ _, fun j hj => absurd hj (by omega), fun i j hi => absurd hi (by omega)⟩, fun j hj => absurd hj (by omega), fun i j hi => absurd hi (by omega), fun j hj => absurd hj (by omega), Nat.le_refl _, fun i hi => absurd hi (by omega), fun j hj => absurd hj (by omega)⟩
  have HB0 : Hid (Below w.heap.size w (w.alloc (.map #[] 0))) := nbel_alloc _ _
  clear h hl hr
  have hmm : (Instr.makeMap 79 none).run Tryz.prog w = .ok (.map (some w.heap.size)) (w.alloc (.map #[] 0)) := run_makeMap _ _
  go_enter Tryz.func50, Tryz.ntmps50
  go_wp2_with fail
  clear hmm
  go_loopw [6, 7, 8, 9, 13] (fun _ _ _ _ iv wr => ∃ (i cnt : Nat) (kf : Nat → Int × Int) (gv : Nat → Value), i ≤ n.rn ∧ iv = .int .i64 i ∧ Hid (LayS n (Pl.In m f) i w.heap.size cnt kf gv w.heap.size wr) ∧ Hid (Below w.heap.size w wr)) (fun _ _ _ _ iv _ => n.rn - (intOf iv).toNat)
  case atStart => exact ⟨0, 0, _, _, Nat.zero_le _, rfl, HS0, HB0⟩
  case round =>
    obtain ⟨i, cnt, kf, gv, hi, rfl, hS, hB⟩ := hrel
    clear HS0 HB0
    by_cases hlt : i < n.rn
    · have hltz : (i : Int) < (n.rn : Int) := by omega
      obtain ⟨b, eb, c0, c1, c2⟩ := (H.out.below hB.out).at3 hlt
      subst eb
      have zb : b < wr.heap.size := World.block_lt_of_cell? _ _ c0
      obtain ⟨W1, hW1⟩ : ∃ W1, W1 = wr.alloc (.cells #[.int .i64 (n.R (i * 3)), .int .i64 (n.R (i * 3 + 1)), .int .i64 (n.R (i * 3 + 2))] 61) := ⟨_, rfl⟩
      have hb1 : Below wr.heap.size wr W1 := by rw [hW1]; exact nbel_alloc _ _
      have HS1 := Lib.hid (hS.out.grown hb1)
      have HB1 : Hid (Below w.heap.size w W1) := hB.out.trans (hb1.mono hB.out.size)
      have HR1 : Hid (W1.rowIs wr.heap.size 61 3 (rowN [.int .i64 (n.R (i * 3)), .int .i64 (n.R (i * 3 + 1)), .int .i64 (n.R (i * 3 + 2))])) := by show World.rowIs _ _ _ _ _; rw [hW1]; exact rowN_alloc _ _ _
      have HW1 := Lib.hid hW1
      clear hW1 hb1 hS hB
      go_wp2_with fail
      rw [← HW1.out]
      refine (pcont_any a m cap f (i : Nat) _ (HL.out.below HB1.out) hm).mono ?_
      rintro e w1 ⟨rfl, rfl⟩
      clear c0 c1 c2
      obtain ⟨⟨x0, x1, x2⟩, _⟩ := rowN3 HR1.out
      by_cases hsh : Pl.In m f i
      · rw [dB_tt (show Pl.Has m f (i : Int) from hsh)]
        have HN := Lib.hid (HS1.out.skip hsh)
        clear hsh
        go_wp2_with fail
        go_roundw
        case rel => exact ⟨i + 1, cnt, kf, gv, by omega, by go_num, HN, HB1⟩
        case measure => simp [intOf]; omega
      rw [dB_ff (show ¬ Pl.Has m f (i : Int) from hsh)]
      have HSH := Lib.hid hsh
      clear hsh
      go_wp2_with fail
      refine (ppair_any _ _ _).mono ?_
      rintro e w2 ⟨rfl, hb2⟩
      have HS2 := Lib.hid (HS1.out.grown hb2)
      have HB2 : Hid (Below w.heap.size w w2) := HB1.out.trans (hb2.mono HB1.out.size)
      have HR2 := Lib.hid (nrow_below HR1.out hb2)
      have hrow := HR.out.rows i hlt
      have HKI : Hid (KIn (Pl.key n i)) := by
        have h1 := hrow.1
        have h2 := hrow.2.1
        have h3 := HR.out.h2
        show KIn (Pl.lo _ _, Pl.hi _ _)
        unfold KIn Pl.lo Pl.hi
        simp only
        split <;> omega
      clear hb2 HS1 HB1 HR1 x0 x1 x2 hrow
      obtain ⟨⟨x0, x1, x2⟩, _⟩ := rowN3 HR2.out
      have zx : wr.heap.size < w2.heap.size := HR2.out.lt
      obtain ⟨g0, hlk, how, htag⟩ := HS2.out.look HKI.out
      obtain ⟨ga, gn, gc, rfl⟩ : ∃ ga gn gc, g0 = .slice ga gn gc := by
        rcases how.2 with ⟨h1, _⟩ | ⟨g, c, cur, h1, _⟩
        · exact ⟨_, _, _, h1⟩
        · exact ⟨_, _, _, h1⟩
      have hlk1 := hlk (w2.alloc (.cells #[.int .i64 (Pl.key n i).1, .int .i64 (Pl.key n i).2] 112)) (nbel_alloc _ _)
      have HOW := Lib.hid how
      have HTAG := Lib.hid htag
      have hlk2 : (Instr.lookup 79 (.map (some w.heap.size)) (.agg #[.int .i64 (Pl.lo (n.R (i * 3)) (n.R (i * 3 + 1))), .int .i64 (Pl.hi (n.R (i * 3)) (n.R (i * 3 + 1)))]) false).run Tryz.prog (w2.alloc (.cells #[.int .i64 (Pl.lo (n.R (i * 3)) (n.R (i * 3 + 1))), .int .i64 (Pl.hi (n.R (i * 3)) (n.R (i * 3 + 1)))] 112)) = .ok (bu (.slice ga gn gc) (Pl.heldB n (Pl.In m f) i (Pl.key n i)) 0) (w2.alloc (.cells #[.int .i64 (Pl.lo (n.R (i * 3)) (n.R (i * 3 + 1))), .int .i64 (Pl.hi (n.R (i * 3)) (n.R (i * 3 + 1)))] 112)) := hlk1
      clear hlk hlk1 how htag
      by_cases hg : Pl.gd n i
      · have e5 : (n.R (i * 3 + 2) == 1) = true := by unfold Pl.gd at hg; simp [hg]
        obtain ⟨i1, hi1, hy0, hy1, hy2⟩ := info_parts yinfo_i64
        have HHB : Hid (Pl.heldB n (Pl.In m f) (i + 1) (Pl.key n i) = Pl.heldB n (Pl.In m f) i (Pl.key n i)) := Pl.heldB_not (fun x => x.2.2 hg)
        have HGL : Hid (Pl.goodL n (Pl.In m f) (i + 1) (Pl.key n i) = Pl.goodL n (Pl.In m f) i (Pl.key n i) ++ [i]) := Pl.goodL_yes HSH.out hg
        have hll : (Pl.goodL n (Pl.In m f) i (Pl.key n i)).length ≤ i := Pl.goodL_len
        have hlow := HB2.out.size
        generalize Pl.heldB n (Pl.In m f) i (Pl.key n i) = hb at hlk2 HHB
        clear hg
        go_wp2_with (at_builtin; refine wpList_append_own_at _ rfl _ _ 23 rfl w.heap.size 2 i1 _ 1 8 Tryz.underlying23 hi1 hy0 hy1 hy2 rfl (by decide) _ _ _ rfl (((HOW.out.alloc _).alloc _).alloc _) ⟨w2.heap.size + 1 + 1, 0, none⟩ 1 1 [.int .i64 (i : Nat)] rfl rfl ?d1 ?d2 ?d3 ?d4 ?d5 ?_)
        case d1 =>
          intro q x hq
          match q, hq with
          | 0, hq =>
            simp at hq
            subst hq
            exact (rowN_alloc' (g := w2.heap.size + 1 + 1) (by simp) [.int .i64 (i : Nat)] 2).cell (i := 0) (by simp)
        case d2 =>
          intro x hx
          simp at hx
          subst hx
          rfl
        case d3 => unfold maxLen; omega
        case d4 => omega
        case d5 => simp; omega
        intro v5 W5 hown hgrow hnil hat
        obtain ⟨W4, hW4⟩ : ∃ W4, W4 = ((w2.alloc (.cells #[.int .i64 (Pl.lo (n.R (i * 3)) (n.R (i * 3 + 1))), .int .i64 (Pl.hi (n.R (i * 3)) (n.R (i * 3 + 1)))] 112)).alloc (.cells #[.slice ga gn gc, .bool hb, .int .i64 0] 115)).alloc (.cells #[.int .i64 (i : Nat)] 2) := ⟨_, rfl⟩
        rw [← hW4] at hgrow
        have hb4 : Below w2.heap.size w2 W4 := by rw [hW4]; exact (((Below.refl _ _).alloc (Nat.le_refl _) _).alloc (by simp) _).alloc (by simp; omega) _
        have hs4 : W4.heap.size = w2.heap.size + 3 := by rw [hW4]; simp
        have hrp : W4.rowIs w2.heap.size 112 2 (rowN [.int .i64 (Pl.lo (n.R (i * 3)) (n.R (i * 3 + 1))), .int .i64 (Pl.hi (n.R (i * 3)) (n.R (i * 3 + 1)))]) := by rw [hW4]; exact nrow_below (nrow_below (rowN_alloc w2 _ _) (nbel_alloc _ _)) (nbel_alloc _ _)
        have hrb : W4.rowIs (w2.heap.size + 1) 115 3 (rowN [.slice ga gn gc, .bool hb, .int .i64 0]) := by rw [hW4]; exact nrow_below (rowN_alloc' (by simp) _ _) (nbel_alloc _ _)
        have hold : ∀ q, (Value.slice ga gn gc).ownBlock = some q → q < w2.heap.size := fun q hq => (HOW.out.lt q hq).2
        have hrp5 : W5.rowIs w2.heap.size 112 2 _ := hrp.of_block (hgrow.block _ (by omega) (fun e => by have := hold _ e.symm; omega))
        have hrb5 : W5.rowIs (w2.heap.size + 1) 115 3 _ := hrb.of_block (hgrow.block _ (by omega) (fun e => by have := hold _ e.symm; omega))
        obtain ⟨g5, c5, rfl⟩ : ∃ g5 c5, v5 = .slice (some ⟨g5, 0, none⟩) ((Pl.goodL n (Pl.In m f) i (Pl.key n i)).length + 1) c5 := by
          rcases hown.2 with ⟨h1, _⟩ | ⟨g5, c5, cur, h1, _⟩
          · rw [h1] at hnil; simp at hnil
          · exact ⟨g5, c5, h1⟩
        have hg5 : (Value.slice ga gn gc).ownBlock = some g5 ∨ g5 = w2.heap.size + 3 := by
          rcases hat with h1 | h1
          · exact Or.inl (by simpa [Value.ownBlock] using h1.symm)
          · exact Or.inr (by simp [Value.ownBlock] at h1; omega)
        obtain ⟨X, hX⟩ : ∃ X, X = W5.setCell ⟨w2.heap.size + 1, 0, none⟩ (.slice (some ⟨g5, 0, none⟩) ((Pl.goodL n (Pl.In m f) i (Pl.key n i)).length + 1) c5) := ⟨_, rfl⟩
        have hXo : ∀ q, q ≠ w2.heap.size + 1 → X.heap[q]? = W5.heap[q]? := fun q hq => by rw [hX]; exact blk_setCell_other _ _ _ _ hq
        have hXs : X.heap.size = W5.heap.size := by rw [hX]; simp
        have hgX : w2.grownBy X (Value.slice ga gn gc).ownBlock := by
          refine ⟨?_, ?_, ?_, by have := hgrow.size; omega, fun q hq hne => ?_⟩
          · rw [hX]; exact hgrow.os.trans hb4.os
          · rw [hX]; exact hgrow.tape.trans hb4.tape
          · rw [hX]; exact hgrow.output.trans hb4.output
          · rw [hXo q (by omega), hgrow.block q (by omega) hne, hb4.block q hq]
        have hoX : X.ownsRow w.heap.size 2 1 (.slice (some ⟨g5, 0, none⟩) ((Pl.goodL n (Pl.In m f) i (Pl.key n i)).length + 1) c5) (Pl.goodL n (Pl.In m f) (i + 1) (Pl.key n i)).length (numsV (Pl.goodL n (Pl.In m f) (i + 1) (Pl.key n i))) := by
          rw [HGL.out, List.length_append]
          have h1 : numsV (Pl.goodL n (Pl.In m f) i (Pl.key n i) ++ [i]) = numsV (Pl.goodL n (Pl.In m f) i (Pl.key n i)) ++ [.int .i64 (i : Nat)] := by simp [numsV]
          rw [h1]
          refine World.ownsRow.kept hown (row := some (w2.heap.size + 1)) ⟨by rw [hX]; rfl, by rw [hX]; rfl, by rw [hX]; rfl, by omega, fun q _ hq => hXo q (fun e => hq (by rw [e]))⟩ (Or.inr ?_)
          simp [Value.ownBlock]
          rcases hg5 with h2 | h2
          · have := hold _ h2; omega
          · omega
        obtain ⟨Y, cnt', kf', gv', hput, hSY, hOY⟩ := HS2.out.put HSH.out HKI.out HTAG.out hgX hoX (fun g hg => by
          simp [Value.ownBlock] at hg
          subst hg
          rcases hg5 with h2 | h2
          · exact Or.inl h2
          · exact Or.inr (by omega))
        rw [HHB.out] at hput
        have hput2 : (Instr.mapUpdate 79 (.map (some w.heap.size)) (.agg #[.int .i64 (Pl.lo (n.R (i * 3)) (n.R (i * 3 + 1))), .int .i64 (Pl.hi (n.R (i * 3)) (n.R (i * 3 + 1)))]) (.agg #[.slice (some ⟨g5, 0, none⟩) ((Pl.goodL n (Pl.In m f) i (Pl.key n i)).length + 1) c5, .bool hb, .int .i64 0])).run Tryz.prog (W5.setCell ⟨w2.heap.size + 1, 0, none⟩ (.slice (some ⟨g5, 0, none⟩) ((Pl.goodL n (Pl.In m f) i (Pl.key n i)).length + 1) c5)) = .ok () Y := by rw [← hX]; exact hput
        have HSY := Lib.hid hSY
        have HBY : Hid (Below w.heap.size w Y) := by
          have h1 : Below w.heap.size w X := ⟨hgX.os.trans HB2.out.os, hgX.tape.trans HB2.out.tape, hgX.output.trans HB2.out.output, by have := hgX.size; omega, fun q hq => by
            rw [hgX.block q (by omega) (fun e => by have := (HOW.out.lt q e.symm).1; omega), HB2.out.block q hq]⟩
          exact h1.trans (hOY.below (B := w.heap.size) (Nat.le_refl _) h1.size)
        obtain ⟨⟨r0, r1⟩, _⟩ := rowN2 hrp5
        obtain ⟨⟨s0, s1, s2⟩, z0, _, _⟩ := rowN3 hrb5
        have hl5 : w2.heap.size + 1 < W5.heap.size := hrb5.lt
        clear hput hSY hOY hgX hoX hX hXo hXs hg5 hold hrp hrb hrp5 hrb5 hs4 hb4 hW4 hown hgrow hnil hat
        go_wp2_with fail
        go_roundw
        case rel => exact ⟨i + 1, cnt', kf', gv', by omega, by go_num, HSY, HBY⟩
        case measure => simp [intOf]; omega
      · have e5 : (n.R (i * 3 + 2) == 1) = false := by unfold Pl.gd at hg; simp [hg]
        obtain ⟨X, hX⟩ : ∃ X, X = (w2.alloc (.cells #[.int .i64 (Pl.lo (n.R (i * 3)) (n.R (i * 3 + 1))), .int .i64 (Pl.hi (n.R (i * 3)) (n.R (i * 3 + 1)))] 112)).alloc (.cells #[.slice ga gn gc, .bool true, .int .i64 0] 115) := ⟨_, rfl⟩
        have hbX : Below w2.heap.size w2 X := by rw [hX]; exact ((Below.refl _ _).alloc (Nat.le_refl _) _).alloc (by simp) _
        have hgX : w2.grownBy X (Value.slice ga gn gc).ownBlock := ⟨hbX.os, hbX.tape, hbX.output, hbX.size, fun q hq _ => hbX.block q hq⟩
        have hoX : X.ownsRow w.heap.size 2 1 (.slice ga gn gc) (Pl.goodL n (Pl.In m f) (i + 1) (Pl.key n i)).length (numsV (Pl.goodL n (Pl.In m f) (i + 1) (Pl.key n i))) := by
          rw [Pl.goodL_not (fun x => hg x.2.2)]
          exact HOW.out.kept (row := none) ⟨hbX.os, hbX.tape, hbX.output, hbX.size, fun q hq _ => hbX.block q hq⟩ (by cases hv : (Value.slice ga gn gc).ownBlock <;> simp)
        obtain ⟨Y, cnt', kf', gv', hput, hSY, hOY⟩ := HS2.out.put HSH.out HKI.out HTAG.out hgX hoX (fun g hg => Or.inl hg)
        rw [Pl.heldB_yes HSH.out hg] at hput
        have hput2 : (Instr.mapUpdate 79 (.map (some w.heap.size)) (.agg #[.int .i64 (Pl.lo (n.R (i * 3)) (n.R (i * 3 + 1))), .int .i64 (Pl.hi (n.R (i * 3)) (n.R (i * 3 + 1)))]) (.agg #[.slice ga gn gc, .bool true, .int .i64 0])).run Tryz.prog ((w2.alloc (.cells #[.int .i64 (Pl.lo (n.R (i * 3)) (n.R (i * 3 + 1))), .int .i64 (Pl.hi (n.R (i * 3)) (n.R (i * 3 + 1)))] 112)).alloc (.cells #[.slice ga gn gc, .bool true, .int .i64 0] 115)) = .ok () Y := by rw [← hX]; exact hput
        have HSY := Lib.hid hSY
        have HBY : Hid (Below w.heap.size w Y) := HB2.out.trans ((hbX.mono (Nat.le_refl _) |>.mono HB2.out.size).trans ((hOY.below (B := w.heap.size) (Nat.le_refl _) (by have := hbX.size; have := HB2.out.size; omega))))
        clear hput hSY hOY hgX hoX hbX hX hg
        go_wp2_with fail
        go_roundw
        case rel => exact ⟨i + 1, cnt', kf', gv', by omega, by go_num, HSY, HBY⟩
        case measure => simp [intOf]; omega
    · obtain rfl : i = n.rn := by omega
      go_wp2_with fail
      go_ret
      exact ⟨⟨_, cnt, kf, gv, rfl, hS.out⟩, hB.out⟩
end Go.Proofs.YtipmjobhegpdgaaGreatDoor
