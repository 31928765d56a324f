/-
  The best picks: the program's.
-/
import Derived.Test.YtbkpedcabbppbaaDoorRnT3
import Derived.Test.YtbkpedcabbppbaaDoorRnOw
import Derived.Test.YtbkpedcabbppbaaDoorRnSs
namespace Go.Proofs.YtbkpedcabbppbaaDoor
open Go.RowKit Go.Deep

/-- All rows, where they were laid. -/
theorem WrV.wrp {cs : Array Value} {B n N : Nat} {f : Nat → Int} {W : World} (h : WrV cs B n N f W) : WrP 73 41 B W.heap.size 0 n N f (W.alloc (.cells cs 73)) := by
  obtain ⟨h1, gs, h2, h3, h4, h5⟩ := h
  refine ⟨gs, ⟨fun j => if j < 41 then cs[j]?.getD undef else .slice none 0 0, ⟨cs, heap_alloc_new W _, h1, fun j hj => ?_⟩, fun j _ hj => ?_, fun j hj => ?_⟩, fun j _ hj => ⟨(h4 j hj).1.below (nbel_alloc _ _), (h4 j hj).2⟩, fun j k _ a b => h5 j k a b⟩
  · simp only [if_pos hj]
    rw [Array.getElem?_eq_getElem (by omega)]
    rfl
  · have : j < 41 := by
      have := (Array.getElem?_eq_some_iff.1 (h2 j hj)).1
      omega
    simp only [if_pos this, h2 j hj]
    rfl
  · by_cases q : j < 41
    · simp only [if_pos q, h3 j hj q]
      rfl
    · simp only [if_neg q]
theorem WrV.one {cs : Array Value} {B n N : Nat} {f : Nat → Int} {W : World} (hV : WrV cs B n N f W) : cs.all (·.oneCell') = true := by
  obtain ⟨h1, gs, h2, h3, _⟩ := hV
  rw [Array.all_eq_true_iff_forall_mem]
  intro v hv
  obtain ⟨i, hi, rfl⟩ := Array.getElem_of_mem hv
  by_cases q : i ≤ n
  · have := h2 i q
    rw [Array.getElem?_eq_getElem hi] at this
    rw [Option.some.inj this]; rfl
  · have := h3 i (by omega) (by omega)
    rw [Array.getElem?_eq_getElem hi] at this
    rw [Option.some.inj this]; rfl
/-- What a round reads. -/
def RnB (gx g5 k1 gn N c : Nat) (y : Int) (V : World) : Prop := V.cell? ⟨gx, 0, none⟩ = some (.int .i64 (c : Int)) ∧ V.cell? ⟨gx, 1, none⟩ = some (.int .i64 y) ∧ V.cell? ⟨g5, k1, none⟩ = some (.slice (some ⟨gn, 0, none⟩) N N)
theorem RnB.below {gx g5 k1 gn N c : Nat} {y : Int} {V V' : World} (h : RnB gx g5 k1 gn N c y V) (hb : Below V.heap.size V V') : RnB gx g5 k1 gn N c y V' := by
  obtain ⟨h0, h1, h2⟩ := h
  exact ⟨(hb.cell (World.block_lt_of_cell? _ _ h0)).trans h0, (hb.cell (World.block_lt_of_cell? _ _ h1)).trans h1, (hb.cell (World.block_lt_of_cell? _ _ h2)).trans h2⟩
set_option maxRecDepth 100000 in
set_option maxHeartbeats 4000000 in
theorem bestPicks_any (a : Option Addr) (n cap : Nat) (f : Nat → Int) (b : Nat) (w : World) (h : IsAt a (n * 2) f w) (hr : Rn.Right n f) (hb3 : b ≤ 300) :
    Calls Tryd.prog 56 #[.slice a n cap, .int .i64 (b : Int)] w fun e w' => (∃ v, e = .returned v ∧ w'.ownsRow w.heap.size 2 1 v (Rn.picks f n b).length (rnVs (Rn.picks f n b))) ∧ Below w.heap.size w w' := by
  obtain ⟨i1, hi1, hy0, hy1, hy2⟩ := info_parts rninfo
  have hn40 := hr.1
  obtain ⟨N, hN⟩ : ∃ N, N = b + 1 := ⟨_, rfl⟩
  have hN1 : N ≤ 1000 := by omega
  have H := Lib.hid h
  have HR := Lib.hid hr
  have HN := Lib.hid hN
  clear h hr hN
  go_enter Tryd.func56, Tryd.ntmps56
  go_wp2_with fail
  refine (worthsOf_any a n cap f b N _ H.out HR.out hb3 HN.out).mono ?_
  rintro e w2 ⟨⟨cs, rfl, hV⟩, hb⟩
  have HV := Lib.hid hV
  have hsz : (Tryd.prog.info? 73).map (·.size) = some cs.size := by rw [hV.1]; kernel_rfl
  have hcs := hV.one
  have h41 : cs.size = 41 := hV.1
  have HB2 := Lib.hid hb
  clear hV hb
  go_upto_region 2 with (refine wpList_store_row rfl 73 _ _ rfl w2.heap.size cs rfl rfl 73 _ (heap_alloc_new w2 _) hsz (by rw [h41]; rfl) hcs ?_)
  rw [World.setRow_alloc_new]
  obtain ⟨W0, hW0⟩ : ∃ W0, W0 = w2.alloc (.cells cs 73) := ⟨_, rfl⟩
  obtain ⟨g5, hg5⟩ : ∃ g5, g5 = w2.heap.size := ⟨_, rfl⟩
  have HP : Hid (WrP 73 41 w.heap.size g5 0 n N f W0) := by show WrP _ _ _ _ _ _ _ _ _; rw [hW0, hg5]; exact HV.out.wrp
  have HB0 : Hid (Below w.heap.size w W0) := by show Below _ _ _; rw [hW0]; exact HB2.out.alloc HB2.out.size _
  rw [← hW0, ← hg5]
  clear hW0 hg5 HV HB2 hsz hcs h41
  go_wp2_with fail
  go_loopw [6, 7, 8, 9, 10, 11, 18] (fun lv pv _ _ _ _ iv wr => ∃ (i : Nat), i ≤ n ∧ iv = .int .i64 i ∧ lv = .int .i64 ((Rn.pl f n b i).2 : Int) ∧ Hid (wr.ownsRow W0.heap.size 2 1 pv (Rn.pl f n b i).1.length (rnVs (Rn.pl f n b i).1)) ∧ Hid (Below W0.heap.size W0 wr)) (fun _ _ _ _ _ _ iv _ => n - (intOf iv).toNat)
  case atStart => exact ⟨0, Nat.zero_le _, rfl, rfl, World.ownsRow_nil _ _ _ _, Below.refl _ _⟩
  case round =>
    obtain ⟨i, hi, rfl, rfl, hO, hB⟩ := hrel
    obtain ⟨av, cv, rfl⟩ := rown_shape hO.out
    by_cases hlt : i < n
    case neg =>
      obtain rfl : i = n := by omega
      go_wp2_with fail
      go_ret
      exact ⟨⟨_, rfl, rown_low hO.out HB0.out.size⟩, HB0.out.trans (hB.out.mono HB0.out.size)⟩
    have hltz : (i : Int) < (n : Int) := by omega
    have hlen := Rn.pl_len f n b i
    have hleft := Rn.pl_left f n b i
    obtain ⟨k1, hk1⟩ : ∃ k1, k1 = i + 1 := ⟨_, rfl⟩
    have hk1z : (k1 : Int) < 41 := by omega
    have e6 : IntKind.i64.wrap ((i : Int) + 1) = (k1 : Int) := by rw [rwrap (by omega) (by omega)]; omega
    obtain ⟨lb, e, c0, c1⟩ := (H.out.below (HB0.out.trans (hB.out.mono HB0.out.size))).at2 hlt
    subst e
    have hcc := HR.out.c hlt
    obtain ⟨c, hc⟩ : ∃ c, c = Rn.c f i := ⟨_, rfl⟩
    obtain ⟨y, hy⟩ : ∃ y, y = f (i * 2 + 1) := ⟨_, rfl⟩
    rw [hcc.1, ← hc] at c0
    rw [← hy] at c1
    rw [← hc] at hcc
    have hc3 : c ≤ 300 := hcc.2.2
    have HY : Hid (0 ≤ y ∧ y ≤ 1000) := by show _ ∧ _; rw [hy]; exact (HR.out.2 i hlt).2
    have HP1 := HP.out.below hB.out
    obtain ⟨gn, hgn⟩ := HP1.one (j := i + 1) (by omega) (by omega) (by omega)
    have HGB0 := Lib.hid (HP1.blk' (by omega) (i + 1) (by omega) (by omega) gn hgn)
    have HBD : Hid (∀ j, 0 ≤ Rn.T f n k1 j ∧ Rn.T f n k1 j ≤ 40000) := fun j => Rn.T_bd HR.out k1 j
    obtain ⟨left, hlf⟩ : ∃ left, left = (Rn.pl f n b i).2 := ⟨_, rfl⟩
    have hlN : left < N := by have := HN.out; omega
    obtain ⟨bt, hbt⟩ : ∃ bt, bt = Rn.rt c y (Rn.T f n k1) left := ⟨_, rfl⟩
    obtain ⟨bv, hbv⟩ : ∃ bv, bv = Rn.rv c y (Rn.T f n k1) left := ⟨_, rfl⟩
    have HT : Hid (bt = Rn.tak f n i (Rn.pl f n b i).2) := by show bt = _; rw [hbt, hlf, hc, hy, hk1]; rfl
    rw [← hlf]
    have HLF := Lib.hid hlf
    have HC := Lib.hid hc
    have HBT := Lib.hid hbt
    have HBV := Lib.hid hbv
    have HK1 := Lib.hid hk1
    have hg5 : g5 < wr.heap.size := HP1.lt
    obtain ⟨X, hX⟩ : ∃ X, X = wr.alloc (.cells #[.int .i64 (c : Int), .int .i64 y] 53) := ⟨_, rfl⟩
    obtain ⟨gx, hgx⟩ : ∃ gx, gx = wr.heap.size := ⟨_, rfl⟩
    have HXB : Hid (Below wr.heap.size wr X) := by show Below _ _ _; rw [hX]; exact nbel_alloc _ _
    have HXR : Hid (X.rowIs gx 53 2 (rowN [.int .i64 (c : Int), .int .i64 y])) := by show X.rowIs _ _ _ _; rw [hX, hgx]; exact rowN_alloc wr _ _
    have HS : Hid (RnB gx g5 k1 gn N c y X) := ⟨(rowN2 HXR.out).1.1, (rowN2 HXR.out).1.2, by rw [hk1]; exact (HXB.out.cell (World.block_lt_of_cell? _ _ hgn)).trans hgn⟩
    have HGB : Hid (IsBlk 2 gn N (Rn.T f n k1) X) := by show IsBlk _ _ _ _ _; rw [hk1]; exact HGB0.out.below HXB.out
    have HX := Lib.hid hX
    have HGX := Lib.hid hgx
    clear hc hy hcc hgn hk1 HP1 hlf hbt hbv HGB0 hX hgx hleft
    go_upto_region 6 with fail
    rw [← HX.out, ← HGX.out]
    clear HX HGX c0 c1
    refine wp_region_held_drew (S := fun V => RnB gx g5 k1 gn N c y V ∧ Below X.heap.size X V) (by kernel_rfl) ⟨HS.out.below (Below.refl _ _).drew, (Below.refl _ _).drew⟩ (fun hHeld => ?_)
    obtain ⟨Z, hZ⟩ : ∃ Z, Z = X.drew := ⟨_, rfl⟩
    rw [← hZ] at hHeld ⊢
    clear hZ HS
    refine take_do (i := 0) (v := (.agg #[.int .i64 (c : Int), .int .i64 y])) rfl (by kernel_rfl) (by kernel_rfl) (by kernel_rfl) (fun _ _ _ h => h) (by rfl) ?_ (by assumption) ?_
    · intro w hSw
      obtain ⟨⟨q0, q1, q2⟩, _⟩ := hSw
      go_simp
    simp only [Act.put, List.setIfInBounds_toArray, List.set_cons_zero, List.set_cons_succ]
    refine take_do (i := 1) (v := (.int .i64 left)) rfl (by kernel_rfl) (by kernel_rfl) (by kernel_rfl) (fun _ _ _ h => h) (by rfl) ?_ (by assumption) ?_
    · intro w hSw
      obtain ⟨⟨q0, q1, q2⟩, _⟩ := hSw
      go_simp
    simp only [Act.put, List.setIfInBounds_toArray, List.set_cons_zero, List.set_cons_succ]
    refine take_do (i := 2) (v := (.int .i64 i)) rfl (by kernel_rfl) (by kernel_rfl) (by kernel_rfl) (fun _ _ _ h => h) (by rfl) ?_ (by assumption) ?_
    · intro w hSw
      obtain ⟨⟨q0, q1, q2⟩, _⟩ := hSw
      go_simp
    simp only [Act.put, List.setIfInBounds_toArray, List.set_cons_zero, List.set_cons_succ]
    refine take_do (i := 3) (v := (.int .i64 k1)) rfl (by kernel_rfl) (by kernel_rfl) (by kernel_rfl) (fun _ _ _ h => h) (by rfl) ?_ (by assumption) ?_
    · intro w hSw
      obtain ⟨⟨q0, q1, q2⟩, _⟩ := hSw
      go_simp
    simp only [Act.put, List.setIfInBounds_toArray, List.set_cons_zero, List.set_cons_succ]
    refine take_do (i := 4) (v := (.pointer (some ⟨g5, k1, none⟩))) rfl (by kernel_rfl) (by kernel_rfl) (by kernel_rfl) (fun _ _ _ h => h) (by rfl) ?_ (by assumption) ?_
    · intro w hSw
      obtain ⟨⟨q0, q1, q2⟩, _⟩ := hSw
      go_simp
    simp only [Act.put, List.setIfInBounds_toArray, List.set_cons_zero, List.set_cons_succ]
    refine take_do (i := 5) (v := (.slice (some ⟨gn, 0, none⟩) N N)) rfl (by kernel_rfl) (by kernel_rfl) (by kernel_rfl) (fun _ _ _ h => h) (by rfl) ?_ (by assumption) ?_
    · intro w hSw
      obtain ⟨⟨q0, q1, q2⟩, _⟩ := hSw
      go_simp
    simp only [Act.put, List.setIfInBounds_toArray, List.set_cons_zero, List.set_cons_succ]
    refine take_call (i := 6) rfl (by kernel_rfl) (fun K2 hK => ?_)
    go_simp
    refine (renews_any c y left gn N N (Rn.T f n k1) _ (HGB.out.below hHeld.2).at_ HY.out hc3 hlN hN1 HBD.out).mono ?_
    rintro e w1 ⟨rfl, hb⟩
    rw [← HBT.out, ← HBV.out]
    go_wp2_with fail
    refine hK.out _ _ ⟨hHeld.1.below hb, hHeld.2.trans (hb.mono hHeld.2.size)⟩ (fun hHeld2 => ?_)
    clear hK hHeld hb
    have hHeld := hHeld2
    clear hHeld2
    refine take_do (i := 7) (v := (.tuple #[.bool bt, .int .i64 bv])) rfl (by kernel_rfl) (by kernel_rfl) (by kernel_rfl) (fun _ _ _ h => h) (by rfl) ?_ (by assumption) ?_
    · intro w hSw
      obtain ⟨⟨q0, q1, q2⟩, _⟩ := hSw
      go_simp
    simp only [Act.put, List.setIfInBounds_toArray, List.set_cons_zero, List.set_cons_succ]
    refine take_do (i := 8) (v := (.bool bt)) rfl (by kernel_rfl) (by kernel_rfl) (by kernel_rfl) (fun _ _ _ h => h) (by rfl) ?_ (by assumption) ?_
    · intro w hSw
      obtain ⟨⟨q0, q1, q2⟩, _⟩ := hSw
      go_simp
    simp only [Act.put, List.setIfInBounds_toArray, List.set_cons_zero, List.set_cons_succ]
    refine take_do (i := 9) (v := (.int .i64 bv)) rfl (by kernel_rfl) (by kernel_rfl) (by kernel_rfl) (fun _ _ _ h => h) (by rfl) ?_ (by assumption) ?_
    · intro w hSw
      obtain ⟨⟨q0, q1, q2⟩, _⟩ := hSw
      go_simp
    simp only [Act.put, List.setIfInBounds_toArray, List.set_cons_zero, List.set_cons_succ]
    refine take_do (i := 10) (v := (.bool bt)) rfl (by kernel_rfl) (by kernel_rfl) (by kernel_rfl) (fun _ _ _ h => h) (by rfl) ?_ (by assumption) ?_
    · intro w hSw
      obtain ⟨⟨q0, q1, q2⟩, _⟩ := hSw
      go_simp
    simp only [Act.put, List.setIfInBounds_toArray, List.set_cons_zero, List.set_cons_succ]
    refine take_do (i := 11) (v := (.int .i64 bv)) rfl (by kernel_rfl) (by kernel_rfl) (by kernel_rfl) (fun _ _ _ h => h) (by rfl) ?_ (by assumption) ?_
    · intro w hSw
      obtain ⟨⟨q0, q1, q2⟩, _⟩ := hSw
      go_simp
    simp only [Act.put, List.setIfInBounds_toArray, List.set_cons_zero, List.set_cons_succ]
    refine wpAnyH_done (by kernel_rfl) ?_ _
    have HZ : Hid (Below X.heap.size X w1) := hHeld.2
    have q0 := hHeld.1.1
    clear hHeld
    have HO2 := Lib.hid (rown_below (rown_below hO.out HXB.out) HZ.out)
    replace HXR := Lib.hid (nrow_below HXR.out HZ.out)
    have HBZ : Hid (Below W0.heap.size W0 w1) := hB.out.trans ((HXB.out.trans (HZ.out.mono HXB.out.size)).mono hB.out.size)
    have hsz1 : W0.heap.size ≤ w1.heap.size := HBZ.out.size
    clear hO hB HZ HXB HGB
    cases hbb : bt with
    | false =>
      have HA : Hid (Rn.pl f n b (i + 1) = Rn.pl f n b i) := Rn.pl_no (by rw [← HT.out, hbb])
      clear hbb
      go_wp2_with fail
      go_roundw
      case rel => exact ⟨i + 1, by omega, by rw [HK1.out], by rw [HA.out, HLF.out], by rw [HA.out]; exact HO2.out, HBZ⟩
      case measure => have := HK1.out; simp [intOf]; omega
    | true =>
      have HA : Hid (Rn.pl f n b (i + 1) = ((Rn.pl f n b i).1 ++ [i], (Rn.pl f n b i).2 - Rn.c f i)) := Rn.pl_yes (by rw [← HT.out, hbb])
      have hcl : c ≤ left := by
        have := HT.out
        rw [hbb] at this
        have := (Rn.tak_iff.1 this.symm).1
        rw [HC.out, HLF.out]
        exact this
      obtain ⟨d, hd⟩ : ∃ d : Nat, left = c + d := ⟨left - c, by omega⟩
      have e9 : IntKind.i64.wrap ((left : Int) - (c : Int)) = (d : Int) := by rw [rwrap (by omega) (by omega)]; omega
      have HD := Lib.hid hd
      clear hbb hd hcl
      have gx1 := World.block_lt_of_cell? _ _ q0
      go_wp2_with (at_builtin; refine wpList_append_lies _ rfl _ _ 24 rfl (W0.heap.size) 2 i1 (.int .i64 0) 1 8 Tryd.underlying24 hi1 hy0 hy1 hy2 rfl (by decide) _ _ _ rfl (HO2.out.alloc _) ⟨w1.heap.size, 0, none⟩ 1 1 [.int .i64 (i : Int)] rfl rfl ?a1 ?a2 ?a3 ?a4 ?a5 ?a6 (w1.heap.size + 1) ?a7 ?_)
      try (case a1 => (intro j u hj; match j, hj with
        | 0, hj => (simp at hj; subst hj; simp [Addr.add])))
      try (case a2 => first | rfl | (intro u hu; simp at hu; subst hu; rfl))
      try (case a3 => omega)
      try (case a4 => (unfold maxLen; omega))
      try (case a5 => omega)
      try (case a6 => first | omega | (simp; omega))
      try (case a7 => simp)
      intro g cap W3 hown hgrow hat hlt3
      have HXR3 : Hid (W3.rowIs gx 53 2 (rowN [.int .i64 (c : Int), .int .i64 y])) := by
        refine (nrow_below HXR.out (nbel_alloc w1 _)).of_block (hgrow.block gx (by simp; omega) (fun e => ?_))
        obtain ⟨cur, q, _⟩ := HXR.out
        exact typ_ne ⟨cur, q⟩ (rown_typ HO2.out e.symm) (by decide) rfl
      have HO3 : Hid (W3.ownsRow W0.heap.size 2 1 (.slice (some ⟨g, 0, none⟩) ((Rn.pl f n b i).1.length + 1) cap) (Rn.pl f n b (i + 1)).1.length (rnVs (Rn.pl f n b (i + 1)).1)) := by
        show World.ownsRow _ _ _ _ _ _ _
        rw [HA.out]
        simp only [rnVs_app]
        simpa using hown
      have HB3 : Hid (Below W0.heap.size W0 W3) := (HBZ.out.alloc HBZ.out.size _).grown hgrow (by simp; omega) (fun k hk => (HO2.out.lt k hk).1)
      obtain ⟨⟨r0, r1⟩, _⟩ := rowN2 HXR3.out
      clear hown hgrow hat hlt3 HXR HXR3 HBZ HO2 q0
      go_wp2_with fail
      go_roundw
      case rel => exact ⟨i + 1, by omega, by rw [HK1.out], by rw [HA.out, ← HC.out, ← HLF.out]; congr 1; have := HD.out; omega, HO3, HB3⟩
      case measure => have := HK1.out; simp [intOf]; omega
end Go.Proofs.YtbkpedcabbppbaaDoor
