/-
  The program's dry places.
-/
import Derived.Test.YtipmjobhegpdgaaGreatDoorPlD0
namespace Go.Proofs.YtipmjobhegpdgaaGreatDoor
open Go Go.RowKit Go.Deep

theorem lay_cnt {p : Pl.Plan} {sh : Nat → Prop} {b cnt : Nat} {kf : Nat → Int × Int} {gv : Nat → Value} {B : Nat} {W : World} (h : LayS p sh p.rn b cnt kf gv B W) (hr : Pl.Right p) : cnt ≤ 1000 := by
  have each : ∀ j, ∃ i, j < cnt → i < p.rn ∧ kf j = Pl.key p i := fun j => by
    by_cases hj : j < cnt
    · obtain ⟨i, hi, _, e⟩ := h.each j hj; exact ⟨i, fun _ => ⟨hi, e⟩⟩
    · exact ⟨0, fun x => absurd x hj⟩
  obtain ⟨x, hx⟩ := Classical.axiomOfChoice each
  have hnd : ((List.range cnt).map x).Nodup := by
    unfold List.Nodup
    rw [List.pairwise_map]
    refine List.Pairwise.imp_of_mem ?_ (List.nodup_range (n := cnt))
    intro i j hi hj hne e
    have h1 := hx i (List.mem_range.1 hi)
    have h2 := hx j (List.mem_range.1 hj)
    exact hne (h.map.inj i j (List.mem_range.1 hi) (List.mem_range.1 hj) (by rw [h1.2, h2.2, e]))
  have hl := nodup_len hnd (n := p.rn) (fun j hj => by
    obtain ⟨i, hi, rfl⟩ := List.mem_map.1 hj
    exact (hx i (List.mem_range.1 hi)).1)
  simp at hl
  have := hr.r
  omega
theorem own_low {W : World} {B B' : Nat} {T : TypeId} {s : Nat} {v : Value} {n : Nat} {xs : List Value} (h : W.ownsRow B T s v n xs) (hb : B' ≤ B) : W.ownsRow B' T s v n xs := by
  refine ⟨h.1, ?_⟩
  rcases h.2 with h1 | ⟨g, cap, cur, h1, h2, r⟩
  · exact Or.inl h1
  · exact Or.inr ⟨g, cap, cur, h1, by omega, r⟩
/-- The dry ones of the first places. -/
noncomputable def Pl.dryTo (p : Pl.Plan) (sh : Nat → Prop) (i : Nat) : List Nat := (List.range i).filter fun v => dB (¬ Pl.Wet p sh v)
theorem Pl.dryTo_wet {p : Pl.Plan} {sh : Nat → Prop} {i : Nat} (h : Pl.Wet p sh i) : Pl.dryTo p sh (i + 1) = Pl.dryTo p sh i := by
  unfold Pl.dryTo
  rw [List.range_succ, List.filter_append]
  simp [dB_ff (fun x : ¬ Pl.Wet p sh i => x h)]
theorem Pl.dryTo_dry {p : Pl.Plan} {sh : Nat → Prop} {i : Nat} (h : ¬ Pl.Wet p sh i) : Pl.dryTo p sh (i + 1) = Pl.dryTo p sh i ++ [i] := by
  unfold Pl.dryTo
  rw [List.range_succ, List.filter_append]
  simp [dB_tt h]
theorem Pl.dryTo_len {p : Pl.Plan} {sh : Nat → Prop} {i : Nat} : (Pl.dryTo p sh i).length ≤ i := by
  have := List.length_filter_le (fun v => dB (¬ Pl.Wet p sh v)) (List.range i)
  simpa [Pl.dryTo] using this
set_option maxRecDepth 100000 in
set_option maxHeartbeats 2000000 in
theorem implDry_any (n : Pl.Plan) (la : Option Addr) (lk : Nat) (fa : Option Addr) (fk : Nat) (wa : Option Addr) (wk : Nat) (a : Option Addr) (m cap : Nat) (f : Nat → Int) (w : World) (h : PlAt n la fa wa w) (hs : PlSmall n) (hl : IsAt a m f w) (hm : m ≤ 1048576) (hfn : fa = none → n.sn = 0) :
    Calls Tryz.prog 19 #[plV n la lk fa fk wa wk, .slice a m cap] w fun e w' => (∃ v, e = .returned v ∧ w'.ownsRow w.heap.size 2 1 v (Pl.dry n m f).length (numsV (Pl.dry n m f))) ∧ Below w.heap.size w w' := by
  obtain ⟨W0, hW⟩ : ∃ W, W = w.alloc (.cells #[.slice la n.rn lk, .slice fa n.sn fk, .slice wa n.hn wk] 32) := ⟨_, rfl⟩
  have HB : Hid (Below w.heap.size w W0) := by show Below _ _ _; rw [hW]; exact nbel_alloc _ _
  have HR : Hid (W0.rowIs w.heap.size 32 3 (rowN (plL n la lk fa fk wa wk))) := by show World.rowIs _ _ _ _ _; rw [hW]; exact rowN_alloc w _ _
  have H := Lib.hid h
  have HL := Lib.hid hl
  have HS := Lib.hid hs
  have HW := Lib.hid hW
  have HFN := Lib.hid hfn
  clear hW h hs hl hfn
  by_cases c1 : (400 : Int) < (m : Int)
  · have HE : Hid (Pl.dry n m f = []) := by
      show Pl.dry n m f = []
      unfold Pl.dry
      rw [dB_ff (fun x => by have := x.n; omega)]; rfl
    go_enter Tryz.func19, Tryz.ntmps19
    go_wp2_with fail
    rw [← HW.out]
    go_ret
    exact ⟨⟨_, rfl, by rw [HE.out]; exact World.ownsRow_nil _ _ _ _⟩, HB.out⟩
  go_enter Tryz.func19, Tryz.ntmps19
  go_wp2_with fail
  rw [← HW.out]
  refine (planRight_any n la lk fa fk wa wk _ (H.out.below HB.out) HS.out).mono ?_
  rintro e w1 ⟨rfl, hb1⟩
  have HB1 : Hid (Below w.heap.size w w1) := HB.out.trans (hb1.mono HB.out.size)
  have HR1 := Lib.hid (nrow_below HR.out hb1)
  clear hb1 HB HR HW
  obtain ⟨⟨p0, p1, p2⟩, _⟩ := rowN3 HR1.out
  by_cases c2 : Pl.Right n
  case neg =>
    rw [dB_ff c2]
    have HE : Hid (Pl.dry n m f = []) := by
      show Pl.dry n m f = []
      unfold Pl.dry
      rw [dB_ff (fun x => c2 x.right)]; rfl
    clear c2
    go_wp2_with fail
    go_ret
    exact ⟨⟨_, rfl, by rw [HE.out]; exact World.ownsRow_nil _ _ _ _⟩, HB1.out⟩
  rw [dB_tt c2]
  have HRT := Lib.hid c2
  have hrn := c2.r
  clear c2
  go_wp2_with fail
  refine (psetRight_any n la lk a m cap f _ (H.out.l.below HB1.out) (HL.out.below HB1.out) hm HS.out.1).mono ?_
  rintro e w2 ⟨rfl, hb2⟩
  have HB2 : Hid (Below w.heap.size w w2) := HB1.out.trans (hb2.mono HB1.out.size)
  have HR2 := Lib.hid (nrow_below HR1.out hb2)
  clear hb2 HB1 HR1 p0 p1 p2
  obtain ⟨⟨p0, p1, p2⟩, _⟩ := rowN3 HR2.out
  by_cases c3 : Pl.SetOk n m f
  case neg =>
    rw [dB_ff c3]
    have HE : Hid (Pl.dry n m f = []) := by
      show Pl.dry n m f = []
      unfold Pl.dry
      rw [dB_ff (fun x => c3 x.set)]; rfl
    clear c3
    go_wp2_with fail
    go_ret
    exact ⟨⟨_, rfl, by rw [HE.out]; exact World.ownsRow_nil _ _ _ _⟩, HB2.out⟩
  rw [dB_tt c3]
  have HDR : Hid (Pl.dry n m f = Pl.dryTo n (Pl.In m f) n.hn) := by
    show Pl.dry n m f = _
    unfold Pl.dry
    rw [dB_tt (⟨by omega, HRT.out, c3⟩ : Pl.AskOk n m f)]; rfl
  clear c3 c1
  go_wp2_with fail
  obtain ⟨W0, hW0⟩ : ∃ W, W = w2 := ⟨_, rfl⟩
  rw [← hW0] at HB2 HR2 p0 p1 p2 ⊢
  have H0 := Lib.hid (H.out.below HB2.out)
  have HL0 := Lib.hid (HL.out.below HB2.out)
  have HB0 := HB2
  clear hW0 HB2 HR2
  refine wp_region_held_drew (S := fun V => Below W0.heap.size W0 V) (by kernel_rfl) (Below.refl _ _).drew (fun hHeld => ?_)
  obtain ⟨Z, hZ⟩ : ∃ Z, Z = W0.drew := ⟨_, rfl⟩
  rw [← hZ] at hHeld ⊢
  clear hZ
  refine take_do (i := 0) (v := (.pointer (some ⟨w.heap.size, 0, none⟩))) rfl (by kernel_rfl) (by kernel_rfl) (by kernel_rfl) (fun _ _ _ h => h) (by rfl) ?_ (by assumption) ?_
  · intro w hSw
    skip
    go_simp
  simp only [Act.put, List.setIfInBounds_toArray, List.set_cons_zero, List.set_cons_succ]
  refine take_do (i := 1) (v := (.slice la n.rn lk)) rfl (by kernel_rfl) (by kernel_rfl) (by kernel_rfl) (fun _ _ _ h => h) (by rfl) ?_ (by assumption) ?_
  · intro w hSw
    have hc_p0 := (hSw.cell (World.block_lt_of_cell? _ _ p0)).trans p0
    go_simp
  simp only [Act.put, List.setIfInBounds_toArray, List.set_cons_zero, List.set_cons_succ]
  refine take_do (i := 2) (v := (.slice a m cap)) rfl (by kernel_rfl) (by kernel_rfl) (by kernel_rfl) (fun _ _ _ h => h) (by rfl) ?_ (by assumption) ?_
  · intro w hSw
    skip
    go_simp
  simp only [Act.put, List.setIfInBounds_toArray, List.set_cons_zero, List.set_cons_succ]
  refine take_do (i := 4) (v := (.pointer (some ⟨w.heap.size, 1, none⟩))) rfl (by kernel_rfl) (by kernel_rfl) (by kernel_rfl) (fun _ _ _ h => h) (by rfl) ?_ (by assumption) ?_
  · intro w hSw
    skip
    go_simp
  simp only [Act.put, List.setIfInBounds_toArray, List.set_cons_zero, List.set_cons_succ]
  refine take_do (i := 5) (v := (.slice fa n.sn fk)) rfl (by kernel_rfl) (by kernel_rfl) (by kernel_rfl) (fun _ _ _ h => h) (by rfl) ?_ (by assumption) ?_
  · intro w hSw
    have hc_p1 := (hSw.cell (World.block_lt_of_cell? _ _ p1)).trans p1
    go_simp
  simp only [Act.put, List.setIfInBounds_toArray, List.set_cons_zero, List.set_cons_succ]
  refine take_do (i := 6) (v := (.pointer (some ⟨w.heap.size, 2, none⟩))) rfl (by kernel_rfl) (by kernel_rfl) (by kernel_rfl) (fun _ _ _ h => h) (by rfl) ?_ (by assumption) ?_
  · intro w hSw
    skip
    go_simp
  simp only [Act.put, List.setIfInBounds_toArray, List.set_cons_zero, List.set_cons_succ]
  refine take_do (i := 7) (v := (.slice wa n.hn wk)) rfl (by kernel_rfl) (by kernel_rfl) (by kernel_rfl) (fun _ _ _ h => h) (by rfl) ?_ (by assumption) ?_
  · intro w hSw
    have hc_p2 := (hSw.cell (World.block_lt_of_cell? _ _ p2)).trans p2
    go_simp
  simp only [Act.put, List.setIfInBounds_toArray, List.set_cons_zero, List.set_cons_succ]
  refine take_do (i := 8) (v := (.int .i64 (n.hn : Nat))) rfl (by kernel_rfl) (by kernel_rfl) (by kernel_rfl) (fun _ _ _ h => h) (by rfl) ?_ (by assumption) ?_
  · intro w hSw
    skip
    go_simp
  simp only [Act.put, List.setIfInBounds_toArray, List.set_cons_zero, List.set_cons_succ]
  refine take_call (i := 3) rfl (by kernel_rfl) (fun K2 hK => ?_)
  go_simp
  refine (layoutOf_any n la lk a m cap f _ (H0.out.l.below hHeld) HRT.out (HL0.out.below hHeld) hm).mono ?_
  rintro e Z1 ⟨⟨b, cnt, kf, gv, rfl, hLay⟩, hb⟩
  have HLAY := Lib.hid hLay
  go_wp2_with fail
  refine hK.out _ _ (hHeld.trans (hb.mono hHeld.size)) (fun hHeld2 => ?_)
  clear hK hHeld hb hLay
  have hHeld := hHeld2
  clear hHeld2
  refine take_call (i := 9) rfl (by kernel_rfl) (fun K2 hK => ?_)
  go_simp
  refine (waysTo_any b cnt kf _ _ _ fa n.sn fk n.S n.hn _ (lay_roomS HLAY.out) (lay_cnt HLAY.out HRT.out) (lay_keys HLAY.out HRT.out (Nat.le_refl _)) (fun _ _ => ⟨by simp, by simp⟩) (fun j _ => by have := Pl.goodL_len (p := n) (sh := Pl.In m f) (k := n.rn) (κ := kf j); omega) (H0.out.f.below hHeld) (by have := HRT.out.sn40; omega) HFN.out (fun i hi => (HRT.out.s i hi).1) HRT.out.h1 HRT.out.h2).mono ?_
  rintro e Z2 ⟨⟨g, nx, rfl, hgl, hnx, hfd⟩, hb⟩
  have HNX := Lib.hid hnx
  have HGL : Hid (W0.heap.size ≤ g) := Nat.le_trans hHeld.size hgl
  have HWET : Hid (∀ v, v < n.hn → (nx v ≠ -1 ↔ Pl.Wet n (Pl.In m f) v)) := fun v hv => found_wet HRT.out (fun a c => lay_room HLAY.out a c) hfd hv
  go_wp2_with fail
  refine hK.out _ _ (hHeld.trans (hb.mono hHeld.size)) (fun hHeld2 => ?_)
  clear hK hHeld hb hnx hfd hgl HLAY
  have hHeld := hHeld2
  clear hHeld2
  refine take_do (i := 10) (v := (.slice (some ⟨g, 0, none⟩) n.hn n.hn)) rfl (by kernel_rfl) (by kernel_rfl) (by kernel_rfl) (fun _ _ _ h => h) (by rfl) ?_ (by assumption) ?_
  · intro w hSw
    skip
    go_simp
  simp only [Act.put, List.setIfInBounds_toArray, List.set_cons_zero, List.set_cons_succ]
  refine wpAnyH_done (by kernel_rfl) ?_ _
  have HBZ : Hid (Below w.heap.size w Z2) := HB0.out.trans (hHeld.mono HB0.out.size)
  clear hHeld
  clear p0 p1 p2 H0 HL0
  have HO0 : Hid (Z2.ownsRow Z2.heap.size 2 1 (.slice none 0 0) (Pl.dryTo n (Pl.In m f) 0).length (numsV (Pl.dryTo n (Pl.In m f) 0))) := World.ownsRow_nil _ _ _ _
  have hhn := HRT.out.h2
  obtain ⟨i1, hi1, hy0, hy1, hy2⟩ := info_parts yinfo_i64
  have HPI := Lib.hid (And.intro hi1 (And.intro hy0 (And.intro hy1 hy2)))
  clear hi1 hy0 hy1 hy2
  go_wp2_with fail
  go_loopw [6, 7, 8, 36] (fun dv _ _ iv wr => ∃ (i : Nat), i ≤ n.hn ∧ iv = .int .i64 i ∧ Hid (wr.ownsRow Z2.heap.size 2 1 dv (Pl.dryTo n (Pl.In m f) i).length (numsV (Pl.dryTo n (Pl.In m f) i))) ∧ Hid (Below Z2.heap.size Z2 wr)) (fun _ _ _ iv _ => n.hn - (intOf iv).toNat)
  case atStart => exact ⟨0, Nat.zero_le _, rfl, HO0, Below.refl _ _⟩
  case round =>
    obtain ⟨i, hi, rfl, hO, hB⟩ := hrel
    clear HO0
    by_cases hlt : i < n.hn
    · have hltz : (i : Int) < (n.hn : Int) := by omega
      have cn := (HNX.out.below hB.out).cell hlt
      by_cases hw : nx i = -1
      · have ew : (nx i == -1) = true := by simp [hw]
        have HSTEP : Hid (Pl.dryTo n (Pl.In m f) (i + 1) = Pl.dryTo n (Pl.In m f) i ++ [i]) := Pl.dryTo_dry (fun x => ((HWET.out i hlt).2 x) hw)
        have hll := Pl.dryTo_len (p := n) (sh := Pl.In m f) (i := i)
        have hsz := hB.out.size
        obtain ⟨hi1, hy0, hy1, hy2⟩ := HPI.out
        rw [hw] at cn ew
        clear hw
        go_wp2_with (at_builtin; refine wpList_append_own _ rfl _ _ 23 rfl Z2.heap.size 2 i1 _ 1 8 Tryz.underlying23 hi1 hy0 hy1 hy2 rfl (by decide) _ _ _ rfl (hO.out.alloc _) ⟨wr.heap.size, 0, none⟩ 1 1 [.int .i64 (i : Nat)] rfl rfl ?d1 ?d2 ?d3 ?d4 ?d5 ?_)
        case d1 =>
          intro q x hq
          match q, hq with
          | 0, hq =>
            simp at hq
            subst hq
            exact (rowN_alloc wr [.int .i64 (i : Nat)] 2).cell (i := 0) (by simp)
        case d2 =>
          intro x hx
          simp at hx
          subst hx
          rfl
        case d3 => unfold maxLen; omega
        case d4 => omega
        case d5 => simp; omega
        intro v5 W5 hown hgrow hnil
        have HB5 : Hid (Below Z2.heap.size Z2 W5) := (hB.out.alloc hB.out.size _).grown hgrow (by simp; omega) (fun k e => (hO.out.lt k e).1)
        have HO5 : Hid (W5.ownsRow Z2.heap.size 2 1 v5 (Pl.dryTo n (Pl.In m f) (i + 1)).length (numsV (Pl.dryTo n (Pl.In m f) (i + 1)))) := by
          rw [HSTEP.out, List.length_append]
          have e1 : numsV (Pl.dryTo n (Pl.In m f) i ++ [i]) = numsV (Pl.dryTo n (Pl.In m f) i) ++ [.int .i64 (i : Nat)] := by simp [numsV]
          rw [e1]
          exact hown
        clear hown hgrow hnil hO hB cn
        go_wp2_with fail
        go_roundw
        case rel => exact ⟨i + 1, by omega, by go_num, HO5, HB5⟩
        case measure => simp [intOf]; omega
      · have ew : (nx i == -1) = false := by simp [hw]
        have HSTEP : Hid (Pl.dryTo n (Pl.In m f) (i + 1) = Pl.dryTo n (Pl.In m f) i) := Pl.dryTo_wet ((HWET.out i hlt).1 hw)
        clear hw
        go_wp2_with fail
        go_roundw
        case rel => exact ⟨i + 1, by omega, by go_num, by rw [HSTEP.out]; exact hO, hB⟩
        case measure => simp [intOf]; omega
    · obtain rfl : i = n.hn := by omega
      go_wp2_with fail
      go_ret
      exact ⟨⟨_, rfl, by rw [HDR.out]; exact own_low hO.out HBZ.out.size⟩, HBZ.out.trans (hB.out.mono HBZ.out.size)⟩
end Go.Proofs.YtipmjobhegpdgaaGreatDoor
