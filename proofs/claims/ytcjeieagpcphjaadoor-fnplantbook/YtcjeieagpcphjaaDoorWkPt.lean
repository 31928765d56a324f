/-
  The plant's store.
-/
import Derived.Test.YtcjeieagpcphjaaDoorWkPs
import Derived.Test.YtcjeieagpcphjaaDoorRegL
import Derived.Deep.DeepCutAuto
namespace Go.Proofs.YtcjeieagpcphjaaDoor
open Go.RowKit Go.Deep

theorem info_bt : (Tryd.prog.info? 28).map (fun i => (i.zero, i.size, i.bytes)) = some (some (.agg #[.int .i64 0, .slice none 0 0]), 2, 32) := by kernel_rfl
set_option maxRecDepth 100000 in
set_option maxHeartbeats 8000000 in
theorem storeP_any (B pb : Nat) (mv : Value) (fl : Wk.Fl) (cv : Value) (cn : Nat) (C : Nat → Wk.Bt) (wv : Value) (wn : Nat) (D : Nat → Wk.Bt) (k : Int) (x : Be) (w : World) (h : PlS B pb mv fl cv cn C wv wn D k w) (hx : x.b = C cn) (hp : ∃ g, x.pa = some ⟨g, 0, none⟩ ∧ InBlk g x.n x.f w) (hcn : cn ≤ 1000) :
    Calls Tryd.prog 51 #[.pointer (some ⟨pb, 0, none⟩), btV x.wt x.pa x.n x.k] w fun e W => ∃ v', e = .returned (.tuple #[btV x.wt x.pa x.n x.k, .nilIface]) ∧ PlS B pb mv fl v' (cn + 1) C wv wn D k W ∧ Fr pb cv wv w W ∧ Gw cv v' w.heap.size := by
  obtain ⟨i0, hi0, hz0, hz1, hz2⟩ := info_parts info_bt
  obtain ⟨W1, hW1⟩ : ∃ W1, W1 = (w.alloc (.cells #[.int .i64 x.wt, .slice x.pa x.n x.k] 28)).alloc (.cells #[.int .i64 0, .slice none 0 0] 28) := ⟨_, rfl⟩
  have hb : Below w.heap.size w W1 := by rw [hW1]; exact (bel_alloc _ _).alloc (by simp) _
  have HRB : Hid (W1.rowIs w.heap.size 28 2 (r2 (.int .i64 x.wt) (.slice x.pa x.n x.k))) := by show World.rowIs _ _ _ _ _; rw [hW1]; exact wrow_below (row2 _ _ _ _) (bel_alloc _ _)
  have HRO : Hid (W1.rowIs (w.heap.size + 1) 28 2 (r2 (.int .i64 0) (.slice none 0 0))) := by show World.rowIs _ _ _ _ _; rw [hW1]; exact row2' (by simp) _ _ _
  have HW1 := Lib.hid hW1
  have HB1 := Lib.hid hb
  have HP := Lib.hid (h.below hb)
  have HIP : Hid (∃ g, x.pa = some ⟨g, 0, none⟩ ∧ InBlk g x.n x.f W1) := by obtain ⟨g, e, h2⟩ := hp; exact ⟨g, e, h2.below hb⟩
  have HCB : Hid (∀ g, w.heap.size ≤ g → cv.ownBlock ≠ some g ∧ wv.ownBlock ≠ some g) := fun g hg => ⟨fun e => by have := (h.cl.lt e).2; omega, fun e => by have := (h.wl.lt e).2; omega⟩
  have HBO : Hid (cv.ownBlock ≠ some w.heap.size) := (HCB.out _ (Nat.le_refl _)).1
  have HX : Hid (W1.cell? ⟨w.heap.size, 0, none⟩ = some (.int .i64 x.wt) ∧ W1.cell? ⟨w.heap.size, 1, none⟩ = some (.slice x.pa x.n x.k)) := (row2_cells HRB.out).1
  have HXB := Lib.hid hx
  have HSZ := Lib.hid h.sz
  clear hW1 hb h hp hx
  go_enter Tryd.func51, Tryd.ntmps51
  go_wp2_with fail
  rw [← HW1.out]
  have hxc := HX.out
  refine region_L (fun V => V.rowIs pb 66 8 (rowL (plL mv fl cv wv k)) ∧ V.cell? ⟨w.heap.size, 0, none⟩ = some (.int .i64 x.wt) ∧ V.cell? ⟨w.heap.size, 1, none⟩ = some (.slice x.pa x.n x.k)) 10 (by kernel_rfl) ⟨HP.out.row.of_block rfl, hxc.1, hxc.2⟩ (fun hHeld => ?_)
  obtain ⟨Z, hZ⟩ : ∃ Z, Z = W1.drew := ⟨_, rfl⟩
  replace HP : Hid (PlS B pb mv fl cv cn C wv wn D k Z) := by show PlS _ _ _ _ _ _ _ _ _ _ _ _; rw [hZ]; exact HP.out.below (Below.refl _ _).drew
  have HZB : Hid (Below W1.heap.size W1 Z) := by show Below _ _ _; rw [hZ]; exact (Below.refl _ _).drew
  rw [← hZ] at hHeld ⊢
  clear hZ hxc HX
  refine takeL_do (i := 0) (v := (.pointer (some ⟨pb, 0, none⟩))) rfl (by kernel_rfl) (by kernel_rfl) (by kernel_rfl) (by kernel_rfl) (fun _ _ _ h => h) (by rfl) ?_ (by assumption) ?_
  · intro w hSw
    skip
    go_simp
  simp only [Act.put, List.setIfInBounds_toArray, List.set_cons_zero, List.set_cons_succ]
  refine takeL_do (i := 1) (v := (.pointer (some ⟨pb, 0, none⟩))) rfl (by kernel_rfl) (by kernel_rfl) (by kernel_rfl) (by kernel_rfl) (fun _ _ _ h => h) (by rfl) ?_ (by assumption) ?_
  · intro w hSw
    skip
    go_simp
  simp only [Act.put, List.setIfInBounds_toArray, List.set_cons_zero, List.set_cons_succ]
  refine takeL_do (i := 2) (v := (.pointer (some ⟨pb, 0, none⟩))) rfl (by kernel_rfl) (by kernel_rfl) (by kernel_rfl) (by kernel_rfl) (fun _ _ _ h => h) (by rfl) ?_ (by assumption) ?_
  · intro w hSw
    skip
    go_simp
  simp only [Act.put, List.setIfInBounds_toArray, List.set_cons_zero, List.set_cons_succ]
  refine takeL_do (i := 3) (v := (.pointer (some ⟨pb, 5, none⟩))) rfl (by kernel_rfl) (by kernel_rfl) (by kernel_rfl) (by kernel_rfl) (fun _ _ _ h => h) (by rfl) ?_ (by assumption) ?_
  · intro w hSw
    skip
    go_simp
  simp only [Act.put, List.setIfInBounds_toArray, List.set_cons_zero, List.set_cons_succ]
  refine takeL_do (i := 4) (v := cv) rfl (by kernel_rfl) (by kernel_rfl) (by kernel_rfl) (by kernel_rfl) (fun _ _ _ h => h) (by rfl) ?_ (by assumption) ?_
  · intro w hSw
    have x0 : w.cell? ⟨pb, 5, none⟩ = some cv := hSw.1.cell (i := 5) (by omega)
    go_simp
  simp only [Act.put, List.setIfInBounds_toArray, List.set_cons_zero, List.set_cons_succ]
  refine takeL_do (i := 5) (v := (btV x.wt x.pa x.n x.k)) rfl (by kernel_rfl) (by kernel_rfl) (by kernel_rfl) (by kernel_rfl) (fun _ _ _ h => h) (by rfl) ?_ (by assumption) ?_
  · intro w hSw
    obtain ⟨_, x0, x1⟩ := hSw
    go_simp
  simp only [Act.put, List.setIfInBounds_toArray, List.set_cons_zero, List.set_cons_succ]
  refine takeL_call (i := 6) rfl (by kernel_rfl) (fun K2 hK => ?_)
  obtain ⟨Z1, hZ1⟩ : ∃ Z1, Z1 = Z.alloc (.cells #[.int .i64 x.wt, .slice x.pa x.n x.k] 28) := ⟨_, rfl⟩
  have hb1 : Below Z.heap.size Z Z1 := by rw [hZ1]; exact bel_alloc _ _
  obtain ⟨gs, hgs⟩ : ∃ gs, gs = Z.heap.size := ⟨_, rfl⟩
  have HL : Hid (Z1.rowIs gs 28 2 (r2 (.int .i64 x.wt) (.slice x.pa x.n x.k))) := by show World.rowIs _ _ _ _ _; rw [hZ1, hgs]; exact row2 _ _ _ _
  replace HP := Lib.hid (HP.out.below hb1)
  replace HZB : Hid (Below W1.heap.size W1 Z1) := HZB.out.trans (hb1.mono HZB.out.size)
  go_simp
  rw [← hZ1, ← hgs]
  have hH1 := hHeld.2.1
  have hH2 := hHeld.2.2
  refine hK.out _ _ ⟨HP.out.row, (hb1.cell (World.block_lt_of_cell? _ _ hH1)).trans hH1, (hb1.cell (World.block_lt_of_cell? _ _ hH2)).trans hH2⟩ (fun hHeld2 => ?_)
  clear hK hHeld hb1 hZ1 hgs hH1 hH2
  have hHeld := hHeld2
  clear hHeld2
  refine takeL_call (i := 7) rfl (by kernel_rfl) (fun K2 hK => ?_)
  obtain ⟨cs, hown, hcs⟩ := HP.out.cl
  refine ap_at rfl (.tmp 10) (.tmp 12) 35 rfl B 28 i0 (.agg #[.int .i64 0, .slice none 0 0]) 2 32 Tryd.underlying35 hi0 hz0 hz1 hz2 rfl (by decide) cv cn _ rfl hown ⟨gs, 0, none⟩ 1 1 [.int .i64 x.wt, .slice x.pa x.n x.k] rfl rfl ?_ ?_ (by unfold maxLen; omega) (by omega) HP.out.sz ?_
  · obtain ⟨⟨c0, c1⟩, _⟩ := row2_cells HL.out
    intro j u hj
    match j, hj with
    | 0, hj => simp at hj; subst hj; simpa [Addr.add] using c0
    | 1, hj => simp at hj; subst hj; simpa [Addr.add] using c1
  · intro u hu
    simp at hu
    rcases hu with rfl | rfl <;> rfl
  intro v' Z2 hown2 hgrow hwhere
  obtain ⟨hrow2, hps, hfr, hgw⟩ := HP.out.appC hgrow hwhere (PlL.push hcs HXB.out (by obtain ⟨g, e, h2⟩ := HIP.out; exact ⟨g, e, h2.block (HZB.out.block _ h2.lt)⟩) hown hgrow hown2)
  obtain ⟨WZ, hWZ⟩ : ∃ WZ, WZ = Z2.setCell ⟨pb, 5, none⟩ v' := ⟨_, rfl⟩
  have HPX : Hid (PlS B pb mv fl v' (cn + 1) C wv wn D k WZ) := by show PlS _ _ _ _ _ _ _ _ _ _ _ _; rw [hWZ]; exact hps
  have HFX : Hid (Fr pb cv wv W1 WZ) := by show Fr _ _ _ _ _; rw [hWZ]; exact (Fr.of_below HZB.out).trans hfr (Gw.refl _ _) (Gw.refl _ _)
  have HGX : Hid (Gw cv v' W1.heap.size) := (Gw.refl _ _).trans hgw HZB.out.size
  have hK1 : Z2.cell? ⟨pb, 5, none⟩ = some cv := hrow2.cell (i := 5) (by omega)
  have hK2 := hrow2.frozen 5
  have hK3 := hrow2.lt
  have HH1 := Lib.hid hrow2
  have HWZ := Lib.hid hWZ
  obtain ⟨a9, k9, rfl⟩ := PlL.shape (PlL.push hcs HXB.out (by obtain ⟨g, e, h2⟩ := HIP.out; exact ⟨g, e, h2.block (HZB.out.block _ h2.lt)⟩) hown hgrow hown2)
  refine hK.out _ _ ⟨HH1.out, ?_, ?_⟩ (fun hHeld2 => ?_)
  · exact (World.cell?_of_block (a := ⟨w.heap.size, 0, none⟩) (hgrow.block _ (World.block_lt_of_cell? _ _ hHeld.2.1) (fun e => HBO.out e.symm))).trans hHeld.2.1
  · exact (World.cell?_of_block (a := ⟨w.heap.size, 0 + 1, none⟩) (hgrow.block _ (World.block_lt_of_cell? _ _ hHeld.2.2) (fun e => HBO.out e.symm))).trans hHeld.2.2
  clear hK hHeld hown hown2 hcs hgrow hwhere hrow2 hps hfr hgw HL HZB HP HH1 hWZ
  have hHeld := hHeld2
  clear hHeld2
  simp only [Act.put, List.setIfInBounds_toArray, List.set_cons_zero, List.set_cons_succ]
  refine takeL_call (i := 8) rfl (by kernel_rfl) (fun K2 hK => ?_)
  go_simp
  refine hK.out _ _ hHeld (fun hHeld2 => ?_)
  clear hK hHeld
  have hHeld := hHeld2
  clear hHeld2
  refine takeL_do (i := 9) (v := (.pointer (some ⟨pb, 5, none⟩))) rfl (by kernel_rfl) (by kernel_rfl) (by kernel_rfl) (by kernel_rfl) (fun _ _ _ h => h) (by rfl) ?_ (by assumption) ?_
  · intro w hSw
    skip
    go_simp
  simp only [Act.put, List.setIfInBounds_toArray, List.set_cons_zero, List.set_cons_succ]
  refine takeL_last rfl (by kernel_rfl) (by kernel_rfl) (fun K2 hK => ?_)
  go_simp
  rw [← HWZ.out]
  refine hK.out _ _ ?_
  clear hK hHeld HWZ hK1 hK2 hK3
  have hl0 : pb < w.heap.size := by have := HPX.out.low; have := HSZ.out; omega
  have n0 := HCB.out _ (Nat.le_refl w.heap.size)
  have n1 := HCB.out _ (Nat.le_succ w.heap.size)
  have RB := HRB.out.of_block (HFX.out.block _ HRB.out.lt (by omega) n0.1 n0.2)
  have RO := HRO.out.of_block (HFX.out.block _ HRO.out.lt (by omega) n1.1 n1.2)
  obtain ⟨⟨x0, x1⟩, _⟩ := row2_cells RB
  obtain ⟨⟨o0, o1⟩, z0, z1⟩ := row2_cells RO
  have HRO2 := Lib.hid RO
  have hol : w.heap.size + 1 < WZ.heap.size := RO.lt
  have HM1 : Hid (Value.ownBlock (.slice a9 (cn + 1) k9) ≠ some (w.heap.size + 1)) := HGX.out.ne HRO.out.lt n1.1
  have HM2 : Hid (wv.ownBlock ≠ some (w.heap.size + 1)) := n1.2
  clear RB RO n0 n1 hl0
  go_wp2_with fail
  refine bodyPost_ret (v := .tuple #[btV x.wt x.pa x.n x.k, .nilIface]) ?_ rfl ⟨_, rfl, HPX.out.put2 HRO2.out HM1.out HM2.out _ _, ?_, (Gw.refl _ _).trans HGX.out HB1.out.size⟩
  · obtain ⟨⟨a0, a1⟩, _⟩ := row2_cells (row2_put HRO2.out (.int .i64 x.wt) (.slice x.pa x.n x.k))
    simp only [results, Tryd.results51]
    simp [go_sem, a0, a1]
  · exact (((Fr.of_below HB1.out).trans HFX.out (Gw.refl _ _) (Gw.refl _ _)).above (Nat.le_succ _) 0 _).above (Nat.le_succ _) 1 _
end Go.Proofs.YtcjeieagpcphjaaDoor
