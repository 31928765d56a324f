/-
  The contracts of the draws of SplitBatch and SettleBatch.
-/
import Derived.Test.YtoeibcmmpbkbpaaDoorWkDr
namespace Go.Proofs.YtoeibcmmpbkbpaaDoor
open Go.RowKit Go.Deep

theorem wrapW_id {x : Int} (h1 : -9223372036854775808 ≤ x) (h2 : x ≤ 9223372036854775807) : IntKind.i64.wrap x = x := by simp [IntKind.wrap, IntKind.bits, IntKind.signed]; omega
set_option maxRecDepth 100000 in
set_option maxHeartbeats 4000000 in
theorem anyD_any (sb : Nat) (w : World) (h : Src sb w) :
    Calls Tryd.prog 83 #[.pointer (some ⟨sb, 0, none⟩)] w fun e w' => (∃ N, N ≤ 7 ∧ DbEnd w.heap.size N e w') ∧ Drew sb w w' := by
  obtain ⟨W, hW⟩ : ∃ W, W = w.alloc (.cells #[.int .i64 0, .slice none 0 0] 49) := ⟨_, rfl⟩
  have hB : Below w.heap.size w W := by rw [hW]; exact bel_alloc _ _
  have RO : W.rowIs w.heap.size 49 2 (r2 (.int .i64 0) (.slice none 0 0)) := by rw [hW]; exact row2 w _ _ _
  have hs : W.heap.size = w.heap.size + 1 := by rw [hW]; simp
  have H := Lib.hid (h.below hB)
  have HLT := Lib.hid h.lt
  have HW := Lib.hid hW
  have HC0 : Hid (Chg sb w W) := Chg.of_below hB
  have HRO := Lib.hid RO
  have HS := Lib.hid hs
  clear h hW hB RO hs
  go_enter Tryd.func83, Tryd.ntmps83
  go_wp2_with fail
  rw [← HW.out]
  clear HW
  refine (one_any sb 20 _ H.out (by omega)).mono ?_
  rintro e W1 ⟨⟨c, rfl⟩, hD⟩
  have HD1 := Lib.hid hD
  have HR1 := Lib.hid (HRO.out.of_block (hD.2.2.2.2.2 _ HRO.out.lt (by have := HLT.out; omega)))
  clear hD H HRO
  cases c with
  | true =>
    go_wp2_with fail
    refine (n_any sb 3 _ HD1.out.1 (by omega)).mono ?_
    rintro e W2 ⟨⟨z, rfl, z0, z1, _⟩, hD⟩
    have z2 := z1 (by omega)
    have HD2 : Hid (Drew sb W W2) := ⟨hD.1, HD1.out.2.trans hD.2⟩
    have HR2 := Lib.hid (HR1.out.of_block (hD.2.2.2.2.2 _ HR1.out.lt (by have := HLT.out; omega)))
    clear hD z1 HD1 HR1
    go_wp2_with fail
    obtain ⟨N, hN⟩ : ∃ N : Nat, 5 + z = (N : Int) := ⟨(5 + z).toNat, by omega⟩
    have hN7 : N ≤ 7 := by omega
    rw [hN]
    have HN := Lib.hid hN7
    clear hN z0 z2
    refine (batchD_any sb N (by have := HN.out; omega) _ HD2.out.1).mono ?_
    rintro e W3 ⟨⟨wt, a, k, zs, rfl, hwb, hzl, hown⟩, hD⟩
    have HD3 : Hid (Drew sb W W3) := ⟨hD.1, HD2.out.2.trans hD.2⟩
    have HR3 := Lib.hid (HR2.out.of_block (hD.2.2.2.2.2 _ HR2.out.lt (by have := HLT.out; omega)))
    have hsz := HD2.out.2.size
    have hszW := HS.out
    have HOW := Lib.hid hown
    have HZL := Lib.hid hzl
    have HWB := Lib.hid hwb
    have HB2 : Hid (w.heap.size + 1 ≤ W2.heap.size) := by show _ ≤ _; omega
    clear hD HD2 HR2 hown hzl hwb hsz hszW
    obtain ⟨⟨o0, o1⟩, y0, y1⟩ := row2_cells HR3.out
    go_wp2_with fail
    have hb2 := HB2.out
    have e9 : ∀ g, g ≠ w.heap.size → ((W3.setCell ⟨w.heap.size, 0, none⟩ (.int .i64 wt)).setCell ⟨w.heap.size, 1, none⟩ (.slice a N k)).heap[g]? = W3.heap[g]? := fun g hg => (Below.heap_setCell _ ⟨w.heap.size, 1, none⟩ _ _ hg).trans (Below.heap_setCell _ ⟨w.heap.size, 0, none⟩ _ _ hg)
    refine bodyPost_ret (v := btV wt a N k) ?_ rfl ⟨⟨N, HN.out, wt, a, k, zs, rfl, HWB.out, HZL.out, ?_⟩, ⟨HD3.out.1.keep (fun g hg => e9 g (by have := HLT.out; omega)), ?_⟩⟩
    · obtain ⟨⟨a0, a1⟩, _⟩ := row2_cells (row2_put HR3.out (.int .i64 wt) (.slice a N k))
      simp only [results, Tryd.results83]
      simp [go_sem, a0, a1]
    · have h2 := ownFar (w' := (W3.setCell ⟨w.heap.size, 0, none⟩ (.int .i64 wt)).setCell ⟨w.heap.size, 1, none⟩ (.slice a N k)) HOW.out (fun g hg _ => e9 g (by have := (HOW.out.lt g hg).1; omega))
      refine ⟨h2.1, ?_⟩
      rcases h2.2 with h | ⟨g, cap, cur, e1, e2, e3⟩
      · exact Or.inl h
      · exact Or.inr ⟨g, cap, cur, e1, by omega, e3⟩
    · have hc := HC0.out.trans HD3.out.2
      exact ⟨hc.1, hc.2.1, hc.2.2.1, by have := hc.size; simpa using this, fun g hg1 hg2 => (e9 g (by omega)).trans (hc.2.2.2.2 g hg1 hg2)⟩
  | false =>
    go_wp2_with fail
    refine (n_any sb 4 _ HD1.out.1 (by omega)).mono ?_
    rintro e W2 ⟨⟨z, rfl, z0, z1, _⟩, hD⟩
    have z2 := z1 (by omega)
    have HD2 : Hid (Drew sb W W2) := ⟨hD.1, HD1.out.2.trans hD.2⟩
    have HR2 := Lib.hid (HR1.out.of_block (hD.2.2.2.2.2 _ HR1.out.lt (by have := HLT.out; omega)))
    clear hD z1 HD1 HR1
    go_wp2_with fail
    obtain ⟨N, hN⟩ : ∃ N : Nat, z = (N : Int) := ⟨(z).toNat, by omega⟩
    have hN7 : N ≤ 7 := by omega
    subst hN
    have HN := Lib.hid hN7
    clear z0 z2
    refine (batchD_any sb N (by have := HN.out; omega) _ HD2.out.1).mono ?_
    rintro e W3 ⟨⟨wt, a, k, zs, rfl, hwb, hzl, hown⟩, hD⟩
    have HD3 : Hid (Drew sb W W3) := ⟨hD.1, HD2.out.2.trans hD.2⟩
    have HR3 := Lib.hid (HR2.out.of_block (hD.2.2.2.2.2 _ HR2.out.lt (by have := HLT.out; omega)))
    have hsz := HD2.out.2.size
    have hszW := HS.out
    have HOW := Lib.hid hown
    have HZL := Lib.hid hzl
    have HWB := Lib.hid hwb
    have HB2 : Hid (w.heap.size + 1 ≤ W2.heap.size) := by show _ ≤ _; omega
    clear hD HD2 HR2 hown hzl hwb hsz hszW
    obtain ⟨⟨o0, o1⟩, y0, y1⟩ := row2_cells HR3.out
    go_wp2_with fail
    have hb2 := HB2.out
    have e9 : ∀ g, g ≠ w.heap.size → ((W3.setCell ⟨w.heap.size, 0, none⟩ (.int .i64 wt)).setCell ⟨w.heap.size, 1, none⟩ (.slice a N k)).heap[g]? = W3.heap[g]? := fun g hg => (Below.heap_setCell _ ⟨w.heap.size, 1, none⟩ _ _ hg).trans (Below.heap_setCell _ ⟨w.heap.size, 0, none⟩ _ _ hg)
    refine bodyPost_ret (v := btV wt a N k) ?_ rfl ⟨⟨N, HN.out, wt, a, k, zs, rfl, HWB.out, HZL.out, ?_⟩, ⟨HD3.out.1.keep (fun g hg => e9 g (by have := HLT.out; omega)), ?_⟩⟩
    · obtain ⟨⟨a0, a1⟩, _⟩ := row2_cells (row2_put HR3.out (.int .i64 wt) (.slice a N k))
      simp only [results, Tryd.results83]
      simp [go_sem, a0, a1]
    · have h2 := ownFar (w' := (W3.setCell ⟨w.heap.size, 0, none⟩ (.int .i64 wt)).setCell ⟨w.heap.size, 1, none⟩ (.slice a N k)) HOW.out (fun g hg _ => e9 g (by have := (HOW.out.lt g hg).1; omega))
      refine ⟨h2.1, ?_⟩
      rcases h2.2 with h | ⟨g, cap, cur, e1, e2, e3⟩
      · exact Or.inl h
      · exact Or.inr ⟨g, cap, cur, e1, by omega, e3⟩
    · have hc := HC0.out.trans HD3.out.2
      exact ⟨hc.1, hc.2.1, hc.2.2.1, by have := hc.size; simpa using this, fun g hg1 hg2 => (e9 g (by omega)).trans (hc.2.2.2.2 g hg1 hg2)⟩
/-- What stands in the draw of a batch and more. -/
structure DS (w : World) (sb B b5 : Nat) (wt : Int) (a : Option Addr) (N k : Nat) (zs : List Int) (W : World) : Prop where
  res : W.rowIs w.heap.size 49 2 (r2 (.int .i64 0) (.slice none 0 0))
  box : W.rowIs b5 49 2 (r2 (.int .i64 wt) (.slice a N k))
  own : W.ownsRow B 2 1 (.slice a N k) N (zs.map (Value.int .i64))
  src : Src sb W
  bel : Below w.heap.size w W
  num : w.heap.size < sb ∧ sb < B ∧ sb < b5
theorem DS.draw {w : World} {sb B b5 : Nat} {wt : Int} {a : Option Addr} {N k : Nat} {zs : List Int} {W W' : World} (h : DS w sb B b5 wt a N k zs W) (hd : Drew sb W W') : DS w sb B b5 wt a N k zs W' := by
  have hn := h.num
  exact ⟨h.res.of_block (hd.2.2.2.2.2 _ h.res.lt (by omega)), h.box.of_block (hd.2.2.2.2.2 _ h.box.lt (by omega)), ownFar h.own (fun g hg hl => hd.2.2.2.2.2 g hl (by have := (h.own.lt g hg).1; omega)), hd.1, h.bel.trans (hd.2.below (by omega) h.bel.size), h.num⟩
theorem DS.drew {w : World} {sb B b5 : Nat} {wt : Int} {a : Option Addr} {N k : Nat} {zs : List Int} {W : World} (h : DS w sb B b5 wt a N k zs W) : DS w sb B b5 wt a N k zs W.drew := ⟨h.res.of_block rfl, h.box.of_block rfl, ownFar h.own (fun _ _ _ => rfl), h.src.below (Below.refl _ _).drew, h.bel.drew, h.num⟩
/-- What is left of it at the end. -/
theorem DS.fin {w : World} {sb B b5 : Nat} {wt : Int} {a : Option Addr} {N k : Nat} {zs : List Int} {W : World} (h : DS w sb B b5 wt a N k zs W) (hz : zs.length = N) (x y : Value) : PtM w.heap.size ((W.setCell ⟨w.heap.size, 0, none⟩ x).setCell ⟨w.heap.size, 1, none⟩ y).heap.size a N k (inList zs) ((W.setCell ⟨w.heap.size, 0, none⟩ x).setCell ⟨w.heap.size, 1, none⟩ y) ∧ Below w.heap.size w ((W.setCell ⟨w.heap.size, 0, none⟩ x).setCell ⟨w.heap.size, 1, none⟩ y) := by
  have hn := h.num
  subst hz
  refine ⟨?_, (h.bel.setCell (p := ⟨w.heap.size, 0, none⟩) (Nat.le_refl _) _).setCell (p := ⟨w.heap.size, 1, none⟩) (Nat.le_refl _) _⟩
  rcases own_ints h.own with ⟨h1, h2⟩ | ⟨g, cap, h1, h2, h3⟩
  · simp at h1
    exact Or.inl ⟨h1.1, by rw [h2]; rfl, h1.2.2⟩
  · simp at h1
    obtain ⟨rfl, rfl⟩ := h1
    have h4 := (h3.block (Below.heap_setCell _ ⟨w.heap.size, 0, none⟩ x _ (by show g ≠ w.heap.size; omega))).block (Below.heap_setCell _ ⟨w.heap.size, 1, none⟩ y _ (by show g ≠ w.heap.size; omega))
    exact Or.inr ⟨g, rfl, ⟨by omega, h4.lt⟩, h4⟩
/-- How the draw for a split ends. -/
def DspEnd (lo : Nat) (e : Ending) (W : World) : Prop := ∃ (wt : Int) (a : Option Addr) (N k : Nat) (f : Nat → Int) (water : Int), e = .returned (.tuple #[btV wt a N k, .int .i64 water]) ∧ N ≤ 7 ∧ PtM lo W.heap.size a N k f W
set_option maxRecDepth 100000 in
set_option maxHeartbeats 8000000 in
theorem drawSplit_any (a0 : Option Addr) (len cap : Nat) (w : World) (h : Bytes a0 len w) (hl : len ≤ 1048576) :
    Calls Tryd.prog 23 #[.slice a0 len cap] w fun e w' => DspEnd w.heap.size e w' ∧ Below w.heap.size w w' := by
  obtain ⟨W0, hW0⟩ : ∃ W0, W0 = w.alloc (.cells #[.int .i64 0, .slice none 0 0] 49) := ⟨_, rfl⟩
  have hb0 : Below w.heap.size w W0 := by rw [hW0]; exact bel_alloc _ _
  have RO : W0.rowIs w.heap.size 49 2 (r2 (.int .i64 0) (.slice none 0 0)) := by rw [hW0]; exact row2 w _ _ _
  have H := Lib.hid (h.below hb0)
  have HW0 := Lib.hid hW0
  have HB0 := Lib.hid hb0
  have HR0 := Lib.hid RO
  clear h hW0 hb0 RO
  go_enter Tryd.func23, Tryd.ntmps23
  go_wp2_with fail
  rw [← HW0.out]
  refine (source_any a0 len cap _ H.out (by omega)).mono ?_
  rintro e W1 ⟨rfl, hsrc, hb1⟩
  obtain ⟨sb, hsb⟩ : ∃ sb, sb = W0.heap.size := ⟨_, rfl⟩
  rw [← hsb] at hsrc ⊢
  have HB1 : Hid (Below w.heap.size w W1) := HB0.out.trans (hb1.mono HB0.out.size)
  have HR1 := Lib.hid (wrow_below HR0.out hb1)
  have HN1 : Hid (w.heap.size < sb ∧ sb < W1.heap.size) := ⟨by rw [hsb]; exact HR0.out.lt, hsrc.lt⟩
  have HS1 := Lib.hid hsrc
  clear hsb hb1 hsrc HW0 HR0 HB0 H
  go_wp2_with fail
  refine (anyD_any sb _ HS1.out).mono ?_
  rintro e W2 ⟨⟨N, hN7, wt, a, k, zs, rfl, hwb, hzl, hown⟩, hD⟩
  have hn1 := HN1.out
  obtain ⟨W3, hW3⟩ : ∃ W3, W3 = W2.alloc (.cells #[.int .i64 wt, .slice a N k] 49) := ⟨_, rfl⟩
  have hb3 : Below W2.heap.size W2 W3 := by rw [hW3]; exact bel_alloc _ _
  have hsz2 := hD.2.size
  have HDS : Hid (DS w sb W1.heap.size W2.heap.size wt a N k zs W3) := by
    refine ⟨wrow_below (HR1.out.of_block (hD.2.2.2.2.2 _ HR1.out.lt (by omega))) hb3, by rw [hW3]; exact row2 _ _ _ _, by rw [hW3]; exact hown.alloc _, hD.1.below hb3, ?_, by omega⟩
    have h1 := HB1.out.trans (hD.2.below (by omega) HB1.out.size)
    exact h1.trans (hb3.mono h1.size)
  have HW3 := Lib.hid hW3
  have HN7 := Lib.hid hN7
  have HZL := Lib.hid hzl
  obtain ⟨hw0, hw1⟩ := hwb
  obtain ⟨B, hB⟩ : ∃ B, B = W1.heap.size := ⟨_, rfl⟩
  obtain ⟨b5, hb5⟩ : ∃ b5, b5 = W2.heap.size := ⟨_, rfl⟩
  rw [← hB, ← hb5] at HDS
  clear hW3 hb3 hN7 hzl hown hD hn1 hsz2 hB HS1 HR1 HB1
  go_wp2_with fail
  rw [← HW3.out, ← hb5]
  clear HW3 hb5
  refine (one_any sb 3 _ HDS.out.src (by omega)).mono ?_
  rintro e W4 ⟨⟨c, rfl⟩, hD⟩
  have HD4 := Lib.hid (HDS.out.draw hD)
  clear hD HDS
  cases c with
  | true =>
    go_wp2_with fail
    refine wp_region_held_drew (S := fun W => W.rowIs b5 49 2 (r2 (.int .i64 wt) (.slice a N k))) (by kernel_rfl) (HD4.out.box.of_block rfl) (fun hHeld => ?_)
    have HD4d := Lib.hid HD4.out.drew
    clear HD4
    refine take_do (i := 0) (v := (btV wt a N k)) rfl (by kernel_rfl) (by kernel_rfl) (by kernel_rfl) (fun _ _ _ h => h) (by rfl) ?_ (by assumption) ?_
    · intro w hSw
      obtain ⟨⟨q0, q1⟩, _⟩ := row2_cells hSw
      go_simp
    simp only [Act.put, List.setIfInBounds_toArray, List.set_cons_zero, List.set_cons_succ]
    refine take_do (i := 1) (v := (.pointer (some ⟨b5, 0, none⟩))) rfl (by kernel_rfl) (by kernel_rfl) (by kernel_rfl) (fun _ _ _ h => h) (by rfl) ?_ (by assumption) ?_
    · intro w hSw
      obtain ⟨⟨q0, q1⟩, _⟩ := row2_cells hSw
      go_simp
    simp only [Act.put, List.setIfInBounds_toArray, List.set_cons_zero, List.set_cons_succ]
    refine take_do (i := 2) (v := (.int .i64 wt)) rfl (by kernel_rfl) (by kernel_rfl) (by kernel_rfl) (fun _ _ _ h => h) (by rfl) ?_ (by assumption) ?_
    · intro w hSw
      obtain ⟨⟨q0, q1⟩, _⟩ := row2_cells hSw
      go_simp
    simp only [Act.put, List.setIfInBounds_toArray, List.set_cons_zero, List.set_cons_succ]
    refine take_do (i := 3) (v := (.pointer (some ⟨sb, 0, none⟩))) rfl (by kernel_rfl) (by kernel_rfl) (by kernel_rfl) (fun _ _ _ h => h) (by rfl) ?_ (by assumption) ?_
    · intro w hSw
      obtain ⟨⟨q0, q1⟩, _⟩ := row2_cells hSw
      go_simp
    simp only [Act.put, List.setIfInBounds_toArray, List.set_cons_zero, List.set_cons_succ]
    refine take_call (i := 4) rfl (by kernel_rfl) (fun K2 hK => ?_)
    go_simp
    refine (n_any sb 3 _ HD4d.out.src (by omega)).mono ?_
    rintro e W5 ⟨⟨z, rfl, z0, z1, _⟩, hD⟩
    have z2 := z1 (by omega)
    have HD5 := Lib.hid (HD4d.out.draw hD)
    clear hD z1 HD4d
    go_wp2_with fail
    refine hK.out _ _ HD5.out.box (fun hHeld2 => ?_)
    clear hK hHeld
    have hHeld := hHeld2
    clear hHeld2
    refine take_do (i := 5) (v := (.int .i64 (wt + z))) rfl (by kernel_rfl) (by kernel_rfl) (by kernel_rfl) (fun _ _ _ h => h) (by rfl) ?_ (by assumption) ?_
    · intro w hSw
      clear hSw
      go_simp
      try exact wrapW_id (by omega) (by omega)
    simp only [Act.put, List.setIfInBounds_toArray, List.set_cons_zero, List.set_cons_succ]
    refine take_do (i := 6) (v := (.int .i64 (wt + z - 1))) rfl (by kernel_rfl) (by kernel_rfl) (by kernel_rfl) (fun _ _ _ h => h) (by rfl) ?_ (by assumption) ?_
    · intro w hSw
      clear hSw
      go_simp
      try exact wrapW_id (by omega) (by omega)
    simp only [Act.put, List.setIfInBounds_toArray, List.set_cons_zero, List.set_cons_succ]
    obtain ⟨⟨o0, o1⟩, y0, y1⟩ := row2_cells HD5.out.res
    refine take_call (i := 7) rfl (by kernel_rfl) (fun K2 hK => ?_)
    go_simp
    refine hK.out _ _ (wrow_set (wrow_set HD5.out.box (p := ⟨w.heap.size, 0, none⟩) (by have := HD5.out.num; show b5 ≠ w.heap.size; omega) _) (p := ⟨w.heap.size, 1, none⟩) (by have := HD5.out.num; show b5 ≠ w.heap.size; omega) _) (fun hHeld2 => ?_)
    clear hK hHeld
    have hHeld := hHeld2
    clear hHeld2
    refine take_do (i := 8) (v := (.int .i64 (wt + z - 1))) rfl (by kernel_rfl) (by kernel_rfl) (by kernel_rfl) (fun _ _ _ h => h) (by rfl) ?_ (by assumption) ?_
    · intro w hSw
      clear hSw
      go_simp
      try exact wrapW_id (by omega) (by omega)
    simp only [Act.put, List.setIfInBounds_toArray, List.set_cons_zero, List.set_cons_succ]
    refine wpAnyH_done (by kernel_rfl) ?_ _
    clear hHeld
    go_wp2_with fail
    obtain ⟨hf1, hf2⟩ := HD5.out.fin HZL.out (.int .i64 wt) (.slice a N k)
    refine bodyPost_ret (v := .tuple #[btV wt a N k, .int .i64 (wt + z - 1)]) ?_ rfl ⟨⟨wt, a, N, k, _, _, rfl, HN7.out, hf1⟩, hf2⟩
    obtain ⟨⟨a0, a1⟩, _⟩ := row2_cells (row2_put HD5.out.res (.int .i64 wt) (.slice a N k))
    simp only [results, Tryd.results23]
    simp [go_sem, a0, a1]
  | false =>
    go_wp2_with fail
    refine wp_region_held_drew (S := fun W => W.rowIs b5 49 2 (r2 (.int .i64 wt) (.slice a N k))) (by kernel_rfl) (HD4.out.box.of_block rfl) (fun hHeld => ?_)
    have HD4d := Lib.hid HD4.out.drew
    clear HD4
    refine take_do (i := 0) (v := (btV wt a N k)) rfl (by kernel_rfl) (by kernel_rfl) (by kernel_rfl) (fun _ _ _ h => h) (by rfl) ?_ (by assumption) ?_
    · intro w hSw
      obtain ⟨⟨q0, q1⟩, _⟩ := row2_cells hSw
      go_simp
    simp only [Act.put, List.setIfInBounds_toArray, List.set_cons_zero, List.set_cons_succ]
    refine take_do (i := 1) (v := (.pointer (some ⟨sb, 0, none⟩))) rfl (by kernel_rfl) (by kernel_rfl) (by kernel_rfl) (fun _ _ _ h => h) (by rfl) ?_ (by assumption) ?_
    · intro w hSw
      obtain ⟨⟨q0, q1⟩, _⟩ := row2_cells hSw
      go_simp
    simp only [Act.put, List.setIfInBounds_toArray, List.set_cons_zero, List.set_cons_succ]
    refine take_call (i := 2) rfl (by kernel_rfl) (fun K2 hK => ?_)
    go_simp
    refine (n_any sb 1000 _ HD4d.out.src (by omega)).mono ?_
    rintro e W5 ⟨⟨z, rfl, z0, z1, _⟩, hD⟩
    have HD5 := Lib.hid (HD4d.out.draw hD)
    clear hD z1 HD4d
    go_wp2_with fail
    refine hK.out _ _ HD5.out.box (fun hHeld2 => ?_)
    clear hK hHeld
    have hHeld := hHeld2
    clear hHeld2
    obtain ⟨⟨o0, o1⟩, y0, y1⟩ := row2_cells HD5.out.res
    refine take_call (i := 3) rfl (by kernel_rfl) (fun K2 hK => ?_)
    go_simp
    refine hK.out _ _ (wrow_set (wrow_set HD5.out.box (p := ⟨w.heap.size, 0, none⟩) (by have := HD5.out.num; show b5 ≠ w.heap.size; omega) _) (p := ⟨w.heap.size, 1, none⟩) (by have := HD5.out.num; show b5 ≠ w.heap.size; omega) _) (fun hHeld2 => ?_)
    clear hK hHeld
    have hHeld := hHeld2
    clear hHeld2
    refine take_do (i := 4) (v := (.int .i64 z)) rfl (by kernel_rfl) (by kernel_rfl) (by kernel_rfl) (fun _ _ _ h => h) (by rfl) ?_ (by assumption) ?_
    · intro w hSw
      clear hSw
      go_simp
      try exact wrapW_id (by omega) (by omega)
    simp only [Act.put, List.setIfInBounds_toArray, List.set_cons_zero, List.set_cons_succ]
    refine wpAnyH_done (by kernel_rfl) ?_ _
    clear hHeld
    go_wp2_with fail
    obtain ⟨hf1, hf2⟩ := HD5.out.fin HZL.out (.int .i64 wt) (.slice a N k)
    refine bodyPost_ret (v := .tuple #[btV wt a N k, .int .i64 z]) ?_ rfl ⟨⟨wt, a, N, k, _, _, rfl, HN7.out, hf1⟩, hf2⟩
    obtain ⟨⟨a0, a1⟩, _⟩ := row2_cells (row2_put HD5.out.res (.int .i64 wt) (.slice a N k))
    simp only [results, Tryd.results23]
    simp [go_sem, a0, a1]
/-- How the draw for settling ends. -/
def DseEnd (lo : Nat) (e : Ending) (W : World) : Prop := ∃ (wt : Int) (a : Option Addr) (N k : Nat) (f : Nat → Int) (ma : Option Addr) (mk : Nat) (mi : Nat → Int), e = .returned (.tuple #[btV wt a N k, .slice ma N mk]) ∧ N ≤ 7 ∧ PtM lo W.heap.size a N k f W ∧ PtM lo W.heap.size ma N mk mi W
set_option maxRecDepth 100000 in
set_option maxHeartbeats 1000000 in
theorem maxW_any (x y : Int) (w : World) : Calls Tryd.prog 89 #[.int .i64 x, .int .i64 y] w fun e w' => e = .returned (.int .i64 (max x y)) ∧ w' = w := by
  by_cases h : y < x
  · go_enter Tryd.func89, Tryd.ntmps89
    go_wp2_with fail
    go_ret
    exact ⟨ret_int (a := x) (by omega), rfl⟩
  · go_enter Tryd.func89, Tryd.ntmps89
    go_wp2_with fail
    go_ret
    exact ⟨ret_int (a := y) (by omega), rfl⟩
set_option maxRecDepth 100000 in
set_option maxHeartbeats 8000000 in
theorem drawSettle_any (a0 : Option Addr) (len cap : Nat) (w : World) (h : Bytes a0 len w) (hl : len ≤ 1048576) :
    Calls Tryd.prog 28 #[.slice a0 len cap] w fun e w' => DseEnd w.heap.size e w' ∧ Below w.heap.size w w' := by
  obtain ⟨W0, hW0⟩ : ∃ W0, W0 = w.alloc (.cells #[.int .i64 0, .slice none 0 0] 49) := ⟨_, rfl⟩
  have hb0 : Below w.heap.size w W0 := by rw [hW0]; exact bel_alloc _ _
  have RO : W0.rowIs w.heap.size 49 2 (r2 (.int .i64 0) (.slice none 0 0)) := by rw [hW0]; exact row2 w _ _ _
  have H := Lib.hid (h.below hb0)
  have HW0 := Lib.hid hW0
  have HB0 := Lib.hid hb0
  have HR0 := Lib.hid RO
  clear h hW0 hb0 RO
  go_enter Tryd.func28, Tryd.ntmps28
  go_wp2_with fail
  rw [← HW0.out]
  refine (source_any a0 len cap _ H.out (by omega)).mono ?_
  rintro e W1 ⟨rfl, hsrc, hb1⟩
  obtain ⟨sb, hsb⟩ : ∃ sb, sb = W0.heap.size := ⟨_, rfl⟩
  rw [← hsb] at hsrc ⊢
  have HB1 : Hid (Below w.heap.size w W1) := HB0.out.trans (hb1.mono HB0.out.size)
  have HR1 := Lib.hid (wrow_below HR0.out hb1)
  have HN1 : Hid (w.heap.size < sb ∧ sb < W1.heap.size) := ⟨by rw [hsb]; exact HR0.out.lt, hsrc.lt⟩
  have HS1 := Lib.hid hsrc
  clear hsb hb1 hsrc HW0 HR0 HB0 H
  go_wp2_with fail
  refine (anyD_any sb _ HS1.out).mono ?_
  rintro e W2 ⟨⟨N, hN7, wt, a, k, zs, rfl, hwb, hzl, hown⟩, hD⟩
  have hn1 := HN1.out
  obtain ⟨W3, hW3⟩ : ∃ W3, W3 = W2.alloc (.cells #[.int .i64 wt, .slice a N k] 49) := ⟨_, rfl⟩
  have hb3 : Below W2.heap.size W2 W3 := by rw [hW3]; exact bel_alloc _ _
  have hsz2 := hD.2.size
  have HDS : Hid (DS w sb W1.heap.size W2.heap.size wt a N k zs W3) := by
    refine ⟨wrow_below (HR1.out.of_block (hD.2.2.2.2.2 _ HR1.out.lt (by omega))) hb3, by rw [hW3]; exact row2 _ _ _ _, by rw [hW3]; exact hown.alloc _, hD.1.below hb3, ?_, by omega⟩
    have h1 := HB1.out.trans (hD.2.below (by omega) HB1.out.size)
    exact h1.trans (hb3.mono h1.size)
  have HW3 := Lib.hid hW3
  have HN7 := Lib.hid hN7
  have HZL := Lib.hid hzl
  obtain ⟨hw0, hw1⟩ := hwb
  obtain ⟨B, hB⟩ : ∃ B, B = W1.heap.size := ⟨_, rfl⟩
  obtain ⟨b5, hb5⟩ : ∃ b5, b5 = W2.heap.size := ⟨_, rfl⟩
  rw [← hB, ← hb5] at HDS
  clear hW3 hb3 hN7 hzl hown hD hn1 hsz2 hB HS1 HR1 HB1
  go_wp2_with fail
  rw [← HW3.out, ← hb5]
  clear HW3 hb5
  refine wp_region_held_drew (S := fun W => W.rowIs b5 49 2 (r2 (.int .i64 wt) (.slice a N k))) (by kernel_rfl) (HDS.out.box.of_block rfl) (fun hHeld => ?_)
  have HD4d := Lib.hid HDS.out.drew
  clear HDS
  refine take_do (i := 0) (v := (btV wt a N k)) rfl (by kernel_rfl) (by kernel_rfl) (by kernel_rfl) (fun _ _ _ h => h) (by rfl) ?_ (by assumption) ?_
  · intro w hSw
    obtain ⟨⟨q0, q1⟩, _⟩ := row2_cells hSw
    go_simp
  simp only [Act.put, List.setIfInBounds_toArray, List.set_cons_zero, List.set_cons_succ]
  refine take_do (i := 1) (v := (.pointer (some ⟨sb, 0, none⟩))) rfl (by kernel_rfl) (by kernel_rfl) (by kernel_rfl) (fun _ _ _ h => h) (by rfl) ?_ (by assumption) ?_
  · intro w hSw
    obtain ⟨⟨q0, q1⟩, _⟩ := row2_cells hSw
    go_simp
  simp only [Act.put, List.setIfInBounds_toArray, List.set_cons_zero, List.set_cons_succ]
  refine take_do (i := 2) (v := (.pointer (some ⟨b5, 1, none⟩))) rfl (by kernel_rfl) (by kernel_rfl) (by kernel_rfl) (fun _ _ _ h => h) (by rfl) ?_ (by assumption) ?_
  · intro w hSw
    obtain ⟨⟨q0, q1⟩, _⟩ := row2_cells hSw
    go_simp
  simp only [Act.put, List.setIfInBounds_toArray, List.set_cons_zero, List.set_cons_succ]
  refine take_do (i := 3) (v := (.slice a N k)) rfl (by kernel_rfl) (by kernel_rfl) (by kernel_rfl) (fun _ _ _ h => h) (by rfl) ?_ (by assumption) ?_
  · intro w hSw
    obtain ⟨⟨q0, q1⟩, _⟩ := row2_cells hSw
    go_simp
  simp only [Act.put, List.setIfInBounds_toArray, List.set_cons_zero, List.set_cons_succ]
  refine take_do (i := 4) (v := (.int .i64 N)) rfl (by kernel_rfl) (by kernel_rfl) (by kernel_rfl) (fun _ _ _ h => h) (by rfl) ?_ (by assumption) ?_
  · intro w hSw
    obtain ⟨⟨q0, q1⟩, _⟩ := row2_cells hSw
    go_simp
  simp only [Act.put, List.setIfInBounds_toArray, List.set_cons_zero, List.set_cons_succ]
  refine take_do (i := 5) (v := (.pointer (some ⟨sb, 0, none⟩))) rfl (by kernel_rfl) (by kernel_rfl) (by kernel_rfl) (fun _ _ _ h => h) (by rfl) ?_ (by assumption) ?_
  · intro w hSw
    obtain ⟨⟨q0, q1⟩, _⟩ := row2_cells hSw
    go_simp
  simp only [Act.put, List.setIfInBounds_toArray, List.set_cons_zero, List.set_cons_succ]
  refine take_call (i := 6) rfl (by kernel_rfl) (fun K2 hK => ?_)
  go_simp
  refine (n_any sb 20 _ HD4d.out.src (by omega)).mono ?_
  rintro e W5 ⟨⟨z, rfl, z0, z1, _⟩, hD⟩
  have z2 := z1 (by omega)
  have HD5 := Lib.hid (HD4d.out.draw hD)
  clear hD z1 HD4d
  go_wp2_with fail
  refine hK.out _ _ HD5.out.box (fun hHeld2 => ?_)
  clear hK hHeld
  have hHeld := hHeld2
  clear hHeld2
  refine take_do (i := 7) (v := (.int .i64 (z - 18))) rfl (by kernel_rfl) (by kernel_rfl) (by kernel_rfl) (fun _ _ _ h => h) (by rfl) ?_ (by assumption) ?_
  · intro w hSw
    clear hSw
    go_simp
    try exact wrapW_id (by omega) (by omega)
  simp only [Act.put, List.setIfInBounds_toArray, List.set_cons_zero, List.set_cons_succ]
  refine take_call (i := 8) rfl (by kernel_rfl) (fun K2 hK => ?_)
  go_simp
  refine (maxW_any 0 (z - 18) _).mono ?_
  rintro e W6 ⟨rfl, rfl⟩
  go_wp2_with fail
  refine hK.out _ _ HD5.out.box (fun hHeld2 => ?_)
  clear hK hHeld
  have hHeld := hHeld2
  clear hHeld2
  obtain ⟨M, hM⟩ : ∃ M, M = max 0 (z - 18) := ⟨_, rfl⟩
  rw [← hM]
  have hM0 : 0 ≤ M := by omega
  have hM1 : M ≤ 2 := by omega
  clear hM z0 z2
  refine take_do (i := 9) (v := (.int .i64 (1000 + M))) rfl (by kernel_rfl) (by kernel_rfl) (by kernel_rfl) (fun _ _ _ h => h) (by rfl) ?_ (by assumption) ?_
  · intro w hSw
    clear hSw
    go_simp
    try exact wrapW_id (by omega) (by omega)
  simp only [Act.put, List.setIfInBounds_toArray, List.set_cons_zero, List.set_cons_succ]
  refine take_call (i := 10) rfl (by kernel_rfl) (fun K2 hK => ?_)
  go_simp
  refine (listW_any sb N (by have := HN7.out; omega) (1000 + M) (by omega) (by omega) _ HD5.out.src).mono ?_
  rintro e W7 ⟨v, rfl, ys, hyl, hil⟩
  obtain ⟨ma, mk, rfl⟩ := ownShape hil.1
  rw [hyl] at hil ⊢
  have HD7 := Lib.hid (HD5.out.draw hil.2.1)
  have HIL := Lib.hid hil.1
  have HYL := Lib.hid hyl
  have HSZ5 : Hid (w.heap.size < W6.heap.size) := HD5.out.res.lt
  go_wp2_with fail
  refine hK.out _ _ HD7.out.box (fun hHeld2 => ?_)
  clear hK hHeld hil hyl HD5
  have hHeld := hHeld2
  clear hHeld2
  obtain ⟨⟨o0, o1⟩, y0, y1⟩ := row2_cells HD7.out.res
  refine take_call (i := 11) rfl (by kernel_rfl) (fun K2 hK => ?_)
  go_simp
  refine hK.out _ _ (wrow_set (wrow_set HD7.out.box (p := ⟨w.heap.size, 0, none⟩) (by have := HD7.out.num; show b5 ≠ w.heap.size; omega) _) (p := ⟨w.heap.size, 1, none⟩) (by have := HD7.out.num; show b5 ≠ w.heap.size; omega) _) (fun hHeld2 => ?_)
  clear hK hHeld
  have hHeld := hHeld2
  clear hHeld2
  refine take_do (i := 12) (v := (.slice ma N mk)) rfl (by kernel_rfl) (by kernel_rfl) (by kernel_rfl) (fun _ _ _ h => h) (by rfl) ?_ (by assumption) ?_
  · intro w hSw
    clear hSw
    go_simp
    try exact wrapW_id (by omega) (by omega)
  simp only [Act.put, List.setIfInBounds_toArray, List.set_cons_zero, List.set_cons_succ]
  refine wpAnyH_done (by kernel_rfl) ?_ _
  clear hHeld
  go_wp2_with fail
  obtain ⟨hf1, hf2⟩ := HD7.out.fin HZL.out (.int .i64 wt) (.slice a N k)
  have hm : PtM w.heap.size ((W7.setCell ⟨w.heap.size, 0, none⟩ (.int .i64 wt)).setCell ⟨w.heap.size, 1, none⟩ (.slice a N k)).heap.size ma N mk (inList ys) ((W7.setCell ⟨w.heap.size, 0, none⟩ (.int .i64 wt)).setCell ⟨w.heap.size, 1, none⟩ (.slice a N k)) := by
    have hyl := HYL.out
    have hil := HIL.out
    have hsz := HSZ5.out
    rw [← hyl] at hil
    rcases own_ints hil with ⟨h1, h2⟩ | ⟨g, cap, h1, h2, h3⟩
    · simp at h1
      exact Or.inl ⟨h1.1, by rw [← hyl, h2]; rfl, h1.2.2⟩
    · simp at h1
      obtain ⟨rfl, rfl⟩ := h1
      rw [hyl] at h3
      have h4 := (h3.block (Below.heap_setCell _ ⟨w.heap.size, 0, none⟩ (.int .i64 wt) _ (by show g ≠ w.heap.size; omega))).block (Below.heap_setCell _ ⟨w.heap.size, 1, none⟩ (.slice a N k) _ (by show g ≠ w.heap.size; omega))
      exact Or.inr ⟨g, rfl, ⟨by omega, h4.lt⟩, h4⟩
  refine bodyPost_ret (v := .tuple #[btV wt a N k, .slice ma N mk]) ?_ rfl ⟨⟨wt, a, N, k, _, ma, mk, _, rfl, HN7.out, hf1, hm⟩, hf2⟩
  obtain ⟨⟨a0, a1⟩, _⟩ := row2_cells (row2_put HD7.out.res (.int .i64 wt) (.slice a N k))
  simp only [results, Tryd.results28]
  simp [go_sem, a0, a1]
end Go.Proofs.YtoeibcmmpbkbpaaDoor
