/-
  The contract of the program's basin of a store: the walk.
-/
import Derived.Test.YtdpghhmcibiplaaDoorStB3
namespace Go.Proofs.YtdpghhmcibiplaaDoor
open Go.RowKit Go.Deep

/-- A basin that is told. -/
def BaEnd (B : Nat) (f : Int) (m : Nat) (r : Nat → St.Pr) (e : Ending) (w' : World) : Prop := ∃ g cap bs fs, e = .returned (baV f g m cap) ∧ BasR f m r g bs fs w' ∧ (B ≤ g ∧ ∀ j, j < m → B ≤ bs j ∧ B ≤ fs j)
theorem info_rul : (Tryd.prog.info? 134).map (fun i => (i.zero, i.size, i.bytes)) = some (some (.agg #[.nilFunc, .nilFunc]), 2, 16) := by kernel_rfl
/-- What the round's region reads. -/
def RdS (po pr : Nat) (f : Int) (p : St.Pr) (W : World) : Prop := (∃ x, W.rowIs po 138 2 (r2 (.int .i64 f) x)) ∧ PrCells pr 0 p W
theorem RdS.below {po pr : Nat} {f : Int} {p : St.Pr} {W W' : World} (h : RdS po pr f p W) (hb : Below W.heap.size W W') : RdS po pr f p W' := ⟨h.1.elim fun x hx => ⟨x, hx.of_block (hb.block _ hx.lt)⟩, h.2.block (hb.block _ h.2.lt)⟩
theorem own_slice {w : World} {B : Nat} {e : TypeId} {s : Nat} {v : Value} {n : Nat} {xs : List Value} (h : w.ownsRow B e s v n xs) : ∃ a k, v = .slice a n k := by
  rcases h.2 with ⟨h1, h2⟩ | ⟨g, cap, cur, e1, _⟩
  · exact ⟨none, 0, by rw [h1, h2]⟩
  · exact ⟨_, cap, e1⟩
set_option maxRecDepth 100000 in
set_option maxHeartbeats 4000000 in
theorem basinOf_any (ca : Option Addr) (cn ck : Nat) (c : Nat → St.Pr) (ra : Option Addr) (rn rk : Nat) (r : Nat → St.Pr) (v : Int) (w : World) (h : StAt ca cn c ra rn r w) (hc : St.CurveOk cn c) (hr : St.RulesOk rn r) :
    Calls Tryd.prog 109 #[stV ca cn ck ra rn rk v] w fun e w' => BaEnd w.heap.size (St.full cn c) rn r e w' ∧ Below w.heap.size w w' := by
  obtain ⟨b, hrab, hru⟩ := h.ru.all (by have := hr.1; omega)
  subst hrab
  obtain ⟨W, hW⟩ : ∃ W, W = (w.alloc (.cells #[.slice ca cn ck, .slice (some ⟨b, 0, none⟩) rn rk, .int .i64 v] 66)).alloc (.cells #[.int .i64 0, .slice none 0 0] 138) := ⟨_, rfl⟩
  have hGW : Gr w W := by rw [hW]; exact ((Gr.refl _).alloc _).alloc _
  obtain ⟨x0, x1, x2⟩ := box3 w (.slice ca cn ck) (.slice (some ⟨b, 0, none⟩) rn rk) (.int .i64 v) 66
  have c1 : W.cell? ⟨w.heap.size, 1, none⟩ = some (.slice (some ⟨b, 0, none⟩) rn rk) := by rw [hW]; exact bcell_up _ x1
  have hsz : W.heap.size = w.heap.size + 1 + 1 := by rw [hW]; simp
  have hres : W.rowIs (w.heap.size + 1) 138 2 (r2 (.int .i64 0) (.slice none 0 0)) := by
    rw [hW]
    have := row2 (w.alloc (.cells #[.slice ca cn ck, .slice (some ⟨b, 0, none⟩) rn rk, .int .i64 v] 66)) (.int .i64 0) (.slice none 0 0) 138
    rwa [World.size_alloc] at this
  obtain ⟨f, hf⟩ : ∃ f, f = St.full cn c := ⟨_, rfl⟩
  rw [← hf]
  obtain ⟨W1, hW1⟩ : ∃ W1, W1 = W.alloc (.cells #[.int .i64 f, .slice none 0 0] 138) := ⟨_, rfl⟩
  have hB0 : BoI w W1 f r 0 (.slice none 0 0) (fun _ => 0) (fun _ => 0) := by
    refine ⟨?_, ?_, World.ownsRow_nil _ _ _ _, fun j hj => absurd hj (Nat.not_lt_zero _), ?_, fun _ => rfl⟩
    · rw [hW1, ← hsz]; exact row2 W _ _ _
    · rw [hW1]; exact hres.of_block (blk_alloc_lt _ _ _ hres.lt)
    · rw [hW1]; exact hGW.bel.alloc hGW.bel.size _
  have HW := Lib.hid hW
  have HW1 := Lib.hid hW1
  have HGW := Lib.hid hGW
  have HCU := Lib.hid (h.gr hGW).cu
  have HRU : Hid (∀ i, i < rn → PrCells b (i * 2) (r i) w) := hru
  have HC := Lib.hid hc
  have HR := Lib.hid hr
  have HF := Lib.hid hf
  have HB0 := Lib.hid hB0
  have HSZ := Lib.hid hsz
  have hm := hr.1
  obtain ⟨i0, hi0, hz0, hz1, hz2⟩ := info_parts info_rul
  have HI0 := Lib.hid (And.intro hi0 (And.intro hz0 (And.intro hz1 hz2)))
  clear hW hW1 hGW h hc hr hf hB0 hru x0 x1 x2 hres hsz hi0 hz0 hz1 hz2
  go_enter Tryd.func109, Tryd.ntmps109
  go_wp2_with fail
  rw [← HW.out]
  refine (fullOf_any ca cn ck c _ HCU.out (by have := HC.out.1; omega) (by have := HC.out.1; omega)).mono ?_
  rintro e w1 ⟨rfl, rfl⟩
  have hf := HF.out
  rw [← hf]
  clear hf
  have hsz := HSZ.out
  have hlt0 : w.heap.size < w1.heap.size := by omega
  clear hsz
  go_wp2_with fail
  rw [← HW1.out]
  have hsz := HSZ.out
  rw [hsz]
  clear hsz c1 hlt0
  go_loopw [13] (fun iv wr => ∃ (i : Nat), i ≤ rn ∧ iv = .int .i64 i ∧ Hid (∃ v bs fs, BoI w wr f r i v bs fs)) (fun iv _ => rn - (intOf iv).toNat)
  case atStart => exact ⟨0, Nat.zero_le _, rfl, _, _, _, HB0.out⟩
  case round =>
    obtain ⟨i, hi, rfl, hI⟩ := hrel
    obtain ⟨vs, bs, fs, hI⟩ := hI.out
    have HI := Lib.hid hI
    by_cases hlt : i < rn
    · have hltz : (i : Int) < (rn : Int) := by omega
      obtain ⟨c0, c1⟩ := (HRU.out i hlt).block (hI.bel.block _ (HRU.out i hlt).lt)
      obtain ⟨sa, sk, hvs⟩ := own_slice hI.own
      subst hvs
      obtain ⟨W3, hW3⟩ : ∃ W3, W3 = wr.alloc (.cells #[.int .i64 (r i).a, .int .i64 (r i).b] 78) := ⟨_, rfl⟩
      have hb3 : Below wr.heap.size wr W3 := by rw [hW3]; exact (Below.refl _ _).alloc (Nat.le_refl _) _
      have HI3 : Hid (BoI w W3 f r i (.slice sa i sk) bs fs) := hI.below hb3
      have HP3 : Hid (PrCells wr.heap.size 0 (r i) W3) := by
        show PrCells _ _ _ _
        rw [hW3]; exact bbox2 wr _ _ _
      have HS3 : Hid (RdS (w.heap.size + 1 + 1) wr.heap.size f (r i) W3) := ⟨⟨_, HI3.out.row⟩, HP3.out⟩
      have HPO : Hid (w.heap.size + 1 + 1 < wr.heap.size) := hI.row.lt
      have hs3 : w.heap.size + 3 ≤ W3.heap.size := HI3.out.row.lt
      have HW3 := Lib.hid hW3
      clear hW3 hb3 hI
      go_wp2_with fail
      rw [← HW3.out]
      refine wp_region_held_drew (S := RdS (w.heap.size + 1 + 1) wr.heap.size f (r i)) (by kernel_rfl) (HS3.out.below (Below.refl _ _).drew) (fun hHeld => ?_)
      clear HS3
      refine take_do (i := 0) (v := (.pointer (some ⟨w.heap.size + 1 + 1, 1, none⟩))) rfl (by kernel_rfl) (by kernel_rfl) (by kernel_rfl) (fun _ _ _ h => h) (by rfl) ?_ (by assumption) ?_
      · intro w hSw
        obtain ⟨⟨xx, hxx⟩, x0, x1⟩ := hSw; obtain ⟨⟨a0, a1⟩, _⟩ := row2_cells hxx
        go_simp
      simp only [Act.put, List.setIfInBounds_toArray, List.set_cons_zero, List.set_cons_succ]
      refine take_do (i := 2) (v := (prV (r i))) rfl (by kernel_rfl) (by kernel_rfl) (by kernel_rfl) (fun _ _ _ h => h) (by rfl) ?_ (by assumption) ?_
      · intro w hSw
        obtain ⟨⟨xx, hxx⟩, x0, x1⟩ := hSw; obtain ⟨⟨a0, a1⟩, _⟩ := row2_cells hxx
        go_simp
      simp only [Act.put, List.setIfInBounds_toArray, List.set_cons_zero, List.set_cons_succ]
      refine take_do (i := 3) (v := (.pointer (some ⟨w.heap.size + 1 + 1, 0, none⟩))) rfl (by kernel_rfl) (by kernel_rfl) (by kernel_rfl) (fun _ _ _ h => h) (by rfl) ?_ (by assumption) ?_
      · intro w hSw
        obtain ⟨⟨xx, hxx⟩, x0, x1⟩ := hSw; obtain ⟨⟨a0, a1⟩, _⟩ := row2_cells hxx
        go_simp
      simp only [Act.put, List.setIfInBounds_toArray, List.set_cons_zero, List.set_cons_succ]
      refine take_do (i := 4) (v := (.int .i64 f)) rfl (by kernel_rfl) (by kernel_rfl) (by kernel_rfl) (fun _ _ _ h => h) (by rfl) ?_ (by assumption) ?_
      · intro w hSw
        obtain ⟨⟨xx, hxx⟩, x0, x1⟩ := hSw; obtain ⟨⟨a0, a1⟩, _⟩ := row2_cells hxx
        go_simp
      simp only [Act.put, List.setIfInBounds_toArray, List.set_cons_zero, List.set_cons_succ]
      have HI3d : Hid (BoI w W3.drew f r i (.slice sa i sk) bs fs) := HI3.out.below (Below.refl _ _).drew
      refine wpAnyH_ready (rs := [1, 5]) (by kernel_rfl) (by simp) (AllReadyH.cons (at_drop (i := 1) rfl) (fun K2 hK => ?_) (AllReadyH.cons (at_drop (i := 5) rfl) (fun K2 hK => ?_) (AllReadyH.nil)))
      · obtain ⟨⟨l0, l1⟩, _⟩ := row2_cells (HI3d.out).row
        go_simp
        refine hK.out _ _ hHeld (fun hHeld2 => ?_)
        clear hK hHeld l0 l1
        have hHeld := hHeld2
        clear hHeld2
        refine take_call (i := 5) rfl (by kernel_rfl) (fun K2 hK => ?_)
        go_simp
        refine (rulingOf_any (r i) f _).mono ?_
        rintro e W4 ⟨rfl, hp4, hG4⟩
        have HI4 : Hid (BoI w W4 f r i (.slice sa i sk) bs fs) := (HI3.out.below (Below.refl _ _).drew).below hG4.bel
        have HP4 := Lib.hid hp4
        have hs4 : w.heap.size + 3 ≤ W4.heap.size := Nat.le_trans hs3 hG4.bel.size
        go_wp2_with fail
        refine hK.out _ _ (hHeld.below hG4.bel) (fun hHeld2 => ?_)
        clear hK hHeld hp4 hG4
        have hHeld := hHeld2
        clear hHeld2
        refine take_call (i := 6) rfl (by kernel_rfl) (fun K2 hK => ?_)
        go_simp
        refine hK.out _ _ (hHeld.below ((Below.refl _ _).alloc (Nat.le_refl _) _)) (fun hHeld2 => ?_)
        clear hK hHeld
        have hHeld := hHeld2
        clear hHeld2
        obtain ⟨W5, hW5⟩ : ∃ W5, W5 = W4.alloc (.cells #[hvR W3.heap.size (W3.heap.size + 1), gvR W3.heap.size] 134) := ⟨_, rfl⟩
        have hb5 : Below W4.heap.size W4 W5 := by rw [hW5]; exact (Below.refl _ _).alloc (Nat.le_refl _) _
        have HI5 := Lib.hid (HI4.out.below hb5)
        have HP5 : Hid (PrCells W3.heap.size 0 (r i) W5 ∧ W5.cell? ⟨W3.heap.size + 1, 0, none⟩ = some (.int .i64 f)) := ⟨HP4.out.1.block (hb5.block _ HP4.out.1.lt), (hb5.cell (World.block_lt_of_cell? _ _ HP4.out.2)).trans HP4.out.2⟩
        have HN5 : Hid (W5.cell? ⟨W4.heap.size, 0, none⟩ = some (hvR W3.heap.size (W3.heap.size + 1)) ∧ W5.cell? ⟨W4.heap.size, 1, none⟩ = some (gvR W3.heap.size)) := by
          show _ ∧ _
          rw [hW5]; exact bbox2 W4 _ _ _
        have hs5 : w.heap.size + 3 ≤ W5.heap.size := Nat.le_trans hs4 hb5.size
        rw [← hW5] at hHeld ⊢
        clear hW5 hb5
        have HHD := Lib.hid hHeld
        refine take_call (i := 7) rfl (by kernel_rfl) (fun K2 hK => ?_)
        refine step_append_own rfl (.tmp 18) (.tmp 23) 136 rfl (w.heap.size + 3) 134 i0 (.agg #[.nilFunc, .nilFunc]) 2 16 Tryd.underlying136 HI0.out.1 HI0.out.2.1 HI0.out.2.2.1 HI0.out.2.2.2 rfl (by decide) (.slice sa i sk) i (cellsOf bs fs i) rfl HI5.out.own ⟨W4.heap.size, 0, none⟩ 1 1 [hvR W3.heap.size (W3.heap.size + 1), gvR W3.heap.size] rfl rfl ?_ ?_ (by unfold maxLen; omega) (by omega) hs5 ?_
        · intro j u hj
          have hj2 : j = 0 ∨ j = 1 := by
            have := (List.getElem?_eq_some_iff.1 hj).1
            simp at this; omega
          rw [Addr.add_lit]
          rcases hj2 with rfl | rfl
          · simp at hj; rw [← hj]; exact HN5.out.1
          · simp at hj; rw [← hj]; exact HN5.out.2
        · intro u hu
          simp at hu
          rcases hu with rfl | rfl <;> rfl
        intro v' w' hown hgrow
        have far : ∀ {b : Nat} {x : Int}, W5.cell? ⟨b, 0, none⟩ = some (.int .i64 x) → (Value.slice sa i sk).ownBlock ≠ some b := fun hb => own_far HI5.out.own HI5.out.nul hb
        have hrw : w'.rowIs (w.heap.size + 1 + 1) 138 2 (r2 (.int .i64 f) (.slice sa i sk)) := HI5.out.row.of_block (hgrow.block _ HI5.out.row.lt (fun e => far (row2_cells HI5.out.row).1.1 e.symm))
        have hpw : PrCells wr.heap.size 0 (r i) w' := HHD.out.2.block (hgrow.block _ HHD.out.2.lt (fun e => far HHD.out.2.1 e.symm))
        have HN : Hid (BoI w (w'.setCell ⟨w.heap.size + 1 + 1, 1, none⟩ v') f r (i + 1) v' (fun j => if j = i then W3.heap.size else bs j) (fun j => if j = i then W3.heap.size + 1 else fs j)) := HI5.out.next HP5.out.1 HP5.out.2 hs3 (by omega) hown hgrow
        obtain ⟨na, nk, hv'⟩ := own_slice hown
        subst hv'
        have HRD : Hid (RdS (w.heap.size + 1 + 1) wr.heap.size f (r i) (w'.setCell ⟨w.heap.size + 1 + 1, 1, none⟩ (.slice na (i + 1) nk))) := ⟨⟨_, HN.out.row⟩, hpw.block (Below.heap_setCell _ _ _ _ (by have := HPO.out; show wr.heap.size ≠ w.heap.size + 1 + 1; omega))⟩
        refine hK.out _ _ ⟨⟨_, hrw⟩, hpw⟩ (fun hHeld2 => ?_)
        obtain ⟨⟨y0, y1⟩, z0, z1⟩ := row2_cells hrw
        clear hK hHeld far hown hgrow hrw hpw
        have hHeld := hHeld2
        clear hHeld2
        simp only [Act.put, List.setIfInBounds_toArray, List.set_cons_zero, List.set_cons_succ]
        refine take_do (i := 8) (v := (.pointer (some ⟨w.heap.size + 1 + 1, 1, none⟩))) rfl (by kernel_rfl) (by kernel_rfl) (by kernel_rfl) (fun _ _ _ h => h) (by rfl) ?_ (by assumption) ?_
        · intro w hSw
          obtain ⟨⟨xx, hxx⟩, x0, x1⟩ := hSw; obtain ⟨⟨a0, a1⟩, _⟩ := row2_cells hxx
          go_simp
        simp only [Act.put, List.setIfInBounds_toArray, List.set_cons_zero, List.set_cons_succ]
        refine take_call (i := 9) rfl (by kernel_rfl) (fun K2 hK => ?_)
        go_simp
        refine hK.out _ _ HRD.out (fun hHeld2 => ?_)
        clear hK hHeld hHeld2 y0 y1 z0 z1 HRD
        refine wpAnyH_done (by kernel_rfl) ?_ _
        go_wp2_with fail
        go_roundw
        case rel => exact ⟨i + 1, by omega, by go_num, _, _, _, HN.out⟩
        case measure => simp [intOf]; omega
      · go_simp
        refine (rulingOf_any (r i) f _).mono ?_
        rintro e W4 ⟨rfl, hp4, hG4⟩
        have HI4 : Hid (BoI w W4 f r i (.slice sa i sk) bs fs) := (HI3.out.below (Below.refl _ _).drew).below hG4.bel
        have HP4 := Lib.hid hp4
        have hs4 : w.heap.size + 3 ≤ W4.heap.size := Nat.le_trans hs3 hG4.bel.size
        go_wp2_with fail
        refine hK.out _ _ (hHeld.below hG4.bel) (fun hHeld2 => ?_)
        clear hK hHeld hp4 hG4
        have hHeld := hHeld2
        clear hHeld2
        refine wpAnyH_ready (rs := [1, 6]) (by kernel_rfl) (by simp) (AllReadyH.cons (at_drop (i := 1) rfl) (fun K2 hK => ?_) (AllReadyH.cons (at_drop (i := 6) rfl) (fun K2 hK => ?_) (AllReadyH.nil)))
        · obtain ⟨⟨l0, l1⟩, _⟩ := row2_cells (HI4.out).row
          go_simp
          refine hK.out _ _ hHeld (fun hHeld2 => ?_)
          clear hK hHeld l0 l1
          have hHeld := hHeld2
          clear hHeld2
          refine take_call (i := 6) rfl (by kernel_rfl) (fun K2 hK => ?_)
          go_simp
          refine hK.out _ _ (hHeld.below ((Below.refl _ _).alloc (Nat.le_refl _) _)) (fun hHeld2 => ?_)
          clear hK hHeld
          have hHeld := hHeld2
          clear hHeld2
          obtain ⟨W5, hW5⟩ : ∃ W5, W5 = W4.alloc (.cells #[hvR W3.heap.size (W3.heap.size + 1), gvR W3.heap.size] 134) := ⟨_, rfl⟩
          have hb5 : Below W4.heap.size W4 W5 := by rw [hW5]; exact (Below.refl _ _).alloc (Nat.le_refl _) _
          have HI5 := Lib.hid (HI4.out.below hb5)
          have HP5 : Hid (PrCells W3.heap.size 0 (r i) W5 ∧ W5.cell? ⟨W3.heap.size + 1, 0, none⟩ = some (.int .i64 f)) := ⟨HP4.out.1.block (hb5.block _ HP4.out.1.lt), (hb5.cell (World.block_lt_of_cell? _ _ HP4.out.2)).trans HP4.out.2⟩
          have HN5 : Hid (W5.cell? ⟨W4.heap.size, 0, none⟩ = some (hvR W3.heap.size (W3.heap.size + 1)) ∧ W5.cell? ⟨W4.heap.size, 1, none⟩ = some (gvR W3.heap.size)) := by
            show _ ∧ _
            rw [hW5]; exact bbox2 W4 _ _ _
          have hs5 : w.heap.size + 3 ≤ W5.heap.size := Nat.le_trans hs4 hb5.size
          rw [← hW5] at hHeld ⊢
          clear hW5 hb5
          have HHD := Lib.hid hHeld
          refine take_call (i := 7) rfl (by kernel_rfl) (fun K2 hK => ?_)
          refine step_append_own rfl (.tmp 18) (.tmp 23) 136 rfl (w.heap.size + 3) 134 i0 (.agg #[.nilFunc, .nilFunc]) 2 16 Tryd.underlying136 HI0.out.1 HI0.out.2.1 HI0.out.2.2.1 HI0.out.2.2.2 rfl (by decide) (.slice sa i sk) i (cellsOf bs fs i) rfl HI5.out.own ⟨W4.heap.size, 0, none⟩ 1 1 [hvR W3.heap.size (W3.heap.size + 1), gvR W3.heap.size] rfl rfl ?_ ?_ (by unfold maxLen; omega) (by omega) hs5 ?_
          · intro j u hj
            have hj2 : j = 0 ∨ j = 1 := by
              have := (List.getElem?_eq_some_iff.1 hj).1
              simp at this; omega
            rw [Addr.add_lit]
            rcases hj2 with rfl | rfl
            · simp at hj; rw [← hj]; exact HN5.out.1
            · simp at hj; rw [← hj]; exact HN5.out.2
          · intro u hu
            simp at hu
            rcases hu with rfl | rfl <;> rfl
          intro v' w' hown hgrow
          have far : ∀ {b : Nat} {x : Int}, W5.cell? ⟨b, 0, none⟩ = some (.int .i64 x) → (Value.slice sa i sk).ownBlock ≠ some b := fun hb => own_far HI5.out.own HI5.out.nul hb
          have hrw : w'.rowIs (w.heap.size + 1 + 1) 138 2 (r2 (.int .i64 f) (.slice sa i sk)) := HI5.out.row.of_block (hgrow.block _ HI5.out.row.lt (fun e => far (row2_cells HI5.out.row).1.1 e.symm))
          have hpw : PrCells wr.heap.size 0 (r i) w' := HHD.out.2.block (hgrow.block _ HHD.out.2.lt (fun e => far HHD.out.2.1 e.symm))
          have HN : Hid (BoI w (w'.setCell ⟨w.heap.size + 1 + 1, 1, none⟩ v') f r (i + 1) v' (fun j => if j = i then W3.heap.size else bs j) (fun j => if j = i then W3.heap.size + 1 else fs j)) := HI5.out.next HP5.out.1 HP5.out.2 hs3 (by omega) hown hgrow
          obtain ⟨na, nk, hv'⟩ := own_slice hown
          subst hv'
          have HRD : Hid (RdS (w.heap.size + 1 + 1) wr.heap.size f (r i) (w'.setCell ⟨w.heap.size + 1 + 1, 1, none⟩ (.slice na (i + 1) nk))) := ⟨⟨_, HN.out.row⟩, hpw.block (Below.heap_setCell _ _ _ _ (by have := HPO.out; show wr.heap.size ≠ w.heap.size + 1 + 1; omega))⟩
          refine hK.out _ _ ⟨⟨_, hrw⟩, hpw⟩ (fun hHeld2 => ?_)
          obtain ⟨⟨y0, y1⟩, z0, z1⟩ := row2_cells hrw
          clear hK hHeld far hown hgrow hrw hpw
          have hHeld := hHeld2
          clear hHeld2
          simp only [Act.put, List.setIfInBounds_toArray, List.set_cons_zero, List.set_cons_succ]
          refine take_do (i := 8) (v := (.pointer (some ⟨w.heap.size + 1 + 1, 1, none⟩))) rfl (by kernel_rfl) (by kernel_rfl) (by kernel_rfl) (fun _ _ _ h => h) (by rfl) ?_ (by assumption) ?_
          · intro w hSw
            obtain ⟨⟨xx, hxx⟩, x0, x1⟩ := hSw; obtain ⟨⟨a0, a1⟩, _⟩ := row2_cells hxx
            go_simp
          simp only [Act.put, List.setIfInBounds_toArray, List.set_cons_zero, List.set_cons_succ]
          refine take_call (i := 9) rfl (by kernel_rfl) (fun K2 hK => ?_)
          go_simp
          refine hK.out _ _ HRD.out (fun hHeld2 => ?_)
          clear hK hHeld hHeld2 y0 y1 z0 z1 HRD
          refine wpAnyH_done (by kernel_rfl) ?_ _
          go_wp2_with fail
          go_roundw
          case rel => exact ⟨i + 1, by omega, by go_num, _, _, _, HN.out⟩
          case measure => simp [intOf]; omega
        · go_simp
          refine hK.out _ _ (hHeld.below ((Below.refl _ _).alloc (Nat.le_refl _) _)) (fun hHeld2 => ?_)
          clear hK hHeld
          have hHeld := hHeld2
          clear hHeld2
          obtain ⟨W5, hW5⟩ : ∃ W5, W5 = W4.alloc (.cells #[hvR W3.heap.size (W3.heap.size + 1), gvR W3.heap.size] 134) := ⟨_, rfl⟩
          have hb5 : Below W4.heap.size W4 W5 := by rw [hW5]; exact (Below.refl _ _).alloc (Nat.le_refl _) _
          have HI5 := Lib.hid (HI4.out.below hb5)
          have HP5 : Hid (PrCells W3.heap.size 0 (r i) W5 ∧ W5.cell? ⟨W3.heap.size + 1, 0, none⟩ = some (.int .i64 f)) := ⟨HP4.out.1.block (hb5.block _ HP4.out.1.lt), (hb5.cell (World.block_lt_of_cell? _ _ HP4.out.2)).trans HP4.out.2⟩
          have HN5 : Hid (W5.cell? ⟨W4.heap.size, 0, none⟩ = some (hvR W3.heap.size (W3.heap.size + 1)) ∧ W5.cell? ⟨W4.heap.size, 1, none⟩ = some (gvR W3.heap.size)) := by
            show _ ∧ _
            rw [hW5]; exact bbox2 W4 _ _ _
          have hs5 : w.heap.size + 3 ≤ W5.heap.size := Nat.le_trans hs4 hb5.size
          rw [← hW5] at hHeld ⊢
          clear hW5 hb5
          obtain ⟨⟨l0, l1⟩, _⟩ := row2_cells (HI5.out).row
          refine take_call (i := 1) rfl (by kernel_rfl) (fun K2 hK => ?_)
          go_simp
          refine hK.out _ _ hHeld (fun hHeld2 => ?_)
          clear hK hHeld l0 l1
          have hHeld := hHeld2
          clear hHeld2
          have HHD := Lib.hid hHeld
          refine take_call (i := 7) rfl (by kernel_rfl) (fun K2 hK => ?_)
          refine step_append_own rfl (.tmp 18) (.tmp 23) 136 rfl (w.heap.size + 3) 134 i0 (.agg #[.nilFunc, .nilFunc]) 2 16 Tryd.underlying136 HI0.out.1 HI0.out.2.1 HI0.out.2.2.1 HI0.out.2.2.2 rfl (by decide) (.slice sa i sk) i (cellsOf bs fs i) rfl HI5.out.own ⟨W4.heap.size, 0, none⟩ 1 1 [hvR W3.heap.size (W3.heap.size + 1), gvR W3.heap.size] rfl rfl ?_ ?_ (by unfold maxLen; omega) (by omega) hs5 ?_
          · intro j u hj
            have hj2 : j = 0 ∨ j = 1 := by
              have := (List.getElem?_eq_some_iff.1 hj).1
              simp at this; omega
            rw [Addr.add_lit]
            rcases hj2 with rfl | rfl
            · simp at hj; rw [← hj]; exact HN5.out.1
            · simp at hj; rw [← hj]; exact HN5.out.2
          · intro u hu
            simp at hu
            rcases hu with rfl | rfl <;> rfl
          intro v' w' hown hgrow
          have far : ∀ {b : Nat} {x : Int}, W5.cell? ⟨b, 0, none⟩ = some (.int .i64 x) → (Value.slice sa i sk).ownBlock ≠ some b := fun hb => own_far HI5.out.own HI5.out.nul hb
          have hrw : w'.rowIs (w.heap.size + 1 + 1) 138 2 (r2 (.int .i64 f) (.slice sa i sk)) := HI5.out.row.of_block (hgrow.block _ HI5.out.row.lt (fun e => far (row2_cells HI5.out.row).1.1 e.symm))
          have hpw : PrCells wr.heap.size 0 (r i) w' := HHD.out.2.block (hgrow.block _ HHD.out.2.lt (fun e => far HHD.out.2.1 e.symm))
          have HN : Hid (BoI w (w'.setCell ⟨w.heap.size + 1 + 1, 1, none⟩ v') f r (i + 1) v' (fun j => if j = i then W3.heap.size else bs j) (fun j => if j = i then W3.heap.size + 1 else fs j)) := HI5.out.next HP5.out.1 HP5.out.2 hs3 (by omega) hown hgrow
          obtain ⟨na, nk, hv'⟩ := own_slice hown
          subst hv'
          have HRD : Hid (RdS (w.heap.size + 1 + 1) wr.heap.size f (r i) (w'.setCell ⟨w.heap.size + 1 + 1, 1, none⟩ (.slice na (i + 1) nk))) := ⟨⟨_, HN.out.row⟩, hpw.block (Below.heap_setCell _ _ _ _ (by have := HPO.out; show wr.heap.size ≠ w.heap.size + 1 + 1; omega))⟩
          refine hK.out _ _ ⟨⟨_, hrw⟩, hpw⟩ (fun hHeld2 => ?_)
          obtain ⟨⟨y0, y1⟩, z0, z1⟩ := row2_cells hrw
          clear hK hHeld far hown hgrow hrw hpw
          have hHeld := hHeld2
          clear hHeld2
          simp only [Act.put, List.setIfInBounds_toArray, List.set_cons_zero, List.set_cons_succ]
          refine take_do (i := 8) (v := (.pointer (some ⟨w.heap.size + 1 + 1, 1, none⟩))) rfl (by kernel_rfl) (by kernel_rfl) (by kernel_rfl) (fun _ _ _ h => h) (by rfl) ?_ (by assumption) ?_
          · intro w hSw
            obtain ⟨⟨xx, hxx⟩, x0, x1⟩ := hSw; obtain ⟨⟨a0, a1⟩, _⟩ := row2_cells hxx
            go_simp
          simp only [Act.put, List.setIfInBounds_toArray, List.set_cons_zero, List.set_cons_succ]
          refine take_call (i := 9) rfl (by kernel_rfl) (fun K2 hK => ?_)
          go_simp
          refine hK.out _ _ HRD.out (fun hHeld2 => ?_)
          clear hK hHeld hHeld2 y0 y1 z0 z1 HRD
          refine wpAnyH_done (by kernel_rfl) ?_ _
          go_wp2_with fail
          go_roundw
          case rel => exact ⟨i + 1, by omega, by go_num, _, _, _, HN.out⟩
          case measure => simp [intOf]; omega
    · obtain rfl : i = rn := by omega
      obtain ⟨⟨l0, l1⟩, _⟩ := row2_cells hI.row
      obtain ⟨⟨y0, y1⟩, z0, z1⟩ := row2_cells hI.res
      have hne : vs ≠ .slice none 0 0 := by
        intro e
        rcases hI.own.2 with ⟨h1, h2⟩ | ⟨g, cap, cur, e1, _⟩
        · omega
        · rw [e] at e1; cases e1
      obtain ⟨g, cap, hvs, hg⟩ : ∃ g cap, vs = .slice (some ⟨g, 0, none⟩) i cap ∧ w.heap.size + 3 ≤ g := by
        rcases hI.own.2 with ⟨h1, h2⟩ | ⟨g, cap, cur, e1, e2, _⟩
        · exact absurd h1 hne
        · exact ⟨g, cap, e1, e2⟩
      subst hvs
      have HBR : Hid (BasR f i r g bs fs ((wr.setCell ⟨w.heap.size + 1, 0, none⟩ (.int .i64 f)).setCell ⟨w.heap.size + 1, 1, none⟩ (.slice (some ⟨g, 0, none⟩) i cap))) := fun j hj => by
        have blk : ∀ k, w.heap.size + 3 ≤ k → ((wr.setCell ⟨w.heap.size + 1, 0, none⟩ (.int .i64 f)).setCell ⟨w.heap.size + 1, 1, none⟩ (.slice (some ⟨g, 0, none⟩) i cap)).heap[k]? = wr.heap[k]? := fun k hk =>
          (Below.heap_setCell _ ⟨w.heap.size + 1, 1, none⟩ _ _ (by show k ≠ w.heap.size + 1; omega)).trans (Below.heap_setCell _ ⟨w.heap.size + 1, 0, none⟩ _ _ (by show k ≠ w.heap.size + 1; omega))
        obtain ⟨⟨k1, k2⟩, k3, k4⟩ := HI.out.rul j hj
        have q0 := (World.ownsRow.cellAt HI.out.own (j * 2) (by omega)).trans (cellsOf_get bs fs i j hj).1
        have q1 := (World.ownsRow.cellAt HI.out.own (j * 2 + 1) (by omega)).trans (cellsOf_get bs fs i j hj).2
        exact ⟨⟨(World.cell?_of_block (a := ⟨g, j * 2, none⟩) (blk g hg)).trans q0, (World.cell?_of_block (a := ⟨g, j * 2 + 1, none⟩) (blk g hg)).trans q1⟩, k1.block (blk _ k3), (World.cell?_of_block (a := ⟨fs j, 0, none⟩) (blk _ k4)).trans k2⟩
      have HRS := Lib.hid (row2_put HI.out.res (.int .i64 f) (.slice (some ⟨g, 0, none⟩) i cap))
      have HBL := Lib.hid ((HI.out.bel.setCell (p := ⟨w.heap.size + 1, 0, none⟩) (by show w.heap.size ≤ w.heap.size + 1; omega) (.int .i64 f)).setCell (p := ⟨w.heap.size + 1, 1, none⟩) (by show w.heap.size ≤ w.heap.size + 1; omega) (.slice (some ⟨g, 0, none⟩) i cap))
      clear hI hne
      go_wp2_with fail
      refine bodyPost_ret (v := baV f g i cap) ?_ rfl ⟨⟨g, cap, bs, fs, rfl, HBR.out, by omega, fun j hj => by have := (HI.out.rul j hj).2; omega⟩, HBL.out⟩
      obtain ⟨⟨x0, x1⟩, _⟩ := row2_cells HRS.out
      simp only [results, Tryd.results109]
      simp [go_sem, x0, x1]
end Go.Proofs.YtdpghhmcibiplaaDoor
