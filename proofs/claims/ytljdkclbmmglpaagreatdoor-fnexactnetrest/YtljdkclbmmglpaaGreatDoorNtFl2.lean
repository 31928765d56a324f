/-
  The program's flows of a net: the walk over its links.
-/
import Derived.Test.YtljdkclbmmglpaaGreatDoorNtFl1
namespace Go.Proofs.YtljdkclbmmglpaaGreatDoor
open Go.RowKit Go.Deep

/-- What stands from link to link. -/
structure FlS (n : Nt.Net) (la : Option Addr) (lk : Nat) (fa : Option Addr) (fk : Nat) (wa : Option Addr) (wk g i : Nat) (f : Nat → Int) (w W : World) : Prop where
  row : W.rowIs w.heap.size 27 4 (rowN (ntL n la lk fa fk wa wk))
  old : Below w.heap.size w W
  part : IsPart 35 g (n.ln * 2) (i * 2) f W
  lo : w.heap.size < g
theorem FlS.below {n : Nt.Net} {la : Option Addr} {lk : Nat} {fa : Option Addr} {fk : Nat} {wa : Option Addr} {wk g i : Nat} {f : Nat → Int} {w W W' : World} (h : FlS n la lk fa fk wa wk g i f w W) (hb : Below W.heap.size W W') : FlS n la lk fa fk wa wk g i f w W' :=
  ⟨nrow_below h.row hb, h.old.trans (hb.mono h.old.size), h.part.block (hb.block _ h.part.lt), h.lo⟩
/-- The link's block and the fall's, which a step reads. -/
def StpS (w : World) (gl gb : Nat) (L D : List Value) (V : World) : Prop := Below w.heap.size w V ∧ V.rowIs gl 74 3 (rowN L) ∧ V.rowIs gb 35 2 (rowN D)
theorem StpS.below {w : World} {gl gb : Nat} {L D : List Value} {V V' : World} (h : StpS w gl gb L D V) (hb : Below V.heap.size V V') : StpS w gl gb L D V' := ⟨h.1.trans (hb.mono h.1.size), nrow_below h.2.1 hb, nrow_below h.2.2 hb⟩
set_option maxRecDepth 100000 in
set_option maxHeartbeats 16000000 in
theorem netFlows_any (n : Nt.Net) (la : Option Addr) (lk : Nat) (fa : Option Addr) (fk : Nat) (wa : Option Addr) (wk : Nat) (ha : Option Addr) (hn hk : Nat) (hf : Nat → Int) (w : World) (h : NtAt n la fa wa w) (hs : NtSmall n) (hh : IsAt ha (hn * 2) hf w) (hb0 : NBd hf) (hm : hn ≤ 1048576) (hg : NEt w) :
    Calls Tryz.prog 73 #[ntV n la lk fa fk wa wk, .slice ha hn hk] w fun e w' => Reck w.heap.size (Nt.flCode n hn hf) n.ln (Nt.cells2 (Nt.flv n hf)) e w' ∧ Below w.heap.size w w' := by
  have HA := Lib.hid h
  have HH := Lib.hid hh
  have HBD := Lib.hid hb0
  have HG := Lib.hid hg
  have HSM := Lib.hid hs
  obtain ⟨W, hW⟩ : ∃ W, W = w.alloc (.cells #[.int .i64 n.nodes, .slice la n.ln lk, .slice fa n.fn fk, .slice wa n.wn wk] 27) := ⟨_, rfl⟩
  have S0 : Hid (NtS 27 n la lk fa fk wa wk w W) := by rw [hW]; exact NtS.new _ h
  have HW := Lib.hid hW
  clear h hh hb0 hg hs hW
  by_cases h4 : 400 < hn
  · have h4z : (400 : Int) < (hn : Int) := by omega
    have HC := Lib.hid (Nt.flCode_2 (n := n) (hf := hf) h4)
    go_enter Tryz.func73, Tryz.ntmps73
    go_wp2_with fail
    rw [← HW.out]
    exact ⟨rfl, Or.inr ⟨by rw [HC.out]; decide, _, by rw [HC.out]⟩, S0.out.old⟩
  have h4z : ¬ (400 : Int) < (hn : Int) := by omega
  go_enter Tryz.func73, Tryz.ntmps73
  go_wp2_with fail
  rw [← HW.out]
  refine (implNet_any n la lk fa fk wa wk _ S0.out.at_ HSM.out).mono ?_
  rintro e w1 ⟨⟨b1, rfl, hb1⟩, hb⟩
  have S1 := Lib.hid (S0.out.below hb)
  have E1 := Lib.hid hb1
  clear hb hb1 S0
  obtain ⟨⟨r0, r1, r2, r3⟩, _⟩ := rowN4 S1.out.row
  cases b1 with
  | false =>
    have HC := Lib.hid (Nt.flCode_1 (n := n) (hn := hn) (hf := hf) h4 (fun k => by have := E1.out.2 k.r; cases this))
    go_wp2_with fail
    exact ⟨rfl, Or.inr ⟨by rw [HC.out]; decide, _, by rw [HC.out]⟩, S1.out.old⟩
  | true =>
  go_wp2_with fail
  refine (heads_any ha hn hk hf n.nodes _ (HH.out.below S1.out.old) HBD.out hm).mono ?_
  rintro e w2 ⟨⟨b2, rfl, hb2⟩, hb⟩
  have S2 := Lib.hid (S1.out.below hb)
  have E2 := Lib.hid hb2
  clear hb hb2 S1 r0 r1 r2 r3
  cases b2 with
  | false =>
    have HC := Lib.hid (Nt.flCode_1 (n := n) (hn := hn) (hf := hf) h4 (fun k => by have := E2.out.2 ⟨k.ok, k.len⟩; cases this))
    go_wp2_with fail
    exact ⟨rfl, Or.inr ⟨by rw [HC.out]; decide, _, by rw [HC.out]⟩, S2.out.old⟩
  | true =>
  have HF : Hid (Nt.FlFit n hn hf) := ⟨E1.out.1 (by trivial), (E2.out.1 (by trivial)).2, (E2.out.1 (by trivial)).1⟩
  clear E1 E2
  have hln := HF.out.r.ln
  have hmk := nmk_Frac n.ln (by omega)
  obtain ⟨⟨r0, r1, r2, r3⟩, _⟩ := rowN4 S2.out.row
  have S3 : Hid (FlS n la lk fa fk wa wk w2.heap.size 0 (Nt.cells2 (Nt.flv n hf)) w (w2.alloc (.cells (madeCells #[.int .i64 0, .int .i64 0] (n.ln * 2)) 35))) :=
    ⟨nrow_below S2.out.row (nbel_alloc _ _), S2.out.old.alloc S2.out.old.size _, ⟨_, made_is _ _ w2 _ (by intro i hi; simp at hi; have : i = 0 ∨ i = 1 := (by omega); rcases this with rfl | rfl <;> rfl) (by simp), fun j hj => absurd hj (by omega)⟩, S2.out.row.lt⟩
  have zw : w.heap.size < w2.heap.size := S2.out.row.lt
  go_wp2_with fail
  clear hmk r0 r1 r2 r3 S2
  generalize w2.heap.size = g at *
  go_loopw [37] (fun iv wr => ∃ (i : Nat), i ≤ n.ln ∧ iv = .int .i64 i ∧ Hid (FlS n la lk fa fk wa wk g i (Nt.cells2 (Nt.flv n hf)) w wr) ∧ Hid (∀ j, j < i → Nt.flOk n hf j)) (fun iv _ => n.ln - (intOf iv).toNat)
  case atStart => exact ⟨0, Nat.zero_le _, rfl, S3, fun j hj => absurd hj (Nat.not_lt_zero _)⟩
  case round =>
    obtain ⟨i, hi, rfl, hS, hP⟩ := hrel
    clear S3
    by_cases hlt : i < n.ln
    · have hltz : (i : Int) < (n.ln : Int) := by omega
      obtain ⟨b, e, c0, c1, c2⟩ := (HA.out.below hS.out.old).l.at3 hlt
      have HLA := Lib.hid e
      obtain ⟨ef, hfr⟩ := HF.out.r.fr hlt
      obtain ⟨et, htt⟩ := HF.out.r.tt hlt
      have hnn := HF.out.nn
      rw [ef] at c0
      rw [et] at c1
      obtain ⟨hb, eh, d0, d1⟩ := (HH.out.below hS.out.old).at2 (i := Nt.fr n i) (by omega)
      obtain ⟨hb', eh', d2, d3⟩ := (HH.out.below hS.out.old).at2 (i := Nt.tt n i) (by omega)
      obtain rfl : hb' = hb := by rw [eh] at eh'; cases eh'; rfl
      have HHA := Lib.hid eh
      have zb : b < wr.heap.size := World.block_lt_of_cell? _ _ c0
      have zh : hb' < wr.heap.size := World.block_lt_of_cell? _ _ d0
      subst e eh
      clear eh' ef et
      obtain ⟨W0, hW0⟩ : ∃ W0, W0 = wr.alloc (.cells #[.int .i64 (Nt.fr n i : Nat), .int .i64 (Nt.tt n i : Nat), .int .i64 (n.L (i * 3 + 2))] 74) := ⟨_, rfl⟩
      have SW : Hid (FlS n (some ⟨b, 0, none⟩) lk fa fk wa wk g i (Nt.cells2 (Nt.flv n hf)) w W0) := by rw [hW0]; exact hS.out.below (nbel_alloc _ _)
      have RL : Hid (W0.rowIs wr.heap.size 74 3 (rowN [.int .i64 (Nt.fr n i : Nat), .int .i64 (Nt.tt n i : Nat), .int .i64 (n.L (i * 3 + 2))])) := by rw [hW0]; exact rowN_alloc wr _ _
      have D : Hid (W0.cell? ⟨hb', Nt.fr n i * 2, none⟩ = some (.int .i64 (Nt.hd hf (Nt.fr n i)).1) ∧ W0.cell? ⟨hb', Nt.fr n i * 2 + 1, none⟩ = some (.int .i64 (Nt.hd hf (Nt.fr n i)).2) ∧ W0.cell? ⟨hb', Nt.tt n i * 2, none⟩ = some (.int .i64 (Nt.hd hf (Nt.tt n i)).1) ∧ W0.cell? ⟨hb', Nt.tt n i * 2 + 1, none⟩ = some (.int .i64 (Nt.hd hf (Nt.tt n i)).2) ∧ hb' < W0.heap.size) := by
        rw [hW0]
        refine ⟨?_, ?_, ?_, ?_, by simp; omega⟩
        · rw [World.cell?_alloc_lt _ _ _ zh]; exact d0
        · rw [World.cell?_alloc_lt _ _ _ zh]; exact d1
        · rw [World.cell?_alloc_lt _ _ _ zh]; exact d2
        · rw [World.cell?_alloc_lt _ _ _ zh]; exact d3
      have HW0 := Lib.hid hW0
      have hfz : (Nt.fr n i : Int) < (hn : Int) := by omega
      have htz : (Nt.tt n i : Int) < (hn : Int) := by omega
      have GW : Hid (NEt W0) := HG.out.below SW.out.old
      have HGL : Hid (g < wr.heap.size) := hS.out.part.lt
      clear d0 d1 d2 d3 hW0 hS zb zh hnn
      go_wp2_with fail
      rw [← HW0.out]
      clear c0 c1 c2
      generalize wr.heap.size = gl at *
      by_cases hd : Fq.code (Nt.dq n hf i) = 0
      case neg =>
        have HC := Lib.hid (Nt.flCode_5 h4 HF.out hlt (fun k => hd k.1))
        have h5 := (Fq.code_or (Fq.sub_fit (HF.out.fr hlt) (HF.out.tt hlt)).1).resolve_left hd
        have HD := Lib.hid hd
        have H5 := Lib.hid h5
        clear hd h5
        refine wp_region_held_drew (S := fun V => Below W0.heap.size W0 V) (by kernel_rfl) (Below.refl _ _).drew (fun hHeld => ?_)
        obtain ⟨Z, hZ⟩ : ∃ Z, Z = W0.drew := ⟨_, rfl⟩
        rw [← hZ] at hHeld ⊢
        clear hZ
        refine take_do (i := 0) (v := (.slice (some ⟨hb', 0, none⟩) hn hk)) rfl (by kernel_rfl) (by kernel_rfl) (by kernel_rfl) (fun _ _ _ h => h) (by rfl) ?_ (by assumption) ?_
        · intro w hSw
          skip
          go_simp
        simp only [Act.put, List.setIfInBounds_toArray, List.set_cons_zero, List.set_cons_succ]
        refine take_do (i := 1) (v := (.pointer (some ⟨gl, 0, none⟩))) rfl (by kernel_rfl) (by kernel_rfl) (by kernel_rfl) (fun _ _ _ h => h) (by rfl) ?_ (by assumption) ?_
        · intro w hSw
          skip
          go_simp
        simp only [Act.put, List.setIfInBounds_toArray, List.set_cons_zero, List.set_cons_succ]
        refine take_do (i := 2) (v := (.int .i64 (Nt.fr n i : Nat))) rfl (by kernel_rfl) (by kernel_rfl) (by kernel_rfl) (fun _ _ _ h => h) (by rfl) ?_ (by assumption) ?_
        · intro w hSw
          obtain ⟨⟨x0, x1, x2⟩, _⟩ := rowN3 (nrow_below RL.out hSw)
          go_simp
        simp only [Act.put, List.setIfInBounds_toArray, List.set_cons_zero, List.set_cons_succ]
        refine take_do (i := 3) (v := (.pointer (some ⟨hb', Nt.fr n i * 2, none⟩))) rfl (by kernel_rfl) (by kernel_rfl) (by kernel_rfl) (fun _ _ _ h => h) (by rfl) ?_ (by assumption) ?_
        · intro w hSw
          skip
          go_simp
        simp only [Act.put, List.setIfInBounds_toArray, List.set_cons_zero, List.set_cons_succ]
        refine take_do (i := 4) (v := (frV (Nt.hd hf (Nt.fr n i)))) rfl (by kernel_rfl) (by kernel_rfl) (by kernel_rfl) (fun _ _ _ h => h) (by rfl) ?_ (by assumption) ?_
        · intro w hSw
          have y0 := (hSw.cell (p := ⟨hb', Nt.fr n i * 2, none⟩) D.out.2.2.2.2).trans D.out.1; have y1 := (hSw.cell (p := ⟨hb', Nt.fr n i * 2 + 1, none⟩) D.out.2.2.2.2).trans D.out.2.1; have y2 := (hSw.cell (p := ⟨hb', Nt.tt n i * 2, none⟩) D.out.2.2.2.2).trans D.out.2.2.1; have y3 := (hSw.cell (p := ⟨hb', Nt.tt n i * 2 + 1, none⟩) D.out.2.2.2.2).trans D.out.2.2.2.1
          go_simp
        simp only [Act.put, List.setIfInBounds_toArray, List.set_cons_zero, List.set_cons_succ]
        refine take_do (i := 5) (v := (.slice (some ⟨hb', 0, none⟩) hn hk)) rfl (by kernel_rfl) (by kernel_rfl) (by kernel_rfl) (fun _ _ _ h => h) (by rfl) ?_ (by assumption) ?_
        · intro w hSw
          skip
          go_simp
        simp only [Act.put, List.setIfInBounds_toArray, List.set_cons_zero, List.set_cons_succ]
        refine take_do (i := 6) (v := (.pointer (some ⟨gl, 1, none⟩))) rfl (by kernel_rfl) (by kernel_rfl) (by kernel_rfl) (fun _ _ _ h => h) (by rfl) ?_ (by assumption) ?_
        · intro w hSw
          skip
          go_simp
        simp only [Act.put, List.setIfInBounds_toArray, List.set_cons_zero, List.set_cons_succ]
        refine take_do (i := 7) (v := (.int .i64 (Nt.tt n i : Nat))) rfl (by kernel_rfl) (by kernel_rfl) (by kernel_rfl) (fun _ _ _ h => h) (by rfl) ?_ (by assumption) ?_
        · intro w hSw
          obtain ⟨⟨x0, x1, x2⟩, _⟩ := rowN3 (nrow_below RL.out hSw)
          go_simp
        simp only [Act.put, List.setIfInBounds_toArray, List.set_cons_zero, List.set_cons_succ]
        refine take_do (i := 8) (v := (.pointer (some ⟨hb', Nt.tt n i * 2, none⟩))) rfl (by kernel_rfl) (by kernel_rfl) (by kernel_rfl) (fun _ _ _ h => h) (by rfl) ?_ (by assumption) ?_
        · intro w hSw
          skip
          go_simp
        simp only [Act.put, List.setIfInBounds_toArray, List.set_cons_zero, List.set_cons_succ]
        refine take_do (i := 9) (v := (frV (Nt.hd hf (Nt.tt n i)))) rfl (by kernel_rfl) (by kernel_rfl) (by kernel_rfl) (fun _ _ _ h => h) (by rfl) ?_ (by assumption) ?_
        · intro w hSw
          have y0 := (hSw.cell (p := ⟨hb', Nt.fr n i * 2, none⟩) D.out.2.2.2.2).trans D.out.1; have y1 := (hSw.cell (p := ⟨hb', Nt.fr n i * 2 + 1, none⟩) D.out.2.2.2.2).trans D.out.2.1; have y2 := (hSw.cell (p := ⟨hb', Nt.tt n i * 2, none⟩) D.out.2.2.2.2).trans D.out.2.2.1; have y3 := (hSw.cell (p := ⟨hb', Nt.tt n i * 2 + 1, none⟩) D.out.2.2.2.2).trans D.out.2.2.2.1
          go_simp
        simp only [Act.put, List.setIfInBounds_toArray, List.set_cons_zero, List.set_cons_succ]
        refine wpAnyH_ready (rs := [10, 12]) (by kernel_rfl) (by simp) (AllReadyH.cons (at_drop (i := 10) rfl) (fun K2 hK => ?_) (AllReadyH.cons (at_drop (i := 12) rfl) (fun K2 hK => ?_) (AllReadyH.nil)))
        · go_simp
          refine (nimplSub _ _ _ (HF.out.fr hlt) (HF.out.tt hlt) (GW.out.below hHeld)).mono ?_
          rintro e Z1 ⟨rfl, hb⟩
          go_wp2_with fail
          refine hK.out _ _ (hHeld.trans (hb.mono hHeld.size)) (fun hHeld2 => ?_)
          clear hK hHeld
          have hHeld := hHeld2
          clear hHeld2
          clear hb
          refine wpAnyH_ready (rs := [11, 12]) (by kernel_rfl) (by simp) (AllReadyH.cons (at_drop (i := 11) rfl) (fun K2 hK => ?_) (AllReadyH.cons (at_drop (i := 12) rfl) (fun K2 hK => ?_) (AllReadyH.nil)))
          · go_simp
            refine (sure_bad _ _ _ HD.out _).mono ?_
            rintro e Z2 ⟨⟨s, rfl⟩, hb⟩
            go_wp2_with fail
            exact ⟨rfl, Or.inr ⟨by rw [HC.out]; decide, s, by rw [HC.out]; rw [← H5.out]; rfl⟩, (SW.out.old.trans (hHeld.mono SW.out.old.size)).trans (hb.mono (Nat.le_trans SW.out.old.size hHeld.size))⟩
          · obtain ⟨Z3, hZ3⟩ : ∃ Z3, Z3 = Z1.alloc (.cells #[.int .i64 0, .int .i64 0] 35) := ⟨_, rfl⟩
            have hb : Below Z1.heap.size Z1 Z3 := by rw [hZ3]; exact nbel_alloc _ _
            obtain ⟨gb, hgb⟩ : ∃ gb, gb = Z1.heap.size := ⟨_, rfl⟩
            have RZ : Hid (Z3.rowIs gb 35 2 (rowN [.int .i64 0, .int .i64 0])) := by show World.rowIs _ _ _ _ _; rw [hZ3, hgb]; exact rowN_alloc _ _ _
            have HGB : Hid (W0.heap.size ≤ gb) := by show _ ≤ _; rw [hgb]; exact hHeld.size
            go_simp
            rw [← hZ3, ← hgb]
            refine hK.out _ _ (hHeld.trans (hb.mono hHeld.size)) (fun hHeld2 => ?_)
            clear hK hHeld
            have hHeld := hHeld2
            clear hHeld2
            clear hb hZ3 hgb
            refine take_call (i := 11) rfl (by kernel_rfl) (fun K2 hK => ?_)
            go_simp
            refine (sure_bad _ _ _ HD.out _).mono ?_
            rintro e Z4 ⟨⟨s, rfl⟩, hb⟩
            go_wp2_with fail
            exact ⟨rfl, Or.inr ⟨by rw [HC.out]; decide, s, by rw [HC.out]; rw [← H5.out]; rfl⟩, (SW.out.old.trans (hHeld.mono SW.out.old.size)).trans (hb.mono (Nat.le_trans SW.out.old.size hHeld.size))⟩
        · obtain ⟨Z5, hZ5⟩ : ∃ Z5, Z5 = Z.alloc (.cells #[.int .i64 0, .int .i64 0] 35) := ⟨_, rfl⟩
          have hb : Below Z.heap.size Z Z5 := by rw [hZ5]; exact nbel_alloc _ _
          obtain ⟨gb, hgb⟩ : ∃ gb, gb = Z.heap.size := ⟨_, rfl⟩
          have RZ : Hid (Z5.rowIs gb 35 2 (rowN [.int .i64 0, .int .i64 0])) := by show World.rowIs _ _ _ _ _; rw [hZ5, hgb]; exact rowN_alloc _ _ _
          have HGB : Hid (W0.heap.size ≤ gb) := by show _ ≤ _; rw [hgb]; exact hHeld.size
          go_simp
          rw [← hZ5, ← hgb]
          refine hK.out _ _ (hHeld.trans (hb.mono hHeld.size)) (fun hHeld2 => ?_)
          clear hK hHeld
          have hHeld := hHeld2
          clear hHeld2
          clear hb hZ5 hgb
          refine take_call (i := 10) rfl (by kernel_rfl) (fun K2 hK => ?_)
          go_simp
          refine (nimplSub _ _ _ (HF.out.fr hlt) (HF.out.tt hlt) (GW.out.below hHeld)).mono ?_
          rintro e Z6 ⟨rfl, hb⟩
          replace RZ := Lib.hid (nrow_below RZ.out hb)
          go_wp2_with fail
          refine hK.out _ _ (hHeld.trans (hb.mono hHeld.size)) (fun hHeld2 => ?_)
          clear hK hHeld
          have hHeld := hHeld2
          clear hHeld2
          clear hb
          refine take_call (i := 11) rfl (by kernel_rfl) (fun K2 hK => ?_)
          go_simp
          refine (sure_bad _ _ _ HD.out _).mono ?_
          rintro e Z7 ⟨⟨s, rfl⟩, hb⟩
          go_wp2_with fail
          exact ⟨rfl, Or.inr ⟨by rw [HC.out]; decide, s, by rw [HC.out]; rw [← H5.out]; rfl⟩, (SW.out.old.trans (hHeld.mono SW.out.old.size)).trans (hb.mono (Nat.le_trans SW.out.old.size hHeld.size))⟩
      case pos =>
        have HD := Lib.hid hd
        have RD := Lib.hid (HF.out.dq hlt hd)
        clear hd
        go_cut [8] (fun p V => ∃ gb, p = .pointer (some ⟨gb, 0, none⟩) ∧ Hid (V.rowIs gb 35 2 (rowN [.int .i64 (Fq.val (Nt.dq n hf i)).1, .int .i64 (Fq.val (Nt.dq n hf i)).2]) ∧ Below W0.heap.size W0 V ∧ W0.heap.size ≤ gb))
        case first =>
          refine wp_region_held_drew (S := fun V => Below W0.heap.size W0 V) (by kernel_rfl) (Below.refl _ _).drew (fun hHeld => ?_)
          obtain ⟨Z, hZ⟩ : ∃ Z, Z = W0.drew := ⟨_, rfl⟩
          rw [← hZ] at hHeld ⊢
          clear hZ
          refine take_do (i := 0) (v := (.slice (some ⟨hb', 0, none⟩) hn hk)) rfl (by kernel_rfl) (by kernel_rfl) (by kernel_rfl) (fun _ _ _ h => h) (by rfl) ?_ (by assumption) ?_
          · intro w hSw
            skip
            go_simp
          simp only [Act.put, List.setIfInBounds_toArray, List.set_cons_zero, List.set_cons_succ]
          refine take_do (i := 1) (v := (.pointer (some ⟨gl, 0, none⟩))) rfl (by kernel_rfl) (by kernel_rfl) (by kernel_rfl) (fun _ _ _ h => h) (by rfl) ?_ (by assumption) ?_
          · intro w hSw
            skip
            go_simp
          simp only [Act.put, List.setIfInBounds_toArray, List.set_cons_zero, List.set_cons_succ]
          refine take_do (i := 2) (v := (.int .i64 (Nt.fr n i : Nat))) rfl (by kernel_rfl) (by kernel_rfl) (by kernel_rfl) (fun _ _ _ h => h) (by rfl) ?_ (by assumption) ?_
          · intro w hSw
            obtain ⟨⟨x0, x1, x2⟩, _⟩ := rowN3 (nrow_below RL.out hSw)
            go_simp
          simp only [Act.put, List.setIfInBounds_toArray, List.set_cons_zero, List.set_cons_succ]
          refine take_do (i := 3) (v := (.pointer (some ⟨hb', Nt.fr n i * 2, none⟩))) rfl (by kernel_rfl) (by kernel_rfl) (by kernel_rfl) (fun _ _ _ h => h) (by rfl) ?_ (by assumption) ?_
          · intro w hSw
            skip
            go_simp
          simp only [Act.put, List.setIfInBounds_toArray, List.set_cons_zero, List.set_cons_succ]
          refine take_do (i := 4) (v := (frV (Nt.hd hf (Nt.fr n i)))) rfl (by kernel_rfl) (by kernel_rfl) (by kernel_rfl) (fun _ _ _ h => h) (by rfl) ?_ (by assumption) ?_
          · intro w hSw
            have y0 := (hSw.cell (p := ⟨hb', Nt.fr n i * 2, none⟩) D.out.2.2.2.2).trans D.out.1; have y1 := (hSw.cell (p := ⟨hb', Nt.fr n i * 2 + 1, none⟩) D.out.2.2.2.2).trans D.out.2.1; have y2 := (hSw.cell (p := ⟨hb', Nt.tt n i * 2, none⟩) D.out.2.2.2.2).trans D.out.2.2.1; have y3 := (hSw.cell (p := ⟨hb', Nt.tt n i * 2 + 1, none⟩) D.out.2.2.2.2).trans D.out.2.2.2.1
            go_simp
          simp only [Act.put, List.setIfInBounds_toArray, List.set_cons_zero, List.set_cons_succ]
          refine take_do (i := 5) (v := (.slice (some ⟨hb', 0, none⟩) hn hk)) rfl (by kernel_rfl) (by kernel_rfl) (by kernel_rfl) (fun _ _ _ h => h) (by rfl) ?_ (by assumption) ?_
          · intro w hSw
            skip
            go_simp
          simp only [Act.put, List.setIfInBounds_toArray, List.set_cons_zero, List.set_cons_succ]
          refine take_do (i := 6) (v := (.pointer (some ⟨gl, 1, none⟩))) rfl (by kernel_rfl) (by kernel_rfl) (by kernel_rfl) (fun _ _ _ h => h) (by rfl) ?_ (by assumption) ?_
          · intro w hSw
            skip
            go_simp
          simp only [Act.put, List.setIfInBounds_toArray, List.set_cons_zero, List.set_cons_succ]
          refine take_do (i := 7) (v := (.int .i64 (Nt.tt n i : Nat))) rfl (by kernel_rfl) (by kernel_rfl) (by kernel_rfl) (fun _ _ _ h => h) (by rfl) ?_ (by assumption) ?_
          · intro w hSw
            obtain ⟨⟨x0, x1, x2⟩, _⟩ := rowN3 (nrow_below RL.out hSw)
            go_simp
          simp only [Act.put, List.setIfInBounds_toArray, List.set_cons_zero, List.set_cons_succ]
          refine take_do (i := 8) (v := (.pointer (some ⟨hb', Nt.tt n i * 2, none⟩))) rfl (by kernel_rfl) (by kernel_rfl) (by kernel_rfl) (fun _ _ _ h => h) (by rfl) ?_ (by assumption) ?_
          · intro w hSw
            skip
            go_simp
          simp only [Act.put, List.setIfInBounds_toArray, List.set_cons_zero, List.set_cons_succ]
          refine take_do (i := 9) (v := (frV (Nt.hd hf (Nt.tt n i)))) rfl (by kernel_rfl) (by kernel_rfl) (by kernel_rfl) (fun _ _ _ h => h) (by rfl) ?_ (by assumption) ?_
          · intro w hSw
            have y0 := (hSw.cell (p := ⟨hb', Nt.fr n i * 2, none⟩) D.out.2.2.2.2).trans D.out.1; have y1 := (hSw.cell (p := ⟨hb', Nt.fr n i * 2 + 1, none⟩) D.out.2.2.2.2).trans D.out.2.1; have y2 := (hSw.cell (p := ⟨hb', Nt.tt n i * 2, none⟩) D.out.2.2.2.2).trans D.out.2.2.1; have y3 := (hSw.cell (p := ⟨hb', Nt.tt n i * 2 + 1, none⟩) D.out.2.2.2.2).trans D.out.2.2.2.1
            go_simp
          simp only [Act.put, List.setIfInBounds_toArray, List.set_cons_zero, List.set_cons_succ]
          refine wpAnyH_ready (rs := [10, 12]) (by kernel_rfl) (by simp) (AllReadyH.cons (at_drop (i := 10) rfl) (fun K2 hK => ?_) (AllReadyH.cons (at_drop (i := 12) rfl) (fun K2 hK => ?_) (AllReadyH.nil)))
          · go_simp
            refine (nimplSub _ _ _ (HF.out.fr hlt) (HF.out.tt hlt) (GW.out.below hHeld)).mono ?_
            rintro e Z8 ⟨rfl, hb⟩
            go_wp2_with fail
            refine hK.out _ _ (hHeld.trans (hb.mono hHeld.size)) (fun hHeld2 => ?_)
            clear hK hHeld
            have hHeld := hHeld2
            clear hHeld2
            clear hb
            refine wpAnyH_ready (rs := [11, 12]) (by kernel_rfl) (by simp) (AllReadyH.cons (at_drop (i := 11) rfl) (fun K2 hK => ?_) (AllReadyH.cons (at_drop (i := 12) rfl) (fun K2 hK => ?_) (AllReadyH.nil)))
            · go_simp
              have HV := Lib.hid (sure_ok (Fq.val (Nt.dq n hf i)).1 (Fq.val (Nt.dq n hf i)).2)
              rw [← HD.out] at HV
              refine (HV.out _).mono ?_
              rintro e Z9 ⟨rfl, hb⟩
              clear HV
              go_wp2_with fail
              refine hK.out _ _ (hHeld.trans (hb.mono hHeld.size)) (fun hHeld2 => ?_)
              clear hK hHeld
              have hHeld := hHeld2
              clear hHeld2
              clear hb
              refine take_call (i := 12) rfl (by kernel_rfl) (fun K2 hK => ?_)
              obtain ⟨Z10, hZ10⟩ : ∃ Z10, Z10 = Z9.alloc (.cells #[.int .i64 0, .int .i64 0] 35) := ⟨_, rfl⟩
              have hb : Below Z9.heap.size Z9 Z10 := by rw [hZ10]; exact nbel_alloc _ _
              obtain ⟨gb, hgb⟩ : ∃ gb, gb = Z9.heap.size := ⟨_, rfl⟩
              have RZ : Hid (Z10.rowIs gb 35 2 (rowN [.int .i64 0, .int .i64 0])) := by show World.rowIs _ _ _ _ _; rw [hZ10, hgb]; exact rowN_alloc _ _ _
              have HGB : Hid (W0.heap.size ≤ gb) := by show _ ≤ _; rw [hgb]; exact hHeld.size
              go_simp
              rw [← hZ10, ← hgb]
              refine hK.out _ _ (hHeld.trans (hb.mono hHeld.size)) (fun hHeld2 => ?_)
              clear hK hHeld
              have hHeld := hHeld2
              clear hHeld2
              clear hb hZ10 hgb
              have o0 := RZ.out.cell (i := 0) (by omega)
              have z0 := RZ.out.frozen 0
              have o1 := RZ.out.cell (i := 1) (by omega)
              have z1 := RZ.out.frozen 1
              have l0 := RZ.out.lt
              obtain ⟨WZ, hWZ⟩ : ∃ WZ, WZ = ((Z10.setCell ⟨gb, 0, none⟩ (.int .i64 (Fq.val (Nt.dq n hf i)).1)).setCell ⟨gb, 1, none⟩ (.int .i64 (Fq.val (Nt.dq n hf i)).2)) := ⟨_, rfl⟩
              have hbZ : Below W0.heap.size W0 WZ := by rw [hWZ]; exact ((hHeld.setCell (p := ⟨gb, 0, none⟩) HGB.out _).setCell (p := ⟨gb, 1, none⟩) HGB.out _)
              have HFM : Hid (WZ.rowIs gb 35 2 (rowN [.int .i64 (Fq.val (Nt.dq n hf i)).1, .int .i64 (Fq.val (Nt.dq n hf i)).2])) := by show World.rowIs _ _ _ _ _; rw [hWZ]; exact (rowN_put (rowN_put RZ.out 0 (.int .i64 (Fq.val (Nt.dq n hf i)).1) (by simp)) 1 (.int .i64 (Fq.val (Nt.dq n hf i)).2) (by simp))
              have HWZ := Lib.hid hWZ
              have HBZ := Lib.hid hbZ
              clear hWZ hbZ
              refine take_call (i := 13) rfl (by kernel_rfl) (fun K2 hK => ?_)
              go_simp
              rw [← HWZ.out]
              refine hK.out _ _ HBZ.out (fun hHeld2 => ?_)
              clear hK hHeld hHeld2 HWZ o0 z0 o1 z1 l0
              refine wpAnyH_done (by kernel_rfl) ?_ _
              go_wp2_with fail
              go_meet
              case rel => exact ⟨gb, rfl, HFM.out, HBZ.out, HGB.out⟩
            · obtain ⟨Z11, hZ11⟩ : ∃ Z11, Z11 = Z8.alloc (.cells #[.int .i64 0, .int .i64 0] 35) := ⟨_, rfl⟩
              have hb : Below Z8.heap.size Z8 Z11 := by rw [hZ11]; exact nbel_alloc _ _
              obtain ⟨gb, hgb⟩ : ∃ gb, gb = Z8.heap.size := ⟨_, rfl⟩
              have RZ : Hid (Z11.rowIs gb 35 2 (rowN [.int .i64 0, .int .i64 0])) := by show World.rowIs _ _ _ _ _; rw [hZ11, hgb]; exact rowN_alloc _ _ _
              have HGB : Hid (W0.heap.size ≤ gb) := by show _ ≤ _; rw [hgb]; exact hHeld.size
              go_simp
              rw [← hZ11, ← hgb]
              refine hK.out _ _ (hHeld.trans (hb.mono hHeld.size)) (fun hHeld2 => ?_)
              clear hK hHeld
              have hHeld := hHeld2
              clear hHeld2
              clear hb hZ11 hgb
              refine take_call (i := 11) rfl (by kernel_rfl) (fun K2 hK => ?_)
              go_simp
              have HV := Lib.hid (sure_ok (Fq.val (Nt.dq n hf i)).1 (Fq.val (Nt.dq n hf i)).2)
              rw [← HD.out] at HV
              refine (HV.out _).mono ?_
              rintro e Z12 ⟨rfl, hb⟩
              clear HV
              replace RZ := Lib.hid (nrow_below RZ.out hb)
              go_wp2_with fail
              refine hK.out _ _ (hHeld.trans (hb.mono hHeld.size)) (fun hHeld2 => ?_)
              clear hK hHeld
              have hHeld := hHeld2
              clear hHeld2
              clear hb
              have o0 := RZ.out.cell (i := 0) (by omega)
              have z0 := RZ.out.frozen 0
              have o1 := RZ.out.cell (i := 1) (by omega)
              have z1 := RZ.out.frozen 1
              have l0 := RZ.out.lt
              obtain ⟨WZ, hWZ⟩ : ∃ WZ, WZ = ((Z12.setCell ⟨gb, 0, none⟩ (.int .i64 (Fq.val (Nt.dq n hf i)).1)).setCell ⟨gb, 1, none⟩ (.int .i64 (Fq.val (Nt.dq n hf i)).2)) := ⟨_, rfl⟩
              have hbZ : Below W0.heap.size W0 WZ := by rw [hWZ]; exact ((hHeld.setCell (p := ⟨gb, 0, none⟩) HGB.out _).setCell (p := ⟨gb, 1, none⟩) HGB.out _)
              have HFM : Hid (WZ.rowIs gb 35 2 (rowN [.int .i64 (Fq.val (Nt.dq n hf i)).1, .int .i64 (Fq.val (Nt.dq n hf i)).2])) := by show World.rowIs _ _ _ _ _; rw [hWZ]; exact (rowN_put (rowN_put RZ.out 0 (.int .i64 (Fq.val (Nt.dq n hf i)).1) (by simp)) 1 (.int .i64 (Fq.val (Nt.dq n hf i)).2) (by simp))
              have HWZ := Lib.hid hWZ
              have HBZ := Lib.hid hbZ
              clear hWZ hbZ
              refine take_call (i := 13) rfl (by kernel_rfl) (fun K2 hK => ?_)
              go_simp
              rw [← HWZ.out]
              refine hK.out _ _ HBZ.out (fun hHeld2 => ?_)
              clear hK hHeld hHeld2 HWZ o0 z0 o1 z1 l0
              refine wpAnyH_done (by kernel_rfl) ?_ _
              go_wp2_with fail
              go_meet
              case rel => exact ⟨gb, rfl, HFM.out, HBZ.out, HGB.out⟩
          · obtain ⟨Z13, hZ13⟩ : ∃ Z13, Z13 = Z.alloc (.cells #[.int .i64 0, .int .i64 0] 35) := ⟨_, rfl⟩
            have hb : Below Z.heap.size Z Z13 := by rw [hZ13]; exact nbel_alloc _ _
            obtain ⟨gb, hgb⟩ : ∃ gb, gb = Z.heap.size := ⟨_, rfl⟩
            have RZ : Hid (Z13.rowIs gb 35 2 (rowN [.int .i64 0, .int .i64 0])) := by show World.rowIs _ _ _ _ _; rw [hZ13, hgb]; exact rowN_alloc _ _ _
            have HGB : Hid (W0.heap.size ≤ gb) := by show _ ≤ _; rw [hgb]; exact hHeld.size
            go_simp
            rw [← hZ13, ← hgb]
            refine hK.out _ _ (hHeld.trans (hb.mono hHeld.size)) (fun hHeld2 => ?_)
            clear hK hHeld
            have hHeld := hHeld2
            clear hHeld2
            clear hb hZ13 hgb
            refine take_call (i := 10) rfl (by kernel_rfl) (fun K2 hK => ?_)
            go_simp
            refine (nimplSub _ _ _ (HF.out.fr hlt) (HF.out.tt hlt) (GW.out.below hHeld)).mono ?_
            rintro e Z14 ⟨rfl, hb⟩
            replace RZ := Lib.hid (nrow_below RZ.out hb)
            go_wp2_with fail
            refine hK.out _ _ (hHeld.trans (hb.mono hHeld.size)) (fun hHeld2 => ?_)
            clear hK hHeld
            have hHeld := hHeld2
            clear hHeld2
            clear hb
            refine take_call (i := 11) rfl (by kernel_rfl) (fun K2 hK => ?_)
            go_simp
            have HV := Lib.hid (sure_ok (Fq.val (Nt.dq n hf i)).1 (Fq.val (Nt.dq n hf i)).2)
            rw [← HD.out] at HV
            refine (HV.out _).mono ?_
            rintro e Z15 ⟨rfl, hb⟩
            clear HV
            replace RZ := Lib.hid (nrow_below RZ.out hb)
            go_wp2_with fail
            refine hK.out _ _ (hHeld.trans (hb.mono hHeld.size)) (fun hHeld2 => ?_)
            clear hK hHeld
            have hHeld := hHeld2
            clear hHeld2
            clear hb
            have o0 := RZ.out.cell (i := 0) (by omega)
            have z0 := RZ.out.frozen 0
            have o1 := RZ.out.cell (i := 1) (by omega)
            have z1 := RZ.out.frozen 1
            have l0 := RZ.out.lt
            obtain ⟨WZ, hWZ⟩ : ∃ WZ, WZ = ((Z15.setCell ⟨gb, 0, none⟩ (.int .i64 (Fq.val (Nt.dq n hf i)).1)).setCell ⟨gb, 1, none⟩ (.int .i64 (Fq.val (Nt.dq n hf i)).2)) := ⟨_, rfl⟩
            have hbZ : Below W0.heap.size W0 WZ := by rw [hWZ]; exact ((hHeld.setCell (p := ⟨gb, 0, none⟩) HGB.out _).setCell (p := ⟨gb, 1, none⟩) HGB.out _)
            have HFM : Hid (WZ.rowIs gb 35 2 (rowN [.int .i64 (Fq.val (Nt.dq n hf i)).1, .int .i64 (Fq.val (Nt.dq n hf i)).2])) := by show World.rowIs _ _ _ _ _; rw [hWZ]; exact (rowN_put (rowN_put RZ.out 0 (.int .i64 (Fq.val (Nt.dq n hf i)).1) (by simp)) 1 (.int .i64 (Fq.val (Nt.dq n hf i)).2) (by simp))
            have HWZ := Lib.hid hWZ
            have HBZ := Lib.hid hbZ
            clear hWZ hbZ
            refine take_call (i := 13) rfl (by kernel_rfl) (fun K2 hK => ?_)
            go_simp
            rw [← HWZ.out]
            refine hK.out _ _ HBZ.out (fun hHeld2 => ?_)
            clear hK hHeld hHeld2 HWZ o0 z0 o1 z1 l0
            refine wpAnyH_done (by kernel_rfl) ?_ _
            go_wp2_with fail
            go_meet
            case rel => exact ⟨gb, rfl, HFM.out, HBZ.out, HGB.out⟩
        case rest =>
        obtain ⟨gb, rfl, hC⟩ := hcut
        obtain ⟨V0, hV0⟩ : ∃ V0, V0 = wc := ⟨_, rfl⟩
        rw [← hV0] at hC ⊢
        clear hV0
        have SV := Lib.hid (SW.out.below hC.out.2.1)
        have GV := Lib.hid (GW.out.below hC.out.2.1)
        have NE : Hid (g ≠ gl ∧ g ≠ gb ∧ gl ≠ gb) := by
          have h1 := HGL.out
          have h2 := RL.out.lt
          have h3 := hC.out.2.2
          exact ⟨by omega, by omega, by omega⟩
        have T0 : Hid (StpS w gl gb [.int .i64 (Nt.fr n i : Nat), .int .i64 (Nt.tt n i : Nat), .int .i64 (n.L (i * 3 + 2))] [.int .i64 (Fq.val (Nt.dq n hf i)).1, .int .i64 (Fq.val (Nt.dq n hf i)).2] V0) := ⟨SV.out.old, nrow_below RL.out hC.out.2.1, hC.out.1⟩
        have RG := Lib.hid (Nt.gq_right HF.out.r hlt)
        have GZ := Lib.hid (HF.out.r.l i hlt).2.2.2
        clear hC SW RL D GW HGL HW0
        go_wp2_with fail
        refine wp_region_held_drew (S := StpS w gl gb [.int .i64 (Nt.fr n i : Nat), .int .i64 (Nt.tt n i : Nat), .int .i64 (n.L (i * 3 + 2))] [.int .i64 (Fq.val (Nt.dq n hf i)).1, .int .i64 (Fq.val (Nt.dq n hf i)).2]) (by kernel_rfl) (T0.out.below (Below.refl _ _).drew) (fun hHeld => ?_)
        obtain ⟨Z, hZ⟩ : ∃ Z, Z = V0.drew := ⟨_, rfl⟩
        replace SV : Hid (FlS n (some ⟨b, 0, none⟩) lk fa fk wa wk g i (Nt.cells2 (Nt.flv n hf)) w Z) := by rw [hZ]; exact SV.out.below (Below.refl _ _).drew
        replace GV : Hid (NEt Z) := by rw [hZ]; exact GV.out.below (Below.refl _ _).drew
        rw [← hZ] at hHeld ⊢
        clear hZ T0
        refine take_do (i := 0) (v := (.slice (some ⟨g, 0, none⟩) n.ln n.ln)) rfl (by kernel_rfl) (by kernel_rfl) (by kernel_rfl) (fun _ _ _ h => h) (by rfl) ?_ (by assumption) ?_
        · intro w hSw
          skip
          go_simp
        simp only [Act.put, List.setIfInBounds_toArray, List.set_cons_zero, List.set_cons_succ]
        refine take_do (i := 1) (v := (.int .i64 i)) rfl (by kernel_rfl) (by kernel_rfl) (by kernel_rfl) (fun _ _ _ h => h) (by rfl) ?_ (by assumption) ?_
        · intro w hSw
          skip
          go_simp
        simp only [Act.put, List.setIfInBounds_toArray, List.set_cons_zero, List.set_cons_succ]
        refine take_do (i := 2) (v := (.pointer (some ⟨gl, 2, none⟩))) rfl (by kernel_rfl) (by kernel_rfl) (by kernel_rfl) (fun _ _ _ h => h) (by rfl) ?_ (by assumption) ?_
        · intro w hSw
          skip
          go_simp
        simp only [Act.put, List.setIfInBounds_toArray, List.set_cons_zero, List.set_cons_succ]
        refine take_do (i := 3) (v := (.int .i64 (n.L (i * 3 + 2)))) rfl (by kernel_rfl) (by kernel_rfl) (by kernel_rfl) (fun _ _ _ h => h) (by rfl) ?_ (by assumption) ?_
        · intro w hSw
          obtain ⟨⟨x0, x1, x2⟩, _⟩ := rowN3 hSw.2.1
          go_simp
        simp only [Act.put, List.setIfInBounds_toArray, List.set_cons_zero, List.set_cons_succ]
        refine take_do (i := 5) (v := (frV (Fq.val (Nt.dq n hf i)))) rfl (by kernel_rfl) (by kernel_rfl) (by kernel_rfl) (fun _ _ _ h => h) (by rfl) ?_ (by assumption) ?_
        · intro w hSw
          obtain ⟨⟨y0, y1⟩, _⟩ := rowN2 hSw.2.2
          go_simp
        simp only [Act.put, List.setIfInBounds_toArray, List.set_cons_zero, List.set_cons_succ]
        refine take_call (i := 4) rfl (by kernel_rfl) (fun K2 hK => ?_)
        go_simp
        refine (whole_any (n.L (i * 3 + 2)) _ (by have := GZ.out; omega) (by have := GZ.out; omega) GV.out).mono ?_
        rintro e Q1 ⟨rfl, hb⟩
        have SV1 := Lib.hid (SV.out.below hb)
        have GV1 := Lib.hid (GV.out.below hb)
        go_wp2_with fail
        refine hK.out _ _ (hHeld.below hb) (fun hHeld2 => ?_)
        clear hK hHeld hb SV GV
        have hHeld := hHeld2
        clear hHeld2
        refine take_call (i := 6) rfl (by kernel_rfl) (fun K2 hK => ?_)
        go_simp
        refine (nimplMul (Nt.gq n i) _ _ RG.out RD.out GV1.out).mono ?_
        rintro e Q2 ⟨rfl, hb⟩
        have SV2 := Lib.hid (SV1.out.below hb)
        have GV2 := Lib.hid (GV1.out.below hb)
        go_wp2_with fail
        refine hK.out _ _ (hHeld.below hb) (fun hHeld2 => ?_)
        clear hK hHeld hb SV1 GV1
        have hHeld := hHeld2
        clear hHeld2
        by_cases hm2 : Fq.code (Nt.mq n hf i) = 0
        case neg =>
          have HC := Lib.hid (Nt.flCode_5 h4 HF.out hlt (fun k => hm2 k.2))
          have h5 := (Fq.code_or (Fq.mul_fit RG.out RD.out).1).resolve_left hm2
          have HM := Lib.hid hm2
          have H5 := Lib.hid h5
          clear hm2 h5
          refine take_call (i := 7) rfl (by kernel_rfl) (fun K2 hK => ?_)
          go_simp
          refine (sure_bad _ _ _ HM.out _).mono ?_
          rintro e Q3 ⟨⟨s, rfl⟩, hb⟩
          go_wp2_with fail
          exact ⟨rfl, Or.inr ⟨by rw [HC.out]; decide, s, by rw [HC.out]; rw [← H5.out]; rfl⟩, SV2.out.old.trans (hb.mono SV2.out.old.size)⟩
        case pos =>
          have HM := Lib.hid hm2
          clear hm2
          refine take_call (i := 7) rfl (by kernel_rfl) (fun K2 hK => ?_)
          go_simp
          have HV := Lib.hid (sure_ok (Fq.val (Nt.mq n hf i)).1 (Fq.val (Nt.mq n hf i)).2)
          rw [← HM.out] at HV
          refine (HV.out _).mono ?_
          rintro e Q3 ⟨rfl, hb⟩
          clear HV
          have SV3 := Lib.hid (SV2.out.below hb)
          have GV3 := Lib.hid (GV2.out.below hb)
          go_wp2_with fail
          refine hK.out _ _ (hHeld.below hb) (fun hHeld2 => ?_)
          clear hK hHeld hb SV2 GV2
          have hHeld := hHeld2
          clear hHeld2
          refine take_do (i := 8) (v := (.pointer (some ⟨g, i * 2, none⟩))) rfl (by kernel_rfl) (by kernel_rfl) (by kernel_rfl) (fun _ _ _ h => h) (by rfl) ?_ (by assumption) ?_
          · intro w hSw
            skip
            go_simp
          simp only [Act.put, List.setIfInBounds_toArray, List.set_cons_zero, List.set_cons_succ]
          obtain ⟨v0, o0⟩ := SV3.out.part.cell (j := i * 2) (by omega)
          obtain ⟨v1, o1⟩ := SV3.out.part.cell (j := i * 2 + 1) (by omega)
          have z0 := SV3.out.part.frozen (i * 2)
          have z1 := SV3.out.part.frozen (i * 2 + 1)
          have l0 := SV3.out.part.lt
          obtain ⟨WZ, hWZ⟩ : ∃ WZ, WZ = (Q3.setCell ⟨g, i * 2, none⟩ (.int .i64 (Fq.val (Nt.mq n hf i)).1)).setCell ⟨g, i * 2 + 1, none⟩ (.int .i64 (Fq.val (Nt.mq n hf i)).2) := ⟨_, rfl⟩
          have hlo := SV3.out.lo
          have hne := NE.out
          have same : ∀ k, k ≠ g → WZ.heap[k]? = Q3.heap[k]? := fun k hk => by rw [hWZ]; exact (Below.heap_setCell _ ⟨g, i * 2 + 1, none⟩ _ _ hk).trans (Below.heap_setCell _ ⟨g, i * 2, none⟩ _ _ hk)
          have bz : Below w.heap.size w WZ := by rw [hWZ]; exact (SV3.out.old.setCell (p := ⟨g, i * 2, none⟩) (by show w.heap.size ≤ g; omega) _).setCell (p := ⟨g, i * 2 + 1, none⟩) (by show w.heap.size ≤ g; omega) _
          have SZ : Hid (FlS n (some ⟨b, 0, none⟩) lk fa fk wa wk g (i + 1) (Nt.cells2 (Nt.flv n hf)) w WZ) := by
            refine ⟨SV3.out.row.of_block (same _ (by omega)), bz, ?_, hlo⟩
            rw [Nat.succ_mul, hWZ]
            exact (SV3.out.part.put _ (Nt.cells2_0 (Nt.flv n hf) i).symm).put _ (Nt.cells2_1 (Nt.flv n hf) i).symm
          have TZ : Hid (StpS w gl gb [.int .i64 (Nt.fr n i : Nat), .int .i64 (Nt.tt n i : Nat), .int .i64 (n.L (i * 3 + 2))] [.int .i64 (Fq.val (Nt.dq n hf i)).1, .int .i64 (Fq.val (Nt.dq n hf i)).2] WZ) := ⟨bz, hHeld.2.1.of_block (same _ (Ne.symm hne.1)), hHeld.2.2.of_block (same _ (Ne.symm hne.2.1))⟩
          have HWZ := Lib.hid hWZ
          clear hWZ same bz hne
          refine take_call (i := 9) rfl (by kernel_rfl) (fun K2 hK => ?_)
          go_simp
          rw [← HWZ.out]
          refine hK.out _ _ TZ.out (fun hHeld2 => ?_)
          clear hK hHeld hHeld2 HWZ o0 o1 z0 z1 l0 SV3 GV3
          refine wpAnyH_done (by kernel_rfl) ?_ _
          go_wp2_with fail
          go_roundw
          case rel =>
            refine ⟨i + 1, by omega, by go_num, SZ, fun j hj => ?_⟩
            by_cases ej : j = i
            · subst ej; exact ⟨HD.out, HM.out⟩
            · exact hP.out j (by omega)
          case measure => simp [intOf]; omega
    · obtain rfl : i = n.ln := by omega
      have HC := Lib.hid (Nt.flCode_0 h4 HF.out hP.out)
      go_wp2_with fail
      go_ret
      exact ⟨Or.inl ⟨HC.out, g, _, rfl, by have := hS.out.lo; omega, hS.out.part.full (Nat.le_refl _)⟩, hS.out.old⟩
end Go.Proofs.YtljdkclbmmglpaaGreatDoor
