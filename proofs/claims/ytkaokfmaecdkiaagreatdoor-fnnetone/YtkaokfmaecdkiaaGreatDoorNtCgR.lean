/-
  Joined: NtFl2, NtFl3, NtRe2, NtRe3, NtRe4.
-/
import Derived.Test.YtkaokfmaecdkiaaGreatDoorNtFl1
import Derived.Test.YtkaokfmaecdkiaaGreatDoorNtSp
import Derived.Test.YtkaokfmaecdkiaaGreatDoorNtS1
import Derived.Deep.AppendLies
import Derived.Test.YtkaokfmaecdkiaaGreatDoorNtReM
namespace Go.Proofs.YtkaokfmaecdkiaaGreatDoor
open Go.RowKit Go.Deep

/-- What stands from link to link. -/
structure FlS (n : Nt.Net) (la : Option Addr) (lk : Nat) (fa : Option Addr) (fk : Nat) (wa : Option Addr) (wk g i : Nat) (f : Nat → Int) (w W : World) : Prop where
  row : W.rowIs w.heap.size 27 4 (rowN (ntL n la lk fa fk wa wk))
  old : Below w.heap.size w W
  part : IsPart 35 g (n.ln * 2) (i * 2) f W
  lo : w.heap.size < g
theorem FlS.below {n : Nt.Net} {la : Option Addr} {lk : Nat} {fa : Option Addr} {fk : Nat} {wa : Option Addr} {wk g i : Nat} {f : Nat → Int} {w W W' : World} (h : FlS n la lk fa fk wa wk g i f w W) (hb : Below W.heap.size W W') : FlS n la lk fa fk wa wk g i f w W' :=
  ⟨nrow_below h.row hb, h.old.trans (hb.mono h.old.size), h.part.block (hb.block _ h.part.lt), h.lo⟩
/-- The link's block and the fall's, which a step reads. -/
def StpS (w : World) (gl gb : Nat) (L D : List Value) (V : World) : Prop := Below w.heap.size w V ∧ V.rowIs gl 68 3 (rowN L) ∧ V.rowIs gb 35 2 (rowN D)
theorem StpS.below {w : World} {gl gb : Nat} {L D : List Value} {V V' : World} (h : StpS w gl gb L D V) (hb : Below V.heap.size V V') : StpS w gl gb L D V' := ⟨h.1.trans (hb.mono h.1.size), nrow_below h.2.1 hb, nrow_below h.2.2 hb⟩
set_option maxRecDepth 100000 in
set_option maxHeartbeats 16000000 in
theorem netFlows_any (n : Nt.Net) (la : Option Addr) (lk : Nat) (fa : Option Addr) (fk : Nat) (wa : Option Addr) (wk : Nat) (ha : Option Addr) (hn hk : Nat) (hf : Nat → Int) (w : World) (h : NtAt n la fa wa w) (hs : NtSmall n) (hh : IsAt ha (hn * 2) hf w) (hb0 : NBd hf) (hm : hn ≤ 1048576) (hg : NEt w) :
    Calls Tryz.prog 68 #[ntV n la lk fa fk wa wk, .slice ha hn hk] w fun e w' => Reck w.heap.size (Nt.flCode n hn hf) n.ln (Nt.cells2 (Nt.flv n hf)) e w' ∧ Below w.heap.size w w' := by
  have HA := Lib.hid h
  have HH := Lib.hid hh
  have HBD := Lib.hid hb0
  have HG := Lib.hid hg
  have HSM := Lib.hid hs
  obtain ⟨W, hW⟩ : ∃ W, W = w.alloc (.cells #[.int .i64 n.nodes, .slice la n.ln lk, .slice fa n.fn fk, .slice wa n.wn wk] 27) := ⟨_, rfl⟩
  have S0 : Hid (NtS 27 n la lk fa fk wa wk w W) := by rw [hW]; exact NtS.new _ h
  have HW := Lib.hid hW
  clear h hh hb0 hg hs hW
  by_cases h4 : 400 < hn
  · have h4z : (400 : Int) < (hn : Int) := by omega
    have HC := Lib.hid (Nt.flCode_2 (n := n) (hf := hf) h4)
    go_enter Tryz.func68, Tryz.ntmps68
    go_wp2_with fail
    rw [← HW.out]
    exact ⟨rfl, Or.inr ⟨by rw [HC.out]; decide, _, by rw [HC.out]⟩, S0.out.old⟩
  have h4z : ¬ (400 : Int) < (hn : Int) := by omega
  go_enter Tryz.func68, Tryz.ntmps68
  go_wp2_with fail
  rw [← HW.out]
  refine (implNet_any n la lk fa fk wa wk _ S0.out.at_ HSM.out).mono ?_
  rintro e w1 ⟨⟨b1, rfl, hb1⟩, hb⟩
  have S1 := Lib.hid (S0.out.below hb)
  have E1 := Lib.hid hb1
  clear hb hb1 S0
  obtain ⟨⟨r0, r1, r2, r3⟩, _⟩ := rowN4 S1.out.row
  cases b1 with
  | false =>
    have HC := Lib.hid (Nt.flCode_1 (n := n) (hn := hn) (hf := hf) h4 (fun k => by have := E1.out.2 k.r; cases this))
    go_wp2_with fail
    exact ⟨rfl, Or.inr ⟨by rw [HC.out]; decide, _, by rw [HC.out]⟩, S1.out.old⟩
  | true =>
  go_wp2_with fail
  refine (heads_any ha hn hk hf n.nodes _ (HH.out.below S1.out.old) HBD.out hm).mono ?_
  rintro e w2 ⟨⟨b2, rfl, hb2⟩, hb⟩
  have S2 := Lib.hid (S1.out.below hb)
  have E2 := Lib.hid hb2
  clear hb hb2 S1 r0 r1 r2 r3
  cases b2 with
  | false =>
    have HC := Lib.hid (Nt.flCode_1 (n := n) (hn := hn) (hf := hf) h4 (fun k => by have := E2.out.2 ⟨k.ok, k.len⟩; cases this))
    go_wp2_with fail
    exact ⟨rfl, Or.inr ⟨by rw [HC.out]; decide, _, by rw [HC.out]⟩, S2.out.old⟩
  | true =>
  have HF : Hid (Nt.FlFit n hn hf) := ⟨E1.out.1 (by trivial), (E2.out.1 (by trivial)).2, (E2.out.1 (by trivial)).1⟩
  clear E1 E2
  have hln := HF.out.r.ln
  have hmk := nmk_Frac n.ln (by omega)
  obtain ⟨⟨r0, r1, r2, r3⟩, _⟩ := rowN4 S2.out.row
  have S3 : Hid (FlS n la lk fa fk wa wk w2.heap.size 0 (Nt.cells2 (Nt.flv n hf)) w (w2.alloc (.cells (madeCells #[.int .i64 0, .int .i64 0] (n.ln * 2)) 35))) :=
    ⟨nrow_below S2.out.row (nbel_alloc _ _), S2.out.old.alloc S2.out.old.size _, ⟨_, made_is _ _ w2 _ (by intro i hi; simp at hi; have : i = 0 ∨ i = 1 := (by omega); rcases this with rfl | rfl <;> rfl) (by simp), fun j hj => absurd hj (by omega)⟩, S2.out.row.lt⟩
  have zw : w.heap.size < w2.heap.size := S2.out.row.lt
  go_wp2_with fail
  clear hmk r0 r1 r2 r3 S2
  generalize w2.heap.size = g at *
  go_loopw [37] (fun iv wr => ∃ (i : Nat), i ≤ n.ln ∧ iv = .int .i64 i ∧ Hid (FlS n la lk fa fk wa wk g i (Nt.cells2 (Nt.flv n hf)) w wr) ∧ Hid (∀ j, j < i → Nt.flOk n hf j)) (fun iv _ => n.ln - (intOf iv).toNat)
  case atStart => exact ⟨0, Nat.zero_le _, rfl, S3, fun j hj => absurd hj (Nat.not_lt_zero _)⟩
  case round =>
    obtain ⟨i, hi, rfl, hS, hP⟩ := hrel
    clear S3
    by_cases hlt : i < n.ln
    · have hltz : (i : Int) < (n.ln : Int) := by omega
      obtain ⟨b, e, c0, c1, c2⟩ := (HA.out.below hS.out.old).l.at3 hlt
      have HLA := Lib.hid e
      obtain ⟨ef, hfr⟩ := HF.out.r.fr hlt
      obtain ⟨et, htt⟩ := HF.out.r.tt hlt
      have hnn := HF.out.nn
      rw [ef] at c0
      rw [et] at c1
      obtain ⟨hb, eh, d0, d1⟩ := (HH.out.below hS.out.old).at2 (i := Nt.fr n i) (by omega)
      obtain ⟨hb', eh', d2, d3⟩ := (HH.out.below hS.out.old).at2 (i := Nt.tt n i) (by omega)
      obtain rfl : hb' = hb := by rw [eh] at eh'; cases eh'; rfl
      have HHA := Lib.hid eh
      have zb : b < wr.heap.size := World.block_lt_of_cell? _ _ c0
      have zh : hb' < wr.heap.size := World.block_lt_of_cell? _ _ d0
      subst e eh
      clear eh' ef et
      obtain ⟨W0, hW0⟩ : ∃ W0, W0 = wr.alloc (.cells #[.int .i64 (Nt.fr n i : Nat), .int .i64 (Nt.tt n i : Nat), .int .i64 (n.L (i * 3 + 2))] 68) := ⟨_, rfl⟩
      have SW : Hid (FlS n (some ⟨b, 0, none⟩) lk fa fk wa wk g i (Nt.cells2 (Nt.flv n hf)) w W0) := by rw [hW0]; exact hS.out.below (nbel_alloc _ _)
      have RL : Hid (W0.rowIs wr.heap.size 68 3 (rowN [.int .i64 (Nt.fr n i : Nat), .int .i64 (Nt.tt n i : Nat), .int .i64 (n.L (i * 3 + 2))])) := by rw [hW0]; exact rowN_alloc wr _ _
      have D : Hid (W0.cell? ⟨hb', Nt.fr n i * 2, none⟩ = some (.int .i64 (Nt.hd hf (Nt.fr n i)).1) ∧ W0.cell? ⟨hb', Nt.fr n i * 2 + 1, none⟩ = some (.int .i64 (Nt.hd hf (Nt.fr n i)).2) ∧ W0.cell? ⟨hb', Nt.tt n i * 2, none⟩ = some (.int .i64 (Nt.hd hf (Nt.tt n i)).1) ∧ W0.cell? ⟨hb', Nt.tt n i * 2 + 1, none⟩ = some (.int .i64 (Nt.hd hf (Nt.tt n i)).2) ∧ hb' < W0.heap.size) := by
        rw [hW0]
        refine ⟨?_, ?_, ?_, ?_, by simp; omega⟩
        · rw [World.cell?_alloc_lt _ _ _ zh]; exact d0
        · rw [World.cell?_alloc_lt _ _ _ zh]; exact d1
        · rw [World.cell?_alloc_lt _ _ _ zh]; exact d2
        · rw [World.cell?_alloc_lt _ _ _ zh]; exact d3
      have HW0 := Lib.hid hW0
      have hfz : (Nt.fr n i : Int) < (hn : Int) := by omega
      have htz : (Nt.tt n i : Int) < (hn : Int) := by omega
      have GW : Hid (NEt W0) := HG.out.below SW.out.old
      have HGL : Hid (g < wr.heap.size) := hS.out.part.lt
      clear d0 d1 d2 d3 hW0 hS zb zh hnn
      go_wp2_with fail
      rw [← HW0.out]
      clear c0 c1 c2
      generalize wr.heap.size = gl at *
      by_cases hd : Fq.code (Nt.dq n hf i) = 0
      case neg =>
        have HC := Lib.hid (Nt.flCode_5 h4 HF.out hlt (fun k => hd k.1))
        have h5 := (Fq.code_or (Fq.sub_fit (HF.out.fr hlt) (HF.out.tt hlt)).1).resolve_left hd
        have HD := Lib.hid hd
        have H5 := Lib.hid h5
        clear hd h5
        refine wp_region_held_drew (S := fun V => Below W0.heap.size W0 V) (by kernel_rfl) (Below.refl _ _).drew (fun hHeld => ?_)
        obtain ⟨Z, hZ⟩ : ∃ Z, Z = W0.drew := ⟨_, rfl⟩
        rw [← hZ] at hHeld ⊢
        clear hZ
        refine take_do (i := 0) (v := (.slice (some ⟨hb', 0, none⟩) hn hk)) rfl (by kernel_rfl) (by kernel_rfl) (by kernel_rfl) (fun _ _ _ h => h) (by rfl) ?_ (by assumption) ?_
        · intro w hSw
          skip
          go_simp
        simp only [Act.put, List.setIfInBounds_toArray, List.set_cons_zero, List.set_cons_succ]
        refine take_do (i := 1) (v := (.pointer (some ⟨gl, 0, none⟩))) rfl (by kernel_rfl) (by kernel_rfl) (by kernel_rfl) (fun _ _ _ h => h) (by rfl) ?_ (by assumption) ?_
        · intro w hSw
          skip
          go_simp
        simp only [Act.put, List.setIfInBounds_toArray, List.set_cons_zero, List.set_cons_succ]
        refine take_do (i := 2) (v := (.int .i64 (Nt.fr n i : Nat))) rfl (by kernel_rfl) (by kernel_rfl) (by kernel_rfl) (fun _ _ _ h => h) (by rfl) ?_ (by assumption) ?_
        · intro w hSw
          obtain ⟨⟨x0, x1, x2⟩, _⟩ := rowN3 (nrow_below RL.out hSw)
          go_simp
        simp only [Act.put, List.setIfInBounds_toArray, List.set_cons_zero, List.set_cons_succ]
        refine take_do (i := 3) (v := (.pointer (some ⟨hb', Nt.fr n i * 2, none⟩))) rfl (by kernel_rfl) (by kernel_rfl) (by kernel_rfl) (fun _ _ _ h => h) (by rfl) ?_ (by assumption) ?_
        · intro w hSw
          skip
          go_simp
        simp only [Act.put, List.setIfInBounds_toArray, List.set_cons_zero, List.set_cons_succ]
        refine take_do (i := 4) (v := (frV (Nt.hd hf (Nt.fr n i)))) rfl (by kernel_rfl) (by kernel_rfl) (by kernel_rfl) (fun _ _ _ h => h) (by rfl) ?_ (by assumption) ?_
        · intro w hSw
          have y0 := (hSw.cell (p := ⟨hb', Nt.fr n i * 2, none⟩) D.out.2.2.2.2).trans D.out.1; have y1 := (hSw.cell (p := ⟨hb', Nt.fr n i * 2 + 1, none⟩) D.out.2.2.2.2).trans D.out.2.1; have y2 := (hSw.cell (p := ⟨hb', Nt.tt n i * 2, none⟩) D.out.2.2.2.2).trans D.out.2.2.1; have y3 := (hSw.cell (p := ⟨hb', Nt.tt n i * 2 + 1, none⟩) D.out.2.2.2.2).trans D.out.2.2.2.1
          go_simp
        simp only [Act.put, List.setIfInBounds_toArray, List.set_cons_zero, List.set_cons_succ]
        refine take_do (i := 5) (v := (.slice (some ⟨hb', 0, none⟩) hn hk)) rfl (by kernel_rfl) (by kernel_rfl) (by kernel_rfl) (fun _ _ _ h => h) (by rfl) ?_ (by assumption) ?_
        · intro w hSw
          skip
          go_simp
        simp only [Act.put, List.setIfInBounds_toArray, List.set_cons_zero, List.set_cons_succ]
        refine take_do (i := 6) (v := (.pointer (some ⟨gl, 1, none⟩))) rfl (by kernel_rfl) (by kernel_rfl) (by kernel_rfl) (fun _ _ _ h => h) (by rfl) ?_ (by assumption) ?_
        · intro w hSw
          skip
          go_simp
        simp only [Act.put, List.setIfInBounds_toArray, List.set_cons_zero, List.set_cons_succ]
        refine take_do (i := 7) (v := (.int .i64 (Nt.tt n i : Nat))) rfl (by kernel_rfl) (by kernel_rfl) (by kernel_rfl) (fun _ _ _ h => h) (by rfl) ?_ (by assumption) ?_
        · intro w hSw
          obtain ⟨⟨x0, x1, x2⟩, _⟩ := rowN3 (nrow_below RL.out hSw)
          go_simp
        simp only [Act.put, List.setIfInBounds_toArray, List.set_cons_zero, List.set_cons_succ]
        refine take_do (i := 8) (v := (.pointer (some ⟨hb', Nt.tt n i * 2, none⟩))) rfl (by kernel_rfl) (by kernel_rfl) (by kernel_rfl) (fun _ _ _ h => h) (by rfl) ?_ (by assumption) ?_
        · intro w hSw
          skip
          go_simp
        simp only [Act.put, List.setIfInBounds_toArray, List.set_cons_zero, List.set_cons_succ]
        refine take_do (i := 9) (v := (frV (Nt.hd hf (Nt.tt n i)))) rfl (by kernel_rfl) (by kernel_rfl) (by kernel_rfl) (fun _ _ _ h => h) (by rfl) ?_ (by assumption) ?_
        · intro w hSw
          have y0 := (hSw.cell (p := ⟨hb', Nt.fr n i * 2, none⟩) D.out.2.2.2.2).trans D.out.1; have y1 := (hSw.cell (p := ⟨hb', Nt.fr n i * 2 + 1, none⟩) D.out.2.2.2.2).trans D.out.2.1; have y2 := (hSw.cell (p := ⟨hb', Nt.tt n i * 2, none⟩) D.out.2.2.2.2).trans D.out.2.2.1; have y3 := (hSw.cell (p := ⟨hb', Nt.tt n i * 2 + 1, none⟩) D.out.2.2.2.2).trans D.out.2.2.2.1
          go_simp
        simp only [Act.put, List.setIfInBounds_toArray, List.set_cons_zero, List.set_cons_succ]
        refine wpAnyH_ready (rs := [10, 12]) (by kernel_rfl) (by simp) (AllReadyH.cons (at_drop (i := 10) rfl) (fun K2 hK => ?_) (AllReadyH.cons (at_drop (i := 12) rfl) (fun K2 hK => ?_) (AllReadyH.nil)))
        · go_simp
          refine (nimplSub _ _ _ (HF.out.fr hlt) (HF.out.tt hlt) (GW.out.below hHeld)).mono ?_
          rintro e Z1 ⟨rfl, hb⟩
          go_wp2_with fail
          refine hK.out _ _ (hHeld.trans (hb.mono hHeld.size)) (fun hHeld2 => ?_)
          clear hK hHeld
          have hHeld := hHeld2
          clear hHeld2
          clear hb
          refine wpAnyH_ready (rs := [11, 12]) (by kernel_rfl) (by simp) (AllReadyH.cons (at_drop (i := 11) rfl) (fun K2 hK => ?_) (AllReadyH.cons (at_drop (i := 12) rfl) (fun K2 hK => ?_) (AllReadyH.nil)))
          · go_simp
            refine (sure_bad _ _ _ HD.out _).mono ?_
            rintro e Z2 ⟨⟨s, rfl⟩, hb⟩
            go_wp2_with fail
            exact ⟨rfl, Or.inr ⟨by rw [HC.out]; decide, s, by rw [HC.out]; rw [← H5.out]; rfl⟩, (SW.out.old.trans (hHeld.mono SW.out.old.size)).trans (hb.mono (Nat.le_trans SW.out.old.size hHeld.size))⟩
          · obtain ⟨Z3, hZ3⟩ : ∃ Z3, Z3 = Z1.alloc (.cells #[.int .i64 0, .int .i64 0] 35) := ⟨_, rfl⟩
            have hb : Below Z1.heap.size Z1 Z3 := by rw [hZ3]; exact nbel_alloc _ _
            obtain ⟨gb, hgb⟩ : ∃ gb, gb = Z1.heap.size := ⟨_, rfl⟩
            have RZ : Hid (Z3.rowIs gb 35 2 (rowN [.int .i64 0, .int .i64 0])) := by show World.rowIs _ _ _ _ _; rw [hZ3, hgb]; exact rowN_alloc _ _ _
            have HGB : Hid (W0.heap.size ≤ gb) := by show _ ≤ _; rw [hgb]; exact hHeld.size
            go_simp
            rw [← hZ3, ← hgb]
            refine hK.out _ _ (hHeld.trans (hb.mono hHeld.size)) (fun hHeld2 => ?_)
            clear hK hHeld
            have hHeld := hHeld2
            clear hHeld2
            clear hb hZ3 hgb
            refine take_call (i := 11) rfl (by kernel_rfl) (fun K2 hK => ?_)
            go_simp
            refine (sure_bad _ _ _ HD.out _).mono ?_
            rintro e Z4 ⟨⟨s, rfl⟩, hb⟩
            go_wp2_with fail
            exact ⟨rfl, Or.inr ⟨by rw [HC.out]; decide, s, by rw [HC.out]; rw [← H5.out]; rfl⟩, (SW.out.old.trans (hHeld.mono SW.out.old.size)).trans (hb.mono (Nat.le_trans SW.out.old.size hHeld.size))⟩
        · obtain ⟨Z5, hZ5⟩ : ∃ Z5, Z5 = Z.alloc (.cells #[.int .i64 0, .int .i64 0] 35) := ⟨_, rfl⟩
          have hb : Below Z.heap.size Z Z5 := by rw [hZ5]; exact nbel_alloc _ _
          obtain ⟨gb, hgb⟩ : ∃ gb, gb = Z.heap.size := ⟨_, rfl⟩
          have RZ : Hid (Z5.rowIs gb 35 2 (rowN [.int .i64 0, .int .i64 0])) := by show World.rowIs _ _ _ _ _; rw [hZ5, hgb]; exact rowN_alloc _ _ _
          have HGB : Hid (W0.heap.size ≤ gb) := by show _ ≤ _; rw [hgb]; exact hHeld.size
          go_simp
          rw [← hZ5, ← hgb]
          refine hK.out _ _ (hHeld.trans (hb.mono hHeld.size)) (fun hHeld2 => ?_)
          clear hK hHeld
          have hHeld := hHeld2
          clear hHeld2
          clear hb hZ5 hgb
          refine take_call (i := 10) rfl (by kernel_rfl) (fun K2 hK => ?_)
          go_simp
          refine (nimplSub _ _ _ (HF.out.fr hlt) (HF.out.tt hlt) (GW.out.below hHeld)).mono ?_
          rintro e Z6 ⟨rfl, hb⟩
          replace RZ := Lib.hid (nrow_below RZ.out hb)
          go_wp2_with fail
          refine hK.out _ _ (hHeld.trans (hb.mono hHeld.size)) (fun hHeld2 => ?_)
          clear hK hHeld
          have hHeld := hHeld2
          clear hHeld2
          clear hb
          refine take_call (i := 11) rfl (by kernel_rfl) (fun K2 hK => ?_)
          go_simp
          refine (sure_bad _ _ _ HD.out _).mono ?_
          rintro e Z7 ⟨⟨s, rfl⟩, hb⟩
          go_wp2_with fail
          exact ⟨rfl, Or.inr ⟨by rw [HC.out]; decide, s, by rw [HC.out]; rw [← H5.out]; rfl⟩, (SW.out.old.trans (hHeld.mono SW.out.old.size)).trans (hb.mono (Nat.le_trans SW.out.old.size hHeld.size))⟩
      case pos =>
        have HD := Lib.hid hd
        have RD := Lib.hid (HF.out.dq hlt hd)
        clear hd
        go_cut [8] (fun p V => ∃ gb, p = .pointer (some ⟨gb, 0, none⟩) ∧ Hid (V.rowIs gb 35 2 (rowN [.int .i64 (Fq.val (Nt.dq n hf i)).1, .int .i64 (Fq.val (Nt.dq n hf i)).2]) ∧ Below W0.heap.size W0 V ∧ W0.heap.size ≤ gb))
        case first =>
          refine wp_region_held_drew (S := fun V => Below W0.heap.size W0 V) (by kernel_rfl) (Below.refl _ _).drew (fun hHeld => ?_)
          obtain ⟨Z, hZ⟩ : ∃ Z, Z = W0.drew := ⟨_, rfl⟩
          rw [← hZ] at hHeld ⊢
          clear hZ
          refine take_do (i := 0) (v := (.slice (some ⟨hb', 0, none⟩) hn hk)) rfl (by kernel_rfl) (by kernel_rfl) (by kernel_rfl) (fun _ _ _ h => h) (by rfl) ?_ (by assumption) ?_
          · intro w hSw
            skip
            go_simp
          simp only [Act.put, List.setIfInBounds_toArray, List.set_cons_zero, List.set_cons_succ]
          refine take_do (i := 1) (v := (.pointer (some ⟨gl, 0, none⟩))) rfl (by kernel_rfl) (by kernel_rfl) (by kernel_rfl) (fun _ _ _ h => h) (by rfl) ?_ (by assumption) ?_
          · intro w hSw
            skip
            go_simp
          simp only [Act.put, List.setIfInBounds_toArray, List.set_cons_zero, List.set_cons_succ]
          refine take_do (i := 2) (v := (.int .i64 (Nt.fr n i : Nat))) rfl (by kernel_rfl) (by kernel_rfl) (by kernel_rfl) (fun _ _ _ h => h) (by rfl) ?_ (by assumption) ?_
          · intro w hSw
            obtain ⟨⟨x0, x1, x2⟩, _⟩ := rowN3 (nrow_below RL.out hSw)
            go_simp
          simp only [Act.put, List.setIfInBounds_toArray, List.set_cons_zero, List.set_cons_succ]
          refine take_do (i := 3) (v := (.pointer (some ⟨hb', Nt.fr n i * 2, none⟩))) rfl (by kernel_rfl) (by kernel_rfl) (by kernel_rfl) (fun _ _ _ h => h) (by rfl) ?_ (by assumption) ?_
          · intro w hSw
            skip
            go_simp
          simp only [Act.put, List.setIfInBounds_toArray, List.set_cons_zero, List.set_cons_succ]
          refine take_do (i := 4) (v := (frV (Nt.hd hf (Nt.fr n i)))) rfl (by kernel_rfl) (by kernel_rfl) (by kernel_rfl) (fun _ _ _ h => h) (by rfl) ?_ (by assumption) ?_
          · intro w hSw
            have y0 := (hSw.cell (p := ⟨hb', Nt.fr n i * 2, none⟩) D.out.2.2.2.2).trans D.out.1; have y1 := (hSw.cell (p := ⟨hb', Nt.fr n i * 2 + 1, none⟩) D.out.2.2.2.2).trans D.out.2.1; have y2 := (hSw.cell (p := ⟨hb', Nt.tt n i * 2, none⟩) D.out.2.2.2.2).trans D.out.2.2.1; have y3 := (hSw.cell (p := ⟨hb', Nt.tt n i * 2 + 1, none⟩) D.out.2.2.2.2).trans D.out.2.2.2.1
            go_simp
          simp only [Act.put, List.setIfInBounds_toArray, List.set_cons_zero, List.set_cons_succ]
          refine take_do (i := 5) (v := (.slice (some ⟨hb', 0, none⟩) hn hk)) rfl (by kernel_rfl) (by kernel_rfl) (by kernel_rfl) (fun _ _ _ h => h) (by rfl) ?_ (by assumption) ?_
          · intro w hSw
            skip
            go_simp
          simp only [Act.put, List.setIfInBounds_toArray, List.set_cons_zero, List.set_cons_succ]
          refine take_do (i := 6) (v := (.pointer (some ⟨gl, 1, none⟩))) rfl (by kernel_rfl) (by kernel_rfl) (by kernel_rfl) (fun _ _ _ h => h) (by rfl) ?_ (by assumption) ?_
          · intro w hSw
            skip
            go_simp
          simp only [Act.put, List.setIfInBounds_toArray, List.set_cons_zero, List.set_cons_succ]
          refine take_do (i := 7) (v := (.int .i64 (Nt.tt n i : Nat))) rfl (by kernel_rfl) (by kernel_rfl) (by kernel_rfl) (fun _ _ _ h => h) (by rfl) ?_ (by assumption) ?_
          · intro w hSw
            obtain ⟨⟨x0, x1, x2⟩, _⟩ := rowN3 (nrow_below RL.out hSw)
            go_simp
          simp only [Act.put, List.setIfInBounds_toArray, List.set_cons_zero, List.set_cons_succ]
          refine take_do (i := 8) (v := (.pointer (some ⟨hb', Nt.tt n i * 2, none⟩))) rfl (by kernel_rfl) (by kernel_rfl) (by kernel_rfl) (fun _ _ _ h => h) (by rfl) ?_ (by assumption) ?_
          · intro w hSw
            skip
            go_simp
          simp only [Act.put, List.setIfInBounds_toArray, List.set_cons_zero, List.set_cons_succ]
          refine take_do (i := 9) (v := (frV (Nt.hd hf (Nt.tt n i)))) rfl (by kernel_rfl) (by kernel_rfl) (by kernel_rfl) (fun _ _ _ h => h) (by rfl) ?_ (by assumption) ?_
          · intro w hSw
            have y0 := (hSw.cell (p := ⟨hb', Nt.fr n i * 2, none⟩) D.out.2.2.2.2).trans D.out.1; have y1 := (hSw.cell (p := ⟨hb', Nt.fr n i * 2 + 1, none⟩) D.out.2.2.2.2).trans D.out.2.1; have y2 := (hSw.cell (p := ⟨hb', Nt.tt n i * 2, none⟩) D.out.2.2.2.2).trans D.out.2.2.1; have y3 := (hSw.cell (p := ⟨hb', Nt.tt n i * 2 + 1, none⟩) D.out.2.2.2.2).trans D.out.2.2.2.1
            go_simp
          simp only [Act.put, List.setIfInBounds_toArray, List.set_cons_zero, List.set_cons_succ]
          refine wpAnyH_ready (rs := [10, 12]) (by kernel_rfl) (by simp) (AllReadyH.cons (at_drop (i := 10) rfl) (fun K2 hK => ?_) (AllReadyH.cons (at_drop (i := 12) rfl) (fun K2 hK => ?_) (AllReadyH.nil)))
          · go_simp
            refine (nimplSub _ _ _ (HF.out.fr hlt) (HF.out.tt hlt) (GW.out.below hHeld)).mono ?_
            rintro e Z8 ⟨rfl, hb⟩
            go_wp2_with fail
            refine hK.out _ _ (hHeld.trans (hb.mono hHeld.size)) (fun hHeld2 => ?_)
            clear hK hHeld
            have hHeld := hHeld2
            clear hHeld2
            clear hb
            refine wpAnyH_ready (rs := [11, 12]) (by kernel_rfl) (by simp) (AllReadyH.cons (at_drop (i := 11) rfl) (fun K2 hK => ?_) (AllReadyH.cons (at_drop (i := 12) rfl) (fun K2 hK => ?_) (AllReadyH.nil)))
            · go_simp
              have HV := Lib.hid (sure_ok (Fq.val (Nt.dq n hf i)).1 (Fq.val (Nt.dq n hf i)).2)
              rw [← HD.out] at HV
              refine (HV.out _).mono ?_
              rintro e Z9 ⟨rfl, hb⟩
              clear HV
              go_wp2_with fail
              refine hK.out _ _ (hHeld.trans (hb.mono hHeld.size)) (fun hHeld2 => ?_)
              clear hK hHeld
              have hHeld := hHeld2
              clear hHeld2
              clear hb
              refine take_call (i := 12) rfl (by kernel_rfl) (fun K2 hK => ?_)
              obtain ⟨Z10, hZ10⟩ : ∃ Z10, Z10 = Z9.alloc (.cells #[.int .i64 0, .int .i64 0] 35) := ⟨_, rfl⟩
              have hb : Below Z9.heap.size Z9 Z10 := by rw [hZ10]; exact nbel_alloc _ _
              obtain ⟨gb, hgb⟩ : ∃ gb, gb = Z9.heap.size := ⟨_, rfl⟩
              have RZ : Hid (Z10.rowIs gb 35 2 (rowN [.int .i64 0, .int .i64 0])) := by show World.rowIs _ _ _ _ _; rw [hZ10, hgb]; exact rowN_alloc _ _ _
              have HGB : Hid (W0.heap.size ≤ gb) := by show _ ≤ _; rw [hgb]; exact hHeld.size
              go_simp
              rw [← hZ10, ← hgb]
              refine hK.out _ _ (hHeld.trans (hb.mono hHeld.size)) (fun hHeld2 => ?_)
              clear hK hHeld
              have hHeld := hHeld2
              clear hHeld2
              clear hb hZ10 hgb
              have o0 := RZ.out.cell (i := 0) (by omega)
              have z0 := RZ.out.frozen 0
              have o1 := RZ.out.cell (i := 1) (by omega)
              have z1 := RZ.out.frozen 1
              have l0 := RZ.out.lt
              obtain ⟨WZ, hWZ⟩ : ∃ WZ, WZ = ((Z10.setCell ⟨gb, 0, none⟩ (.int .i64 (Fq.val (Nt.dq n hf i)).1)).setCell ⟨gb, 1, none⟩ (.int .i64 (Fq.val (Nt.dq n hf i)).2)) := ⟨_, rfl⟩
              have hbZ : Below W0.heap.size W0 WZ := by rw [hWZ]; exact ((hHeld.setCell (p := ⟨gb, 0, none⟩) HGB.out _).setCell (p := ⟨gb, 1, none⟩) HGB.out _)
              have HFM : Hid (WZ.rowIs gb 35 2 (rowN [.int .i64 (Fq.val (Nt.dq n hf i)).1, .int .i64 (Fq.val (Nt.dq n hf i)).2])) := by show World.rowIs _ _ _ _ _; rw [hWZ]; exact (rowN_put (rowN_put RZ.out 0 (.int .i64 (Fq.val (Nt.dq n hf i)).1) (by simp)) 1 (.int .i64 (Fq.val (Nt.dq n hf i)).2) (by simp))
              have HWZ := Lib.hid hWZ
              have HBZ := Lib.hid hbZ
              clear hWZ hbZ
              refine take_call (i := 13) rfl (by kernel_rfl) (fun K2 hK => ?_)
              go_simp
              rw [← HWZ.out]
              refine hK.out _ _ HBZ.out (fun hHeld2 => ?_)
              clear hK hHeld hHeld2 HWZ o0 z0 o1 z1 l0
              refine wpAnyH_done (by kernel_rfl) ?_ _
              go_wp2_with fail
              go_meet
              case rel => exact ⟨gb, rfl, HFM.out, HBZ.out, HGB.out⟩
            · obtain ⟨Z11, hZ11⟩ : ∃ Z11, Z11 = Z8.alloc (.cells #[.int .i64 0, .int .i64 0] 35) := ⟨_, rfl⟩
              have hb : Below Z8.heap.size Z8 Z11 := by rw [hZ11]; exact nbel_alloc _ _
              obtain ⟨gb, hgb⟩ : ∃ gb, gb = Z8.heap.size := ⟨_, rfl⟩
              have RZ : Hid (Z11.rowIs gb 35 2 (rowN [.int .i64 0, .int .i64 0])) := by show World.rowIs _ _ _ _ _; rw [hZ11, hgb]; exact rowN_alloc _ _ _
              have HGB : Hid (W0.heap.size ≤ gb) := by show _ ≤ _; rw [hgb]; exact hHeld.size
              go_simp
              rw [← hZ11, ← hgb]
              refine hK.out _ _ (hHeld.trans (hb.mono hHeld.size)) (fun hHeld2 => ?_)
              clear hK hHeld
              have hHeld := hHeld2
              clear hHeld2
              clear hb hZ11 hgb
              refine take_call (i := 11) rfl (by kernel_rfl) (fun K2 hK => ?_)
              go_simp
              have HV := Lib.hid (sure_ok (Fq.val (Nt.dq n hf i)).1 (Fq.val (Nt.dq n hf i)).2)
              rw [← HD.out] at HV
              refine (HV.out _).mono ?_
              rintro e Z12 ⟨rfl, hb⟩
              clear HV
              replace RZ := Lib.hid (nrow_below RZ.out hb)
              go_wp2_with fail
              refine hK.out _ _ (hHeld.trans (hb.mono hHeld.size)) (fun hHeld2 => ?_)
              clear hK hHeld
              have hHeld := hHeld2
              clear hHeld2
              clear hb
              have o0 := RZ.out.cell (i := 0) (by omega)
              have z0 := RZ.out.frozen 0
              have o1 := RZ.out.cell (i := 1) (by omega)
              have z1 := RZ.out.frozen 1
              have l0 := RZ.out.lt
              obtain ⟨WZ, hWZ⟩ : ∃ WZ, WZ = ((Z12.setCell ⟨gb, 0, none⟩ (.int .i64 (Fq.val (Nt.dq n hf i)).1)).setCell ⟨gb, 1, none⟩ (.int .i64 (Fq.val (Nt.dq n hf i)).2)) := ⟨_, rfl⟩
              have hbZ : Below W0.heap.size W0 WZ := by rw [hWZ]; exact ((hHeld.setCell (p := ⟨gb, 0, none⟩) HGB.out _).setCell (p := ⟨gb, 1, none⟩) HGB.out _)
              have HFM : Hid (WZ.rowIs gb 35 2 (rowN [.int .i64 (Fq.val (Nt.dq n hf i)).1, .int .i64 (Fq.val (Nt.dq n hf i)).2])) := by show World.rowIs _ _ _ _ _; rw [hWZ]; exact (rowN_put (rowN_put RZ.out 0 (.int .i64 (Fq.val (Nt.dq n hf i)).1) (by simp)) 1 (.int .i64 (Fq.val (Nt.dq n hf i)).2) (by simp))
              have HWZ := Lib.hid hWZ
              have HBZ := Lib.hid hbZ
              clear hWZ hbZ
              refine take_call (i := 13) rfl (by kernel_rfl) (fun K2 hK => ?_)
              go_simp
              rw [← HWZ.out]
              refine hK.out _ _ HBZ.out (fun hHeld2 => ?_)
              clear hK hHeld hHeld2 HWZ o0 z0 o1 z1 l0
              refine wpAnyH_done (by kernel_rfl) ?_ _
              go_wp2_with fail
              go_meet
              case rel => exact ⟨gb, rfl, HFM.out, HBZ.out, HGB.out⟩
          · obtain ⟨Z13, hZ13⟩ : ∃ Z13, Z13 = Z.alloc (.cells #[.int .i64 0, .int .i64 0] 35) := ⟨_, rfl⟩
            have hb : Below Z.heap.size Z Z13 := by rw [hZ13]; exact nbel_alloc _ _
            obtain ⟨gb, hgb⟩ : ∃ gb, gb = Z.heap.size := ⟨_, rfl⟩
            have RZ : Hid (Z13.rowIs gb 35 2 (rowN [.int .i64 0, .int .i64 0])) := by show World.rowIs _ _ _ _ _; rw [hZ13, hgb]; exact rowN_alloc _ _ _
            have HGB : Hid (W0.heap.size ≤ gb) := by show _ ≤ _; rw [hgb]; exact hHeld.size
            go_simp
            rw [← hZ13, ← hgb]
            refine hK.out _ _ (hHeld.trans (hb.mono hHeld.size)) (fun hHeld2 => ?_)
            clear hK hHeld
            have hHeld := hHeld2
            clear hHeld2
            clear hb hZ13 hgb
            refine take_call (i := 10) rfl (by kernel_rfl) (fun K2 hK => ?_)
            go_simp
            refine (nimplSub _ _ _ (HF.out.fr hlt) (HF.out.tt hlt) (GW.out.below hHeld)).mono ?_
            rintro e Z14 ⟨rfl, hb⟩
            replace RZ := Lib.hid (nrow_below RZ.out hb)
            go_wp2_with fail
            refine hK.out _ _ (hHeld.trans (hb.mono hHeld.size)) (fun hHeld2 => ?_)
            clear hK hHeld
            have hHeld := hHeld2
            clear hHeld2
            clear hb
            refine take_call (i := 11) rfl (by kernel_rfl) (fun K2 hK => ?_)
            go_simp
            have HV := Lib.hid (sure_ok (Fq.val (Nt.dq n hf i)).1 (Fq.val (Nt.dq n hf i)).2)
            rw [← HD.out] at HV
            refine (HV.out _).mono ?_
            rintro e Z15 ⟨rfl, hb⟩
            clear HV
            replace RZ := Lib.hid (nrow_below RZ.out hb)
            go_wp2_with fail
            refine hK.out _ _ (hHeld.trans (hb.mono hHeld.size)) (fun hHeld2 => ?_)
            clear hK hHeld
            have hHeld := hHeld2
            clear hHeld2
            clear hb
            have o0 := RZ.out.cell (i := 0) (by omega)
            have z0 := RZ.out.frozen 0
            have o1 := RZ.out.cell (i := 1) (by omega)
            have z1 := RZ.out.frozen 1
            have l0 := RZ.out.lt
            obtain ⟨WZ, hWZ⟩ : ∃ WZ, WZ = ((Z15.setCell ⟨gb, 0, none⟩ (.int .i64 (Fq.val (Nt.dq n hf i)).1)).setCell ⟨gb, 1, none⟩ (.int .i64 (Fq.val (Nt.dq n hf i)).2)) := ⟨_, rfl⟩
            have hbZ : Below W0.heap.size W0 WZ := by rw [hWZ]; exact ((hHeld.setCell (p := ⟨gb, 0, none⟩) HGB.out _).setCell (p := ⟨gb, 1, none⟩) HGB.out _)
            have HFM : Hid (WZ.rowIs gb 35 2 (rowN [.int .i64 (Fq.val (Nt.dq n hf i)).1, .int .i64 (Fq.val (Nt.dq n hf i)).2])) := by show World.rowIs _ _ _ _ _; rw [hWZ]; exact (rowN_put (rowN_put RZ.out 0 (.int .i64 (Fq.val (Nt.dq n hf i)).1) (by simp)) 1 (.int .i64 (Fq.val (Nt.dq n hf i)).2) (by simp))
            have HWZ := Lib.hid hWZ
            have HBZ := Lib.hid hbZ
            clear hWZ hbZ
            refine take_call (i := 13) rfl (by kernel_rfl) (fun K2 hK => ?_)
            go_simp
            rw [← HWZ.out]
            refine hK.out _ _ HBZ.out (fun hHeld2 => ?_)
            clear hK hHeld hHeld2 HWZ o0 z0 o1 z1 l0
            refine wpAnyH_done (by kernel_rfl) ?_ _
            go_wp2_with fail
            go_meet
            case rel => exact ⟨gb, rfl, HFM.out, HBZ.out, HGB.out⟩
        case rest =>
        obtain ⟨gb, rfl, hC⟩ := hcut
        obtain ⟨V0, hV0⟩ : ∃ V0, V0 = wc := ⟨_, rfl⟩
        rw [← hV0] at hC ⊢
        clear hV0
        have SV := Lib.hid (SW.out.below hC.out.2.1)
        have GV := Lib.hid (GW.out.below hC.out.2.1)
        have NE : Hid (g ≠ gl ∧ g ≠ gb ∧ gl ≠ gb) := by
          have h1 := HGL.out
          have h2 := RL.out.lt
          have h3 := hC.out.2.2
          exact ⟨by omega, by omega, by omega⟩
        have T0 : Hid (StpS w gl gb [.int .i64 (Nt.fr n i : Nat), .int .i64 (Nt.tt n i : Nat), .int .i64 (n.L (i * 3 + 2))] [.int .i64 (Fq.val (Nt.dq n hf i)).1, .int .i64 (Fq.val (Nt.dq n hf i)).2] V0) := ⟨SV.out.old, nrow_below RL.out hC.out.2.1, hC.out.1⟩
        have RG := Lib.hid (Nt.gq_right HF.out.r hlt)
        have GZ := Lib.hid (HF.out.r.l i hlt).2.2.2
        clear hC SW RL D GW HGL HW0
        go_wp2_with fail
        refine wp_region_held_drew (S := StpS w gl gb [.int .i64 (Nt.fr n i : Nat), .int .i64 (Nt.tt n i : Nat), .int .i64 (n.L (i * 3 + 2))] [.int .i64 (Fq.val (Nt.dq n hf i)).1, .int .i64 (Fq.val (Nt.dq n hf i)).2]) (by kernel_rfl) (T0.out.below (Below.refl _ _).drew) (fun hHeld => ?_)
        obtain ⟨Z, hZ⟩ : ∃ Z, Z = V0.drew := ⟨_, rfl⟩
        replace SV : Hid (FlS n (some ⟨b, 0, none⟩) lk fa fk wa wk g i (Nt.cells2 (Nt.flv n hf)) w Z) := by rw [hZ]; exact SV.out.below (Below.refl _ _).drew
        replace GV : Hid (NEt Z) := by rw [hZ]; exact GV.out.below (Below.refl _ _).drew
        rw [← hZ] at hHeld ⊢
        clear hZ T0
        refine take_do (i := 0) (v := (.slice (some ⟨g, 0, none⟩) n.ln n.ln)) rfl (by kernel_rfl) (by kernel_rfl) (by kernel_rfl) (fun _ _ _ h => h) (by rfl) ?_ (by assumption) ?_
        · intro w hSw
          skip
          go_simp
        simp only [Act.put, List.setIfInBounds_toArray, List.set_cons_zero, List.set_cons_succ]
        refine take_do (i := 1) (v := (.int .i64 i)) rfl (by kernel_rfl) (by kernel_rfl) (by kernel_rfl) (fun _ _ _ h => h) (by rfl) ?_ (by assumption) ?_
        · intro w hSw
          skip
          go_simp
        simp only [Act.put, List.setIfInBounds_toArray, List.set_cons_zero, List.set_cons_succ]
        refine take_do (i := 2) (v := (.pointer (some ⟨gl, 2, none⟩))) rfl (by kernel_rfl) (by kernel_rfl) (by kernel_rfl) (fun _ _ _ h => h) (by rfl) ?_ (by assumption) ?_
        · intro w hSw
          skip
          go_simp
        simp only [Act.put, List.setIfInBounds_toArray, List.set_cons_zero, List.set_cons_succ]
        refine take_do (i := 3) (v := (.int .i64 (n.L (i * 3 + 2)))) rfl (by kernel_rfl) (by kernel_rfl) (by kernel_rfl) (fun _ _ _ h => h) (by rfl) ?_ (by assumption) ?_
        · intro w hSw
          obtain ⟨⟨x0, x1, x2⟩, _⟩ := rowN3 hSw.2.1
          go_simp
        simp only [Act.put, List.setIfInBounds_toArray, List.set_cons_zero, List.set_cons_succ]
        refine take_do (i := 5) (v := (frV (Fq.val (Nt.dq n hf i)))) rfl (by kernel_rfl) (by kernel_rfl) (by kernel_rfl) (fun _ _ _ h => h) (by rfl) ?_ (by assumption) ?_
        · intro w hSw
          obtain ⟨⟨y0, y1⟩, _⟩ := rowN2 hSw.2.2
          go_simp
        simp only [Act.put, List.setIfInBounds_toArray, List.set_cons_zero, List.set_cons_succ]
        refine take_call (i := 4) rfl (by kernel_rfl) (fun K2 hK => ?_)
        go_simp
        refine (whole_any (n.L (i * 3 + 2)) _ (by have := GZ.out; omega) (by have := GZ.out; omega) GV.out).mono ?_
        rintro e Q1 ⟨rfl, hb⟩
        have SV1 := Lib.hid (SV.out.below hb)
        have GV1 := Lib.hid (GV.out.below hb)
        go_wp2_with fail
        refine hK.out _ _ (hHeld.below hb) (fun hHeld2 => ?_)
        clear hK hHeld hb SV GV
        have hHeld := hHeld2
        clear hHeld2
        refine take_call (i := 6) rfl (by kernel_rfl) (fun K2 hK => ?_)
        go_simp
        refine (nimplMul (Nt.gq n i) _ _ RG.out RD.out GV1.out).mono ?_
        rintro e Q2 ⟨rfl, hb⟩
        have SV2 := Lib.hid (SV1.out.below hb)
        have GV2 := Lib.hid (GV1.out.below hb)
        go_wp2_with fail
        refine hK.out _ _ (hHeld.below hb) (fun hHeld2 => ?_)
        clear hK hHeld hb SV1 GV1
        have hHeld := hHeld2
        clear hHeld2
        by_cases hm2 : Fq.code (Nt.mq n hf i) = 0
        case neg =>
          have HC := Lib.hid (Nt.flCode_5 h4 HF.out hlt (fun k => hm2 k.2))
          have h5 := (Fq.code_or (Fq.mul_fit RG.out RD.out).1).resolve_left hm2
          have HM := Lib.hid hm2
          have H5 := Lib.hid h5
          clear hm2 h5
          refine take_call (i := 7) rfl (by kernel_rfl) (fun K2 hK => ?_)
          go_simp
          refine (sure_bad _ _ _ HM.out _).mono ?_
          rintro e Q3 ⟨⟨s, rfl⟩, hb⟩
          go_wp2_with fail
          exact ⟨rfl, Or.inr ⟨by rw [HC.out]; decide, s, by rw [HC.out]; rw [← H5.out]; rfl⟩, SV2.out.old.trans (hb.mono SV2.out.old.size)⟩
        case pos =>
          have HM := Lib.hid hm2
          clear hm2
          refine take_call (i := 7) rfl (by kernel_rfl) (fun K2 hK => ?_)
          go_simp
          have HV := Lib.hid (sure_ok (Fq.val (Nt.mq n hf i)).1 (Fq.val (Nt.mq n hf i)).2)
          rw [← HM.out] at HV
          refine (HV.out _).mono ?_
          rintro e Q3 ⟨rfl, hb⟩
          clear HV
          have SV3 := Lib.hid (SV2.out.below hb)
          have GV3 := Lib.hid (GV2.out.below hb)
          go_wp2_with fail
          refine hK.out _ _ (hHeld.below hb) (fun hHeld2 => ?_)
          clear hK hHeld hb SV2 GV2
          have hHeld := hHeld2
          clear hHeld2
          refine take_do (i := 8) (v := (.pointer (some ⟨g, i * 2, none⟩))) rfl (by kernel_rfl) (by kernel_rfl) (by kernel_rfl) (fun _ _ _ h => h) (by rfl) ?_ (by assumption) ?_
          · intro w hSw
            skip
            go_simp
          simp only [Act.put, List.setIfInBounds_toArray, List.set_cons_zero, List.set_cons_succ]
          obtain ⟨v0, o0⟩ := SV3.out.part.cell (j := i * 2) (by omega)
          obtain ⟨v1, o1⟩ := SV3.out.part.cell (j := i * 2 + 1) (by omega)
          have z0 := SV3.out.part.frozen (i * 2)
          have z1 := SV3.out.part.frozen (i * 2 + 1)
          have l0 := SV3.out.part.lt
          obtain ⟨WZ, hWZ⟩ : ∃ WZ, WZ = (Q3.setCell ⟨g, i * 2, none⟩ (.int .i64 (Fq.val (Nt.mq n hf i)).1)).setCell ⟨g, i * 2 + 1, none⟩ (.int .i64 (Fq.val (Nt.mq n hf i)).2) := ⟨_, rfl⟩
          have hlo := SV3.out.lo
          have hne := NE.out
          have same : ∀ k, k ≠ g → WZ.heap[k]? = Q3.heap[k]? := fun k hk => by rw [hWZ]; exact (Below.heap_setCell _ ⟨g, i * 2 + 1, none⟩ _ _ hk).trans (Below.heap_setCell _ ⟨g, i * 2, none⟩ _ _ hk)
          have bz : Below w.heap.size w WZ := by rw [hWZ]; exact (SV3.out.old.setCell (p := ⟨g, i * 2, none⟩) (by show w.heap.size ≤ g; omega) _).setCell (p := ⟨g, i * 2 + 1, none⟩) (by show w.heap.size ≤ g; omega) _
          have SZ : Hid (FlS n (some ⟨b, 0, none⟩) lk fa fk wa wk g (i + 1) (Nt.cells2 (Nt.flv n hf)) w WZ) := by
            refine ⟨SV3.out.row.of_block (same _ (by omega)), bz, ?_, hlo⟩
            rw [Nat.succ_mul, hWZ]
            exact (SV3.out.part.put _ (Nt.cells2_0 (Nt.flv n hf) i).symm).put _ (Nt.cells2_1 (Nt.flv n hf) i).symm
          have TZ : Hid (StpS w gl gb [.int .i64 (Nt.fr n i : Nat), .int .i64 (Nt.tt n i : Nat), .int .i64 (n.L (i * 3 + 2))] [.int .i64 (Fq.val (Nt.dq n hf i)).1, .int .i64 (Fq.val (Nt.dq n hf i)).2] WZ) := ⟨bz, hHeld.2.1.of_block (same _ (Ne.symm hne.1)), hHeld.2.2.of_block (same _ (Ne.symm hne.2.1))⟩
          have HWZ := Lib.hid hWZ
          clear hWZ same bz hne
          refine take_call (i := 9) rfl (by kernel_rfl) (fun K2 hK => ?_)
          go_simp
          rw [← HWZ.out]
          refine hK.out _ _ TZ.out (fun hHeld2 => ?_)
          clear hK hHeld hHeld2 HWZ o0 o1 z0 z1 l0 SV3 GV3
          refine wpAnyH_done (by kernel_rfl) ?_ _
          go_wp2_with fail
          go_roundw
          case rel =>
            refine ⟨i + 1, by omega, by go_num, SZ, fun j hj => ?_⟩
            by_cases ej : j = i
            · subst ej; exact ⟨HD.out, HM.out⟩
            · exact hP.out j (by omega)
          case measure => simp [intOf]; omega
    · obtain rfl : i = n.ln := by omega
      have HC := Lib.hid (Nt.flCode_0 h4 HF.out hP.out)
      go_wp2_with fail
      go_ret
      exact ⟨Or.inl ⟨HC.out, g, _, rfl, by have := hS.out.lo; omega, hS.out.part.full (Nat.le_refl _)⟩, hS.out.old⟩
end Go.Proofs.YtkaokfmaecdkiaaGreatDoor
namespace Go.Proofs.YtkaokfmaecdkiaaGreatDoor
open Go.RowKit Go.Deep

namespace Nt
def smq (n : Net) (hf : Nat → Int) (i : Nat) : Int × Int := Fq.mul (gq n i) (Fq.tkv (dq n hf i))
def sfl (n : Net) (hf : Nat → Int) (i : Nat) : Int × Int := Fq.tkv (smq n hf i)
def zAt (n : Net) (hf : Nat → Int) : Nat → Int
  | 0 => 0
  | i + 1 => Fq.tkz (smq n hf i) (Fq.tkz (dq n hf i) (zAt n hf i))
theorem smq_ok {n : Net} {hf : Nat → Int} {i : Nat} (h : Fq.code (dq n hf i) = 0) : smq n hf i = mq n hf i := by unfold smq mq; rw [Fq.tkv_ok h]
theorem zAt_ok {n : Net} {hf : Nat → Int} : ∀ i, (∀ j, j < i → flOk n hf j) → zAt n hf i = 0
  | 0, _ => rfl
  | i + 1, h => by
    have h1 := h i (by omega)
    rw [zAt, zAt_ok i (fun j hj => h j (by omega)), Fq.tkz_ok h1.1, Fq.tkz_ok (by rw [smq_ok h1.1]; exact h1.2)]
theorem zAt_bad {n : Net} {hf : Nat → Int} : ∀ i j, j < i → ¬ flOk n hf j → zAt n hf i = 5
  | 0, j, h, _ => absurd h (by omega)
  | i + 1, j, h, hk => by
    rw [zAt]
    by_cases e : j = i
    · subst e
      by_cases h1 : Fq.code (dq n hf j) = 0
      · have h2 : ¬ Fq.code (smq n hf j) = 0 := fun h2 => hk ⟨h1, by rw [← smq_ok h1]; exact h2⟩
        exact if_neg h2
      · have : Fq.tkz (dq n hf j) (zAt n hf j) = 5 := if_neg h1
        rw [this, Fq.tkz_five]
    · rw [zAt_bad i j (by omega) hk, Fq.tkz_five, Fq.tkz_five]
theorem sfl_ok {n : Net} {hf : Nat → Int} {i : Nat} (h : flOk n hf i) : sfl n hf i = flv n hf i := by
  unfold sfl flv
  rw [smq_ok h.1, Fq.tkv_ok h.2]
end Nt
theorem take_of (gc : Nat) (g z : Int) (w : World) (h1 : -2147483647 ≤ g) (h2 : g ≤ 2147483647) (h : w.rowIs gc 59 1 (rowN [.int .i64 z])) :
    Calls Tryz.prog 24 #[.pointer (some ⟨gc, 0, none⟩), .agg #[.int .i64 (M.oN g 1), .int .i64 (M.oD g 1), .int .i64 (M.codeF g 1)]] w fun e w' => e = .returned (frV (g, 1)) ∧ (w'.rowIs gc 59 1 (rowN [.int .i64 z]) ∧ Only gc w w') := by
  have k := Fq.whole_ok h1 h2
  have := take_any gc (g, 1) z w h
  have hc : Fq.code (g, 1) = 0 := k.1
  rw [Fq.tkv_ok hc, Fq.tkz_ok hc] at this
  have hv : Fq.val (g, 1) = (g, 1) := by unfold Fq.val; simp only; rw [k.2.1, k.2.2.1]
  rw [hv] at this
  unfold foV at this
  rw [hv, hc] at this
  rw [k.1, k.2.1, k.2.2.1]
  exact this
theorem SpS.belowG {n : Nt.Net} {la : Option Addr} {lk : Nat} {fa : Option Addr} {fk : Nat} {wa : Option Addr} {wk gc go i : Nat} {f : Nat → Int × Int} {z : Int} {v : Value} {w W W' : World} {gl : Nat} (h : SpS n la lk fa fk wa wk gc go i f z v w W) (hb : Below gl W W') (hl : go < gl ∧ ∀ k, v.ownBlock = some k → k < gl) : SpS n la lk fa fk wa wk gc go i f z v w W' :=
  have hn := h.num
  ⟨h.row.of_block (hb.block _ (by omega)), h.res.of_block (hb.block _ (by omega)), h.old.trans (hb.mono (by omega)), h.rc.of_block (hb.block _ (by omega)), h.ro.of_block (hb.block _ (by omega)), nown_block h.own (fun k hk => hb.block k (hl.2 k hk)), h.num⟩
/-- What a model tells of a net: a list of its own, or a code. -/
def AnsF (B : Nat) (code : Int) (N : Nat) (f : Nat → Int) (e : Ending) (w : World) : Prop := ∃ a k, e = .returned (noV a (if code = 0 then N else 0) k 0 code) ∧ LsOwn 35 2 B (if code = 0 then N else 0) a k f w
theorem AnsF.bad {B : Nat} {code : Int} {N : Nat} {f : Nat → Int} {w : World} (h : code ≠ 0) : AnsF B code N f (.returned (noV none 0 0 0 code)) w := ⟨none, 0, by rw [if_neg h], by rw [if_neg h]; exact Or.inl ⟨rfl, rfl, rfl⟩⟩
set_option maxRecDepth 100000 in
set_option maxHeartbeats 16000000 in
theorem specFlows_any (n : Nt.Net) (la : Option Addr) (lk : Nat) (fa : Option Addr) (fk : Nat) (wa : Option Addr) (wk : Nat) (ha : Option Addr) (hn hk : Nat) (hf : Nat → Int) (w : World) (h : NtAt n la fa wa w) (hs : NtSmall n) (hh : IsAt ha (hn * 2) hf w) (hm : hn ≤ 1048576) :
    Calls Tryz.prog 34 #[ntV n la lk fa fk wa wk, .slice ha hn hk] w fun e w' => AnsF w.heap.size (Nt.flCode n hn hf) n.ln (Nt.cells2 (Nt.flv n hf)) e w' ∧ Below w.heap.size w w' := by
  have HA := Lib.hid h
  have HH := Lib.hid hh
  have HSM := Lib.hid hs
  obtain ⟨W, hW⟩ : ∃ W, W = (w.alloc (.cells #[.int .i64 n.nodes, .slice la n.ln lk, .slice fa n.fn fk, .slice wa n.wn wk] 27)).alloc (.cells #[.slice none 0 0, .int .i64 0, .int .i64 0] 31) := ⟨_, rfl⟩
  have B0 : Hid (Below w.heap.size w W) := by rw [hW]; exact ((Below.refl _ _).alloc (Nat.le_refl _) _).alloc (by simp) _
  have R0 : Hid (W.rowIs w.heap.size 27 4 (rowN (ntL n la lk fa fk wa wk))) := by rw [hW]; exact nrow_below (rowN_alloc w _ _) (nbel_alloc _ _)
  have O0 : Hid (W.rowIs (w.heap.size + 1) 31 3 (rowN (noL none 0 0 0 0))) := by rw [hW]; exact rowN_alloc' (by simp) _ _
  have HW := Lib.hid hW
  clear h hh hs hW
  by_cases h4 : 400 < hn
  · have h4z : (400 : Int) < (hn : Int) := by omega
    have HC := Lib.hid (Nt.flCode_2 (n := n) (hf := hf) h4)
    go_enter Tryz.func34, Tryz.ntmps34
    go_wp2_with fail
    exact bodyPost_ret (v := noV none 0 0 0 2) (by simp [results, Tryz.results34, go_sem]) rfl ⟨by rw [HC.out]; exact AnsF.bad (by decide), ((Below.refl _ _).alloc (Nat.le_refl _) _).alloc (by simp) _⟩
  have h4z : ¬ (400 : Int) < (hn : Int) := by omega
  go_enter Tryz.func34, Tryz.ntmps34
  go_wp2_with fail
  rw [← HW.out]
  refine (specNet_any n la lk fa fk wa wk _ (HA.out.below B0.out) HSM.out).mono ?_
  rintro e w1 ⟨⟨b1, rfl, hb1⟩, hb⟩
  have B1 : Hid (Below w.heap.size w w1) := B0.out.trans (hb.mono B0.out.size)
  have R1 := Lib.hid (nrow_below R0.out hb)
  have O1 := Lib.hid (nrow_below O0.out hb)
  have E1 := Lib.hid hb1
  clear hb hb1 B0 R0 O0
  obtain ⟨⟨r0, r1, r2, r3⟩, _⟩ := rowN4 R1.out
  obtain ⟨⟨p0, p1, p2⟩, z0, z1, z2⟩ := rowN3 O1.out
  have lw : w.heap.size + 1 < w1.heap.size := O1.out.lt
  have OC : Hid (∀ (c : Int) (V : World), V.rowIs (w.heap.size + 1) 31 3 (rowN (noL none 0 0 0 0)) → (((V.setCell ⟨w.heap.size + 1, 0, none⟩ (.slice none 0 0)).setCell ⟨w.heap.size + 1, 1, none⟩ (.int .i64 0)).setCell ⟨w.heap.size + 1, 2, none⟩ (.int .i64 c)).rowIs (w.heap.size + 1) 31 3 (rowN (noL none 0 0 0 c))) := fun c V hV => rowN_put (rowN_put (rowN_put hV 0 _ (by simp)) 1 _ (by simp)) 2 _ (by simp)
  cases b1 with
  | false =>
    have HC := Lib.hid (Nt.flCode_1 (n := n) (hn := hn) (hf := hf) h4 (fun k => by have := E1.out.2 k.r; cases this))
    go_wp2_with fail
    obtain ⟨⟨x0, x1, x2⟩, _⟩ := rowN3 (OC.out 1 _ O1.out)
    exact bodyPost_ret (v := noV none 0 0 0 1) (by simp [results, Tryz.results34, go_sem, x0, x1, x2]) rfl ⟨by rw [HC.out]; exact AnsF.bad (by decide), ((B1.out.setCell (p := ⟨w.heap.size + 1, 0, none⟩) (Nat.le_succ _) _).setCell (p := ⟨w.heap.size + 1, 1, none⟩) (Nat.le_succ _) _).setCell (p := ⟨w.heap.size + 1, 2, none⟩) (Nat.le_succ _) _⟩
  | true =>
  have HR : Hid (Nt.Right n) := E1.out.1 (by trivial)
  by_cases hq : (hn : Int) = n.nodes
  case neg =>
    have hqz : ((hn : Int) != n.nodes) = true := by simp [hq]
    have HC := Lib.hid (Nt.flCode_1 (n := n) (hn := hn) (hf := hf) h4 (fun k => hq k.len))
    clear hq
    go_wp2_with fail
    obtain ⟨⟨x0, x1, x2⟩, _⟩ := rowN3 (OC.out 1 _ O1.out)
    exact bodyPost_ret (v := noV none 0 0 0 1) (by simp [results, Tryz.results34, go_sem, x0, x1, x2]) rfl ⟨by rw [HC.out]; exact AnsF.bad (by decide), ((B1.out.setCell (p := ⟨w.heap.size + 1, 0, none⟩) (Nat.le_succ _) _).setCell (p := ⟨w.heap.size + 1, 1, none⟩) (Nat.le_succ _) _).setCell (p := ⟨w.heap.size + 1, 2, none⟩) (Nat.le_succ _) _⟩
  case pos =>
  have hqz : ((hn : Int) != n.nodes) = false := by simp [hq]
  have HQ := Lib.hid hq
  clear hq E1
  go_wp2_with fail
  clear r0 r1 r2 r3 p0 p1 p2 z0 z1 z2
  go_loopw [5] (fun iv wr => ∃ (i : Nat), i ≤ hn ∧ iv = .int .i64 i ∧ Hid (Below w1.heap.size w1 wr) ∧ Hid (Nt.headsOk i hf)) (fun iv _ => hn - (intOf iv).toNat)
  case atStart => exact ⟨0, Nat.zero_le _, rfl, Below.refl _ _, fun j hj => absurd hj (Nat.not_lt_zero _)⟩
  case round =>
    obtain ⟨i, hi, rfl, hB, hP⟩ := hrel
    have BB : Hid (Below w.heap.size w wr) := B1.out.trans (hB.out.mono B1.out.size)
    by_cases hlt : i < hn
    · have hltz : (i : Int) < (hn : Int) := by omega
      obtain ⟨b, e, c0, c1⟩ := (HH.out.below BB.out).at2 hlt
      subst e
      go_wp2_with fail
      refine (specRight_any (hf (i * 2)) (hf (i * 2 + 1)) _).mono ?_
      rintro e w2 ⟨rfl, hb2⟩
      have B2 : Hid (Below w1.heap.size w1 w2) := hB.out.trans (hb2.mono hB.out.size)
      have BC : Hid (Below w.heap.size w w2) := BB.out.trans (hb2.mono BB.out.size)
      have O2 := nrow_below O1.out B2.out
      clear hb2 c0 c1
      cases hr : M.rightB (hf (i * 2)) (hf (i * 2 + 1)) with
      | false =>
        have HC := Lib.hid (Nt.flCode_1 (n := n) (hn := hn) (hf := hf) h4 (fun k => by have h1 := k.ok i hlt; unfold Fq.R Nt.hd at h1; simp only at h1; rw [hr] at h1; cases h1))
        obtain ⟨⟨p0, p1, p2⟩, z0, z1, z2⟩ := rowN3 O2
        have lw2 : w.heap.size + 1 < w2.heap.size := O2.lt
        have HO2 := Lib.hid O2
        clear hr O2
        go_wp2_with fail
        obtain ⟨⟨x0, x1, x2⟩, _⟩ := rowN3 (OC.out 1 _ HO2.out)
        exact bodyPost_ret (v := noV none 0 0 0 1) (by simp [results, Tryz.results34, go_sem, x0, x1, x2]) rfl ⟨by rw [HC.out]; exact AnsF.bad (by decide), ((BC.out.setCell (p := ⟨w.heap.size + 1, 0, none⟩) (Nat.le_succ _) _).setCell (p := ⟨w.heap.size + 1, 1, none⟩) (Nat.le_succ _) _).setCell (p := ⟨w.heap.size + 1, 2, none⟩) (Nat.le_succ _) _⟩
      | true =>
        have HX := Lib.hid hr
        clear hr O2
        go_wp2_with fail
        go_roundw
        case rel =>
          refine ⟨i + 1, by omega, by go_num, B2, fun j hj => ?_⟩
          by_cases ej : j = i
          · subst ej; exact HX.out
          · exact hP.out j (by omega)
        case measure => simp [intOf]; omega
    · obtain rfl : hn = i := by omega
      have HF : Hid (Nt.FlFit n hn hf) := ⟨HR.out, HQ.out, hP.out⟩
      have hln := HF.out.r.ln
      have RR := Lib.hid (nrow_below R1.out hB.out)
      have OO := Lib.hid (nrow_below O1.out hB.out)
      have S0 : Hid (SpS n la lk fa fk wa wk wr.heap.size (wr.heap.size + 1) 0 (Nt.sfl n hf) (Nt.zAt n hf 0) (.slice none 0 0) w ((wr.alloc (.cells #[.int .i64 0] 59)).alloc (.cells #[.slice none 0 0, .int .i64 0, .int .i64 0] 31))) :=
        ⟨nrow_below (nrow_below RR.out (nbel_alloc _ _)) (nbel_alloc _ _), nrow_below (nrow_below OO.out (nbel_alloc _ _)) (nbel_alloc _ _), (BB.out.alloc BB.out.size _).alloc (by have := BB.out.size; simp; omega) _, nrow_below (rowN_alloc _ _ _) (nbel_alloc _ _), rowN_alloc' (by simp) _ _, World.ownsRow_nil _ _ _ _, by have := OO.out.lt; omega⟩
      obtain ⟨⟨r0, r1, r2, r3⟩, _⟩ := rowN4 RR.out
      have lz : w.heap.size + 1 < wr.heap.size := OO.out.lt
      clear hB hP RR OO R1 O1 B1 HQ
      go_wp2_with fail
      clear r0 r1 r2 r3
      generalize hgc : wr.heap.size = gc at *
      obtain ⟨go, hgo⟩ : ∃ go, go = gc + 1 := ⟨_, rfl⟩
      rw [← hgo] at S0 ⊢
      clear hgo
      go_loopw [8] (fun iv wr => ∃ (i : Nat), i ≤ n.ln ∧ iv = .int .i64 i ∧ ∃ v, Hid (SpS n la lk fa fk wa wk gc go i (Nt.sfl n hf) (Nt.zAt n hf i) v w wr)) (fun iv _ => n.ln - (intOf iv).toNat)
      case atStart => exact ⟨0, Nat.zero_le _, rfl, _, S0⟩
      case round =>
      obtain ⟨i, hi, rfl, v, hS⟩ := hrel
      clear S0
      obtain ⟨⟨r0, r1, r2, r3⟩, _⟩ := rowN4 hS.out.row
      have zw : w.heap.size < wr.heap.size := hS.out.row.lt
      by_cases hlt : i < n.ln
      case neg =>
        obtain rfl : i = n.ln := by omega
        obtain ⟨⟨p0, p1, p2⟩, z0, z1, z2⟩ := rowN3 hS.out.res
        obtain ⟨⟨q0, q1, q2⟩, _⟩ := rowN3 hS.out.ro
        have hnum := hS.out.num
        have zr : w.heap.size + 1 < wr.heap.size := hS.out.res.lt
        have zo : go < wr.heap.size := hS.out.ro.lt
        have zc : gc < wr.heap.size := hS.out.rc.lt
        have rc0 := hS.out.rc.cell (i := 0) (by omega)
        simp only [rowN, List.getD_cons_zero] at rc0
        by_cases hall : ∀ j, j < n.ln → Nt.flOk n hf j
        · have S5 := Lib.hid (hS.out.congr (Nt.zAt_ok n.ln hall) (fun j hj => Nt.sfl_ok (hall j hj)))
          rw [Nt.zAt_ok n.ln hall] at rc0
          have HC := Lib.hid (Nt.flCode_0 h4 HF.out hall)
          clear hall hS
          obtain ⟨a, c, hv, hL⟩ := fr_own S5.out.own
          subst hv
          have HL := Lib.hid hL
          clear hL
          go_wp2_with fail
          obtain ⟨⟨x0, x1, x2⟩, _⟩ := rowN3 (rowN_put (rowN_put (rowN_put S5.out.res 0 (.slice a n.ln c) (by simp)) 1 (.int .i64 0) (by simp)) 2 (.int .i64 0) (by simp))
          refine bodyPost_ret (v := noV a n.ln c 0 0) (by simp [results, Tryz.results34, go_sem, x0, x1, x2]) rfl ⟨⟨a, c, by rw [HC.out, if_pos rfl], ?_⟩, ?_⟩
          · rw [HC.out, if_pos rfl]
            refine LsOwn.low (HL.out.same (fun k h1 h2 => ?_)) (by omega)
            have hne : k ≠ w.heap.size + 1 := by omega
            exact (Below.heap_setCell _ ⟨w.heap.size + 1, 2, none⟩ _ _ hne).trans ((Below.heap_setCell _ ⟨w.heap.size + 1, 1, none⟩ _ _ hne).trans (Below.heap_setCell _ ⟨w.heap.size + 1, 0, none⟩ _ _ hne))
          · exact ((S5.out.old.setCell (p := ⟨w.heap.size + 1, 0, none⟩) (Nat.le_succ _) _).setCell (p := ⟨w.heap.size + 1, 1, none⟩) (Nat.le_succ _) _).setCell (p := ⟨w.heap.size + 1, 2, none⟩) (Nat.le_succ _) _
        · obtain ⟨j, hj⟩ := Classical.not_forall.1 hall
          obtain ⟨hj1, hj2⟩ := Classical.not_imp.1 hj
          rw [Nt.zAt_bad n.ln j hj1 hj2] at rc0
          have HC := Lib.hid (Nt.flCode_5 h4 HF.out hj1 hj2)
          clear hall hj hj1 hj2
          go_wp2_with fail
          obtain ⟨⟨x0, x1, x2⟩, _⟩ := rowN3 (OC.out 5 _ hS.out.res)
          exact bodyPost_ret (v := noV none 0 0 0 5) (by simp [results, Tryz.results34, go_sem, x0, x1, x2]) rfl ⟨by rw [HC.out]; exact AnsF.bad (by decide), ((hS.out.old.setCell (p := ⟨w.heap.size + 1, 0, none⟩) (Nat.le_succ _) _).setCell (p := ⟨w.heap.size + 1, 1, none⟩) (Nat.le_succ _) _).setCell (p := ⟨w.heap.size + 1, 2, none⟩) (Nat.le_succ _) _⟩
      have hltz : (i : Int) < (n.ln : Int) := by omega
      obtain ⟨b, e, c0, c1, c2⟩ := (HA.out.below hS.out.old).l.at3 hlt
      obtain ⟨ef, hfr⟩ := HF.out.r.fr hlt
      obtain ⟨et, htt⟩ := HF.out.r.tt hlt
      have hnn := HF.out.nn
      rw [ef] at c0
      rw [et] at c1
      obtain ⟨hb, eh, d0, d1⟩ := HH.out.at2 (i := Nt.fr n i) (by omega)
      obtain ⟨hb', eh', d2, d3⟩ := HH.out.at2 (i := Nt.tt n i) (by omega)
      obtain rfl : hb' = hb := by rw [eh] at eh'; cases eh'; rfl
      have zb : b < wr.heap.size := World.block_lt_of_cell? _ _ c0
      have zh : hb' < w.heap.size := World.block_lt_of_cell? _ _ d0
      subst e eh
      clear eh' ef et
      have D : Hid (w.cell? ⟨hb', Nt.fr n i * 2, none⟩ = some (.int .i64 (Nt.hd hf (Nt.fr n i)).1) ∧ w.cell? ⟨hb', Nt.fr n i * 2 + 1, none⟩ = some (.int .i64 (Nt.hd hf (Nt.fr n i)).2) ∧ w.cell? ⟨hb', Nt.tt n i * 2, none⟩ = some (.int .i64 (Nt.hd hf (Nt.tt n i)).1) ∧ w.cell? ⟨hb', Nt.tt n i * 2 + 1, none⟩ = some (.int .i64 (Nt.hd hf (Nt.tt n i)).2) ∧ hb' < w.heap.size) := ⟨d0, d1, d2, d3, zh⟩
      obtain ⟨W0, hW0⟩ : ∃ W0, W0 = wr.alloc (.cells #[.int .i64 (Nt.fr n i : Nat), .int .i64 (Nt.tt n i : Nat), .int .i64 (n.L (i * 3 + 2))] 68) := ⟨_, rfl⟩
      have SP : Hid (SpS n (some ⟨b, 0, none⟩) lk fa fk wa wk gc go i (Nt.sfl n hf) (Nt.zAt n hf i) v w W0) := by rw [hW0]; exact hS.out.below (nbel_alloc _ _)
      have RL : Hid (W0.rowIs wr.heap.size 68 3 (rowN [.int .i64 (Nt.fr n i : Nat), .int .i64 (Nt.tt n i : Nat), .int .i64 (n.L (i * 3 + 2))])) := by rw [hW0]; exact rowN_alloc wr _ _
      have GCL : Hid (gc < wr.heap.size) := hS.out.rc.lt
      have LO : Hid (go < wr.heap.size ∧ ∀ k, v.ownBlock = some k → k < wr.heap.size) := ⟨hS.out.ro.lt, fun k hk => (hS.out.own.lt k hk).2⟩
      have NM := Lib.hid hS.out.num
      have HW0 := Lib.hid hW0
      have hfz : (Nt.fr n i : Int) < (hn : Int) := by omega
      have htz : (Nt.tt n i : Int) < (hn : Int) := by omega
      clear d0 d1 d2 d3 hW0 hS zh hnn
      go_wp2_with fail
      rw [← HW0.out]
      clear c0 c1 c2 r0 r1 r2 r3 zb
      generalize wr.heap.size = gl at *
      go_cut [10] (fun p V => ∃ gb, p = .pointer (some ⟨gb, 0, none⟩) ∧ Hid (SpS n (some ⟨b, 0, none⟩) lk fa fk wa wk gc go i (Nt.sfl n hf) (Fq.tkz (Nt.dq n hf i) (Nt.zAt n hf i)) v w V ∧ V.rowIs gl 68 3 (rowN [.int .i64 (Nt.fr n i : Nat), .int .i64 (Nt.tt n i : Nat), .int .i64 (n.L (i * 3 + 2))]) ∧ V.rowIs gb 35 2 (rowN [.int .i64 (Fq.tkv (Nt.dq n hf i)).1, .int .i64 (Fq.tkv (Nt.dq n hf i)).2]) ∧ gl < gb))
      case first =>
        refine wp_region_held_drew (S := fun V => Below w.heap.size w V ∧ V.rowIs gl 68 3 (rowN [.int .i64 (Nt.fr n i : Nat), .int .i64 (Nt.tt n i : Nat), .int .i64 (n.L (i * 3 + 2))])) (by kernel_rfl) ⟨SP.out.old.drew, nrow_below RL.out (Below.refl _ _).drew⟩ (fun hHeld => ?_)
        obtain ⟨Z, hZ⟩ : ∃ Z, Z = W0.drew := ⟨_, rfl⟩
        replace SP := Lib.hid (SP.out.below (Below.refl _ _).drew)
        rw [← hZ] at hHeld SP ⊢
        clear hZ
        refine take_do (i := 0) (v := (.pointer (some ⟨gc, 0, none⟩))) rfl (by kernel_rfl) (by kernel_rfl) (by kernel_rfl) (fun _ _ _ h => h) (by rfl) ?_ (by assumption) ?_
        · intro w hSw
          skip
          go_simp
        simp only [Act.put, List.setIfInBounds_toArray, List.set_cons_zero, List.set_cons_succ]
        refine take_do (i := 1) (v := (.slice (some ⟨hb', 0, none⟩) hn hk)) rfl (by kernel_rfl) (by kernel_rfl) (by kernel_rfl) (fun _ _ _ h => h) (by rfl) ?_ (by assumption) ?_
        · intro w hSw
          skip
          go_simp
        simp only [Act.put, List.setIfInBounds_toArray, List.set_cons_zero, List.set_cons_succ]
        refine take_do (i := 2) (v := (.pointer (some ⟨gl, 0, none⟩))) rfl (by kernel_rfl) (by kernel_rfl) (by kernel_rfl) (fun _ _ _ h => h) (by rfl) ?_ (by assumption) ?_
        · intro w hSw
          skip
          go_simp
        simp only [Act.put, List.setIfInBounds_toArray, List.set_cons_zero, List.set_cons_succ]
        refine take_do (i := 3) (v := (.int .i64 (Nt.fr n i : Nat))) rfl (by kernel_rfl) (by kernel_rfl) (by kernel_rfl) (fun _ _ _ h => h) (by rfl) ?_ (by assumption) ?_
        · intro w hSw
          obtain ⟨⟨x0, x1, x2⟩, _⟩ := rowN3 hSw.2
          go_simp
        simp only [Act.put, List.setIfInBounds_toArray, List.set_cons_zero, List.set_cons_succ]
        refine take_do (i := 4) (v := (.pointer (some ⟨hb', Nt.fr n i * 2, none⟩))) rfl (by kernel_rfl) (by kernel_rfl) (by kernel_rfl) (fun _ _ _ h => h) (by rfl) ?_ (by assumption) ?_
        · intro w hSw
          skip
          go_simp
        simp only [Act.put, List.setIfInBounds_toArray, List.set_cons_zero, List.set_cons_succ]
        refine take_do (i := 5) (v := (frV (Nt.hd hf (Nt.fr n i)))) rfl (by kernel_rfl) (by kernel_rfl) (by kernel_rfl) (fun _ _ _ h => h) (by rfl) ?_ (by assumption) ?_
        · intro w hSw
          have y0 := (hSw.1.cell (p := ⟨hb', Nt.fr n i * 2, none⟩) D.out.2.2.2.2).trans D.out.1; have y1 := (hSw.1.cell (p := ⟨hb', Nt.fr n i * 2 + 1, none⟩) D.out.2.2.2.2).trans D.out.2.1; have y2 := (hSw.1.cell (p := ⟨hb', Nt.tt n i * 2, none⟩) D.out.2.2.2.2).trans D.out.2.2.1; have y3 := (hSw.1.cell (p := ⟨hb', Nt.tt n i * 2 + 1, none⟩) D.out.2.2.2.2).trans D.out.2.2.2.1
          go_simp
        simp only [Act.put, List.setIfInBounds_toArray, List.set_cons_zero, List.set_cons_succ]
        refine take_do (i := 6) (v := (.slice (some ⟨hb', 0, none⟩) hn hk)) rfl (by kernel_rfl) (by kernel_rfl) (by kernel_rfl) (fun _ _ _ h => h) (by rfl) ?_ (by assumption) ?_
        · intro w hSw
          skip
          go_simp
        simp only [Act.put, List.setIfInBounds_toArray, List.set_cons_zero, List.set_cons_succ]
        refine take_do (i := 7) (v := (.pointer (some ⟨gl, 1, none⟩))) rfl (by kernel_rfl) (by kernel_rfl) (by kernel_rfl) (fun _ _ _ h => h) (by rfl) ?_ (by assumption) ?_
        · intro w hSw
          skip
          go_simp
        simp only [Act.put, List.setIfInBounds_toArray, List.set_cons_zero, List.set_cons_succ]
        refine take_do (i := 8) (v := (.int .i64 (Nt.tt n i : Nat))) rfl (by kernel_rfl) (by kernel_rfl) (by kernel_rfl) (fun _ _ _ h => h) (by rfl) ?_ (by assumption) ?_
        · intro w hSw
          obtain ⟨⟨x0, x1, x2⟩, _⟩ := rowN3 hSw.2
          go_simp
        simp only [Act.put, List.setIfInBounds_toArray, List.set_cons_zero, List.set_cons_succ]
        refine take_do (i := 9) (v := (.pointer (some ⟨hb', Nt.tt n i * 2, none⟩))) rfl (by kernel_rfl) (by kernel_rfl) (by kernel_rfl) (fun _ _ _ h => h) (by rfl) ?_ (by assumption) ?_
        · intro w hSw
          skip
          go_simp
        simp only [Act.put, List.setIfInBounds_toArray, List.set_cons_zero, List.set_cons_succ]
        refine take_do (i := 10) (v := (frV (Nt.hd hf (Nt.tt n i)))) rfl (by kernel_rfl) (by kernel_rfl) (by kernel_rfl) (fun _ _ _ h => h) (by rfl) ?_ (by assumption) ?_
        · intro w hSw
          have y0 := (hSw.1.cell (p := ⟨hb', Nt.fr n i * 2, none⟩) D.out.2.2.2.2).trans D.out.1; have y1 := (hSw.1.cell (p := ⟨hb', Nt.fr n i * 2 + 1, none⟩) D.out.2.2.2.2).trans D.out.2.1; have y2 := (hSw.1.cell (p := ⟨hb', Nt.tt n i * 2, none⟩) D.out.2.2.2.2).trans D.out.2.2.1; have y3 := (hSw.1.cell (p := ⟨hb', Nt.tt n i * 2 + 1, none⟩) D.out.2.2.2.2).trans D.out.2.2.2.1
          go_simp
        simp only [Act.put, List.setIfInBounds_toArray, List.set_cons_zero, List.set_cons_succ]
        refine wpAnyH_ready (rs := [11, 13]) (by kernel_rfl) (by simp) (AllReadyH.cons (at_drop (i := 11) rfl) (fun K2 hK => ?_) (AllReadyH.cons (at_drop (i := 13) rfl) (fun K2 hK => ?_) (AllReadyH.nil)))
        · go_simp
          refine (nspecSub _ _ _ (HF.out.fr hlt) (HF.out.tt hlt)).mono ?_
          rintro e Z1 ⟨rfl, hb⟩
          replace SP := Lib.hid (SP.out.below hb)
          have hq := nrow_below hHeld.2 hb
          go_wp2_with fail
          refine hK.out _ _ ⟨SP.out.old, hq⟩ (fun hHeld2 => ?_)
          clear hK hHeld
          have hHeld := hHeld2
          clear hHeld2
          clear hb hq
          refine wpAnyH_ready (rs := [12, 13]) (by kernel_rfl) (by simp) (AllReadyH.cons (at_drop (i := 12) rfl) (fun K2 hK => ?_) (AllReadyH.cons (at_drop (i := 13) rfl) (fun K2 hK => ?_) (AllReadyH.nil)))
          · go_simp
            refine (take_any gc (Nt.dq n hf i) _ _ SP.out.rc).mono ?_
            rintro e Z2 ⟨rfl, hr, ho⟩
            replace SP := Lib.hid (SP.out.take hr ho)
            have hq := hHeld.2.of_block (ho.block _ hHeld.2.lt (by have h2 := GCL.out; omega))
            go_wp2_with fail
            refine hK.out _ _ ⟨SP.out.old, hq⟩ (fun hHeld2 => ?_)
            clear hK hHeld
            have hHeld := hHeld2
            clear hHeld2
            clear hr ho hq
            refine take_call (i := 13) rfl (by kernel_rfl) (fun K2 hK => ?_)
            obtain ⟨Z3, hZ3⟩ : ∃ Z3, Z3 = Z2.alloc (.cells #[.int .i64 0, .int .i64 0] 35) := ⟨_, rfl⟩
            have hb : Below Z2.heap.size Z2 Z3 := by rw [hZ3]; exact nbel_alloc _ _
            obtain ⟨gb, hgb⟩ : ∃ gb, gb = Z2.heap.size := ⟨_, rfl⟩
            have RZ : Hid (Z3.rowIs gb 35 2 (rowN [.int .i64 0, .int .i64 0])) := by show World.rowIs _ _ _ _ _; rw [hZ3, hgb]; exact rowN_alloc _ _ _
            have HGB : Hid (gl < gb) := by show _ < _; rw [hgb]; exact hHeld.2.lt
            replace SP := Lib.hid (SP.out.below hb)
            have hq := nrow_below hHeld.2 hb
            go_simp
            rw [← hZ3, ← hgb]
            refine hK.out _ _ ⟨SP.out.old, hq⟩ (fun hHeld2 => ?_)
            clear hK hHeld
            have hHeld := hHeld2
            clear hHeld2
            clear hb hq hZ3 hgb
            have o0 := RZ.out.cell (i := 0) (by omega)
            have o1 := RZ.out.cell (i := 1) (by omega)
            have z0 := RZ.out.frozen 0
            have z1 := RZ.out.frozen 1
            have l0 := RZ.out.lt
            obtain ⟨WZ, hWZ⟩ : ∃ WZ, WZ = (Z3.setCell ⟨gb, 0, none⟩ (.int .i64 (Fq.tkv (Nt.dq n hf i)).1)).setCell ⟨gb, 1, none⟩ (.int .i64 (Fq.tkv (Nt.dq n hf i)).2) := ⟨_, rfl⟩
            have same : ∀ k, k ≠ gb → WZ.heap[k]? = Z3.heap[k]? := fun k hk => by rw [hWZ]; exact (Below.heap_setCell _ ⟨gb, 1, none⟩ _ _ hk).trans (Below.heap_setCell _ ⟨gb, 0, none⟩ _ _ hk)
            have hgx := HGB.out
            have hbz : Below gl Z3 WZ := by rw [hWZ]; exact ((Below.refl _ _).setCell (p := ⟨gb, 0, none⟩) (by show gl ≤ gb; omega) _).setCell (p := ⟨gb, 1, none⟩) (by show gl ≤ gb; omega) _
            have SZ := Lib.hid (SP.out.belowG hbz LO.out)
            have HFM : Hid (WZ.rowIs gb 35 2 (rowN [.int .i64 (Fq.tkv (Nt.dq n hf i)).1, .int .i64 (Fq.tkv (Nt.dq n hf i)).2])) := by show World.rowIs _ _ _ _ _; rw [hWZ]; exact rowN_put (rowN_put RZ.out 0 _ (by simp)) 1 _ (by simp)
            have SL : Hid (WZ.rowIs gl 68 3 (rowN [.int .i64 (Nt.fr n i : Nat), .int .i64 (Nt.tt n i : Nat), .int .i64 (n.L (i * 3 + 2))])) := hHeld.2.of_block (same _ (by omega))
            have HWZ := Lib.hid hWZ
            clear hWZ same hbz
            refine take_call (i := 14) rfl (by kernel_rfl) (fun K2 hK => ?_)
            go_simp
            rw [← HWZ.out]
            refine hK.out _ _ ⟨SZ.out.old, SL.out⟩ (fun hHeld2 => ?_)
            clear hK hHeld hHeld2 HWZ o0 o1 z0 z1 l0 SP RZ
            refine wpAnyH_done (by kernel_rfl) ?_ _
            go_wp2_with fail
            go_meet
            case rel => exact ⟨gb, rfl, SZ.out, SL.out, HFM.out, HGB.out⟩
          · obtain ⟨Z4, hZ4⟩ : ∃ Z4, Z4 = Z1.alloc (.cells #[.int .i64 0, .int .i64 0] 35) := ⟨_, rfl⟩
            have hb : Below Z1.heap.size Z1 Z4 := by rw [hZ4]; exact nbel_alloc _ _
            obtain ⟨gb, hgb⟩ : ∃ gb, gb = Z1.heap.size := ⟨_, rfl⟩
            have RZ : Hid (Z4.rowIs gb 35 2 (rowN [.int .i64 0, .int .i64 0])) := by show World.rowIs _ _ _ _ _; rw [hZ4, hgb]; exact rowN_alloc _ _ _
            have HGB : Hid (gl < gb) := by show _ < _; rw [hgb]; exact hHeld.2.lt
            replace SP := Lib.hid (SP.out.below hb)
            have hq := nrow_below hHeld.2 hb
            go_simp
            rw [← hZ4, ← hgb]
            refine hK.out _ _ ⟨SP.out.old, hq⟩ (fun hHeld2 => ?_)
            clear hK hHeld
            have hHeld := hHeld2
            clear hHeld2
            clear hb hq hZ4 hgb
            refine take_call (i := 12) rfl (by kernel_rfl) (fun K2 hK => ?_)
            go_simp
            refine (take_any gc (Nt.dq n hf i) _ _ SP.out.rc).mono ?_
            rintro e Z5 ⟨rfl, hr, ho⟩
            replace RZ := Lib.hid (RZ.out.of_block (ho.block _ RZ.out.lt (by have h1 := HGB.out; have h2 := GCL.out; omega)))
            replace SP := Lib.hid (SP.out.take hr ho)
            have hq := hHeld.2.of_block (ho.block _ hHeld.2.lt (by have h2 := GCL.out; omega))
            go_wp2_with fail
            refine hK.out _ _ ⟨SP.out.old, hq⟩ (fun hHeld2 => ?_)
            clear hK hHeld
            have hHeld := hHeld2
            clear hHeld2
            clear hr ho hq
            have o0 := RZ.out.cell (i := 0) (by omega)
            have o1 := RZ.out.cell (i := 1) (by omega)
            have z0 := RZ.out.frozen 0
            have z1 := RZ.out.frozen 1
            have l0 := RZ.out.lt
            obtain ⟨WZ, hWZ⟩ : ∃ WZ, WZ = (Z5.setCell ⟨gb, 0, none⟩ (.int .i64 (Fq.tkv (Nt.dq n hf i)).1)).setCell ⟨gb, 1, none⟩ (.int .i64 (Fq.tkv (Nt.dq n hf i)).2) := ⟨_, rfl⟩
            have same : ∀ k, k ≠ gb → WZ.heap[k]? = Z5.heap[k]? := fun k hk => by rw [hWZ]; exact (Below.heap_setCell _ ⟨gb, 1, none⟩ _ _ hk).trans (Below.heap_setCell _ ⟨gb, 0, none⟩ _ _ hk)
            have hgx := HGB.out
            have hbz : Below gl Z5 WZ := by rw [hWZ]; exact ((Below.refl _ _).setCell (p := ⟨gb, 0, none⟩) (by show gl ≤ gb; omega) _).setCell (p := ⟨gb, 1, none⟩) (by show gl ≤ gb; omega) _
            have SZ := Lib.hid (SP.out.belowG hbz LO.out)
            have HFM : Hid (WZ.rowIs gb 35 2 (rowN [.int .i64 (Fq.tkv (Nt.dq n hf i)).1, .int .i64 (Fq.tkv (Nt.dq n hf i)).2])) := by show World.rowIs _ _ _ _ _; rw [hWZ]; exact rowN_put (rowN_put RZ.out 0 _ (by simp)) 1 _ (by simp)
            have SL : Hid (WZ.rowIs gl 68 3 (rowN [.int .i64 (Nt.fr n i : Nat), .int .i64 (Nt.tt n i : Nat), .int .i64 (n.L (i * 3 + 2))])) := hHeld.2.of_block (same _ (by omega))
            have HWZ := Lib.hid hWZ
            clear hWZ same hbz
            refine take_call (i := 14) rfl (by kernel_rfl) (fun K2 hK => ?_)
            go_simp
            rw [← HWZ.out]
            refine hK.out _ _ ⟨SZ.out.old, SL.out⟩ (fun hHeld2 => ?_)
            clear hK hHeld hHeld2 HWZ o0 o1 z0 z1 l0 SP RZ
            refine wpAnyH_done (by kernel_rfl) ?_ _
            go_wp2_with fail
            go_meet
            case rel => exact ⟨gb, rfl, SZ.out, SL.out, HFM.out, HGB.out⟩
        · obtain ⟨Z6, hZ6⟩ : ∃ Z6, Z6 = Z.alloc (.cells #[.int .i64 0, .int .i64 0] 35) := ⟨_, rfl⟩
          have hb : Below Z.heap.size Z Z6 := by rw [hZ6]; exact nbel_alloc _ _
          obtain ⟨gb, hgb⟩ : ∃ gb, gb = Z.heap.size := ⟨_, rfl⟩
          have RZ : Hid (Z6.rowIs gb 35 2 (rowN [.int .i64 0, .int .i64 0])) := by show World.rowIs _ _ _ _ _; rw [hZ6, hgb]; exact rowN_alloc _ _ _
          have HGB : Hid (gl < gb) := by show _ < _; rw [hgb]; exact hHeld.2.lt
          replace SP := Lib.hid (SP.out.below hb)
          have hq := nrow_below hHeld.2 hb
          go_simp
          rw [← hZ6, ← hgb]
          refine hK.out _ _ ⟨SP.out.old, hq⟩ (fun hHeld2 => ?_)
          clear hK hHeld
          have hHeld := hHeld2
          clear hHeld2
          clear hb hq hZ6 hgb
          refine take_call (i := 11) rfl (by kernel_rfl) (fun K2 hK => ?_)
          go_simp
          refine (nspecSub _ _ _ (HF.out.fr hlt) (HF.out.tt hlt)).mono ?_
          rintro e Z7 ⟨rfl, hb⟩
          replace SP := Lib.hid (SP.out.below hb)
          replace RZ := Lib.hid (nrow_below RZ.out hb)
          have hq := nrow_below hHeld.2 hb
          go_wp2_with fail
          refine hK.out _ _ ⟨SP.out.old, hq⟩ (fun hHeld2 => ?_)
          clear hK hHeld
          have hHeld := hHeld2
          clear hHeld2
          clear hb hq
          refine take_call (i := 12) rfl (by kernel_rfl) (fun K2 hK => ?_)
          go_simp
          refine (take_any gc (Nt.dq n hf i) _ _ SP.out.rc).mono ?_
          rintro e Z8 ⟨rfl, hr, ho⟩
          replace RZ := Lib.hid (RZ.out.of_block (ho.block _ RZ.out.lt (by have h1 := HGB.out; have h2 := GCL.out; omega)))
          replace SP := Lib.hid (SP.out.take hr ho)
          have hq := hHeld.2.of_block (ho.block _ hHeld.2.lt (by have h2 := GCL.out; omega))
          go_wp2_with fail
          refine hK.out _ _ ⟨SP.out.old, hq⟩ (fun hHeld2 => ?_)
          clear hK hHeld
          have hHeld := hHeld2
          clear hHeld2
          clear hr ho hq
          have o0 := RZ.out.cell (i := 0) (by omega)
          have o1 := RZ.out.cell (i := 1) (by omega)
          have z0 := RZ.out.frozen 0
          have z1 := RZ.out.frozen 1
          have l0 := RZ.out.lt
          obtain ⟨WZ, hWZ⟩ : ∃ WZ, WZ = (Z8.setCell ⟨gb, 0, none⟩ (.int .i64 (Fq.tkv (Nt.dq n hf i)).1)).setCell ⟨gb, 1, none⟩ (.int .i64 (Fq.tkv (Nt.dq n hf i)).2) := ⟨_, rfl⟩
          have same : ∀ k, k ≠ gb → WZ.heap[k]? = Z8.heap[k]? := fun k hk => by rw [hWZ]; exact (Below.heap_setCell _ ⟨gb, 1, none⟩ _ _ hk).trans (Below.heap_setCell _ ⟨gb, 0, none⟩ _ _ hk)
          have hgx := HGB.out
          have hbz : Below gl Z8 WZ := by rw [hWZ]; exact ((Below.refl _ _).setCell (p := ⟨gb, 0, none⟩) (by show gl ≤ gb; omega) _).setCell (p := ⟨gb, 1, none⟩) (by show gl ≤ gb; omega) _
          have SZ := Lib.hid (SP.out.belowG hbz LO.out)
          have HFM : Hid (WZ.rowIs gb 35 2 (rowN [.int .i64 (Fq.tkv (Nt.dq n hf i)).1, .int .i64 (Fq.tkv (Nt.dq n hf i)).2])) := by show World.rowIs _ _ _ _ _; rw [hWZ]; exact rowN_put (rowN_put RZ.out 0 _ (by simp)) 1 _ (by simp)
          have SL : Hid (WZ.rowIs gl 68 3 (rowN [.int .i64 (Nt.fr n i : Nat), .int .i64 (Nt.tt n i : Nat), .int .i64 (n.L (i * 3 + 2))])) := hHeld.2.of_block (same _ (by omega))
          have HWZ := Lib.hid hWZ
          clear hWZ same hbz
          refine take_call (i := 14) rfl (by kernel_rfl) (fun K2 hK => ?_)
          go_simp
          rw [← HWZ.out]
          refine hK.out _ _ ⟨SZ.out.old, SL.out⟩ (fun hHeld2 => ?_)
          clear hK hHeld hHeld2 HWZ o0 o1 z0 z1 l0 SP RZ
          refine wpAnyH_done (by kernel_rfl) ?_ _
          go_wp2_with fail
          go_meet
          case rel => exact ⟨gb, rfl, SZ.out, SL.out, HFM.out, HGB.out⟩
      case rest =>
        obtain ⟨gb, rfl, hC⟩ := hcut
        obtain ⟨V0, hV0⟩ : ∃ V0, V0 = wc := ⟨_, rfl⟩
        rw [← hV0] at hC ⊢
        clear hV0
        replace SP := Lib.hid hC.out.1
        have RL2 := Lib.hid hC.out.2.1
        have RB := Lib.hid hC.out.2.2.1
        have NUM : Hid (gc < go ∧ go < gl ∧ gl < gb) := ⟨NM.out.2, LO.out.1, hC.out.2.2.2⟩
        have OWL : Hid (∀ k, v.ownBlock = some k → k < gl) := LO.out.2
        have RD := Lib.hid (Fq.tkv_right (Fq.sub_fit (HF.out.fr hlt) (HF.out.tt hlt)))
        have GZ := Lib.hid (HF.out.r.l i hlt).2.2.2
        clear hC RL D HW0 LO NM GCL
        go_wp2_with fail
        refine wp_region_held_drew (S := fun V => V.rowIs gl 68 3 (rowN [.int .i64 (Nt.fr n i : Nat), .int .i64 (Nt.tt n i : Nat), .int .i64 (n.L (i * 3 + 2))]) ∧ V.rowIs gb 35 2 (rowN [.int .i64 (Fq.tkv (Nt.dq n hf i)).1, .int .i64 (Fq.tkv (Nt.dq n hf i)).2])) (by kernel_rfl) ⟨nrow_below RL2.out (Below.refl _ _).drew, nrow_below RB.out (Below.refl _ _).drew⟩ (fun hHeld => ?_)
        obtain ⟨Z, hZ⟩ : ∃ Z, Z = V0.drew := ⟨_, rfl⟩
        replace SP := Lib.hid (SP.out.below (Below.refl _ _).drew)
        rw [← hZ] at hHeld SP ⊢
        clear hZ
        refine take_do (i := 0) (v := (.pointer (some ⟨go, 0, none⟩))) rfl (by kernel_rfl) (by kernel_rfl) (by kernel_rfl) (fun _ _ _ h => h) (by rfl) ?_ (by assumption) ?_
        · intro w hSw
          skip
          go_simp
        simp only [Act.put, List.setIfInBounds_toArray, List.set_cons_zero, List.set_cons_succ]
        refine take_do (i := 2) (v := (.pointer (some ⟨gc, 0, none⟩))) rfl (by kernel_rfl) (by kernel_rfl) (by kernel_rfl) (fun _ _ _ h => h) (by rfl) ?_ (by assumption) ?_
        · intro w hSw
          skip
          go_simp
        simp only [Act.put, List.setIfInBounds_toArray, List.set_cons_zero, List.set_cons_succ]
        refine take_do (i := 3) (v := (.pointer (some ⟨gc, 0, none⟩))) rfl (by kernel_rfl) (by kernel_rfl) (by kernel_rfl) (fun _ _ _ h => h) (by rfl) ?_ (by assumption) ?_
        · intro w hSw
          skip
          go_simp
        simp only [Act.put, List.setIfInBounds_toArray, List.set_cons_zero, List.set_cons_succ]
        refine take_do (i := 4) (v := (.pointer (some ⟨gl, 2, none⟩))) rfl (by kernel_rfl) (by kernel_rfl) (by kernel_rfl) (fun _ _ _ h => h) (by rfl) ?_ (by assumption) ?_
        · intro w hSw
          skip
          go_simp
        simp only [Act.put, List.setIfInBounds_toArray, List.set_cons_zero, List.set_cons_succ]
        refine take_do (i := 5) (v := (.int .i64 (n.L (i * 3 + 2)))) rfl (by kernel_rfl) (by kernel_rfl) (by kernel_rfl) (fun _ _ _ h => h) (by rfl) ?_ (by assumption) ?_
        · intro w hSw
          obtain ⟨⟨x0, x1, x2⟩, _⟩ := rowN3 hSw.1
          go_simp
        simp only [Act.put, List.setIfInBounds_toArray, List.set_cons_zero, List.set_cons_succ]
        refine take_do (i := 8) (v := (frV (Fq.tkv (Nt.dq n hf i)))) rfl (by kernel_rfl) (by kernel_rfl) (by kernel_rfl) (fun _ _ _ h => h) (by rfl) ?_ (by assumption) ?_
        · intro w hSw
          obtain ⟨⟨y0, y1⟩, _⟩ := rowN2 hSw.2
          go_simp
        simp only [Act.put, List.setIfInBounds_toArray, List.set_cons_zero, List.set_cons_succ]
        refine wpAnyH_ready (rs := [1, 6]) (by kernel_rfl) (by simp) (AllReadyH.cons (at_drop (i := 1) rfl) (fun K2 hK => ?_) (AllReadyH.cons (at_drop (i := 6) rfl) (fun K2 hK => ?_) (AllReadyH.nil)))
        · have o0 := SP.out.ro.cell (i := 0) (by omega)
          simp only [rowN, List.getD_cons_zero] at o0
          go_simp
          refine hK.out _ _ hHeld (fun hHeld2 => ?_)
          clear hK hHeld
          have hHeld := hHeld2
          clear hHeld2
          clear o0
          refine take_call (i := 6) rfl (by kernel_rfl) (fun K2 hK => ?_)
          go_simp
          refine (specOf_any (n.L (i * 3 + 2)) 1 _ (by have := GZ.out; omega) (by have := GZ.out; omega) (by omega) (by omega)).mono ?_
          rintro e Z10 ⟨rfl, hb⟩
          replace SP := Lib.hid (SP.out.below hb)
          have hq := And.intro (nrow_below hHeld.1 hb) (nrow_below hHeld.2 hb)
          go_wp2_with fail
          refine hK.out _ _ hq (fun hHeld2 => ?_)
          clear hK hHeld
          have hHeld := hHeld2
          clear hHeld2
          clear hb hq
          refine take_call (i := 7) rfl (by kernel_rfl) (fun K2 hK => ?_)
          go_simp
          refine (take_of gc _ _ _ (by have := GZ.out; omega) (by have := GZ.out; omega) SP.out.rc).mono ?_
          rintro e Z11 ⟨rfl, hr, ho⟩
          have hq := And.intro (hHeld.1.of_block (ho.block _ hHeld.1.lt (by have h1 := NUM.out; omega))) (hHeld.2.of_block (ho.block _ hHeld.2.lt (by have h1 := NUM.out; omega)))
          replace SP := Lib.hid (SP.out.take hr ho)
          go_wp2_with fail
          refine hK.out _ _ hq (fun hHeld2 => ?_)
          clear hK hHeld
          have hHeld := hHeld2
          clear hHeld2
          clear hr ho hq
          refine take_call (i := 9) rfl (by kernel_rfl) (fun K2 hK => ?_)
          go_simp
          refine (nspecMul (Nt.gq n i) _ _ (Nt.gq_right HF.out.r hlt) RD.out).mono ?_
          rintro e Z12 ⟨rfl, hb⟩
          replace SP := Lib.hid (SP.out.below hb)
          have hq := And.intro (nrow_below hHeld.1 hb) (nrow_below hHeld.2 hb)
          go_wp2_with fail
          refine hK.out _ _ hq (fun hHeld2 => ?_)
          clear hK hHeld
          have hHeld := hHeld2
          clear hHeld2
          clear hb hq
          refine take_call (i := 10) rfl (by kernel_rfl) (fun K2 hK => ?_)
          go_simp
          refine (take_any gc (Nt.smq n hf i) _ _ SP.out.rc).mono ?_
          rintro e Z13 ⟨rfl, hr, ho⟩
          have hq := And.intro (hHeld.1.of_block (ho.block _ hHeld.1.lt (by have h1 := NUM.out; omega))) (hHeld.2.of_block (ho.block _ hHeld.2.lt (by have h1 := NUM.out; omega)))
          replace SP := Lib.hid (SP.out.take hr ho)
          go_wp2_with fail
          refine hK.out _ _ hq (fun hHeld2 => ?_)
          clear hK hHeld
          have hHeld := hHeld2
          clear hHeld2
          clear hr ho hq
          refine take_call (i := 11) rfl (by kernel_rfl) (fun K2 hK => ?_)
          obtain ⟨Z14, hZ14⟩ : ∃ Z14, Z14 = Z13.alloc (.cells #[.int .i64 (Fq.tkv (Nt.smq n hf i)).1, .int .i64 (Fq.tkv (Nt.smq n hf i)).2] 35) := ⟨_, rfl⟩
          have hb : Below Z13.heap.size Z13 Z14 := by rw [hZ14]; exact nbel_alloc _ _
          obtain ⟨gx, hgx⟩ : ∃ gx, gx = Z13.heap.size := ⟨_, rfl⟩
          have RX : Hid (Z14.rowIs gx 35 2 (rowN [.int .i64 (Fq.tkv (Nt.smq n hf i)).1, .int .i64 (Fq.tkv (Nt.smq n hf i)).2])) := by show World.rowIs _ _ _ _ _; rw [hZ14, hgx]; exact rowN_alloc _ _ _
          replace SP := Lib.hid (SP.out.below hb)
          have hq := And.intro (nrow_below hHeld.1 hb) (nrow_below hHeld.2 hb)
          go_simp
          rw [← hZ14, ← hgx]
          refine hK.out _ _ hq (fun hHeld2 => ?_)
          clear hK hHeld
          have hHeld := hHeld2
          clear hHeld2
          clear hb hq hZ14 hgx
          refine take_call (i := 12) rfl (by kernel_rfl) (fun K2 hK => ?_)
          obtain ⟨i1, hi1, hy0, hy1, hy2⟩ := info_parts ninfo_fr
          have HO0 := Lib.hid SP.out.own
          have hsz := SP.out.ro.lt
          refine step_append_lies _ rfl (.tmp 68) (.tmp 78) 29 rfl (go + 1) 35 i1 (.agg #[.int .i64 0, .int .i64 0]) 2 16 Tryz.underlying29 hi1 hy0 hy1 hy2 rfl (by decide) v i _ rfl HO0.out ⟨gx, 0, none⟩ 1 1 [.int .i64 (Fq.tkv (Nt.smq n hf i)).1, .int .i64 (Fq.tkv (Nt.smq n hf i)).2] rfl rfl ?_ ?_ (by omega) (by unfold maxLen; omega) (by omega) (by omega) _ rfl ?_
          · intro j u hj
            match j, hj with
            | 0, hj => (simp at hj; subst hj; have := RX.out.cell (i := 0) (by omega); simpa [Addr.add, rowN] using this)
            | 1, hj => (simp at hj; subst hj; have := RX.out.cell (i := 1) (by omega); simpa [Addr.add, rowN] using this)
          · intro u hu
            simp at hu
            rcases hu with rfl | rfl <;> rfl
          intro g cap Z15 hown hgrow hat hlt3
          have hown2 : Z15.ownsRow (go + 1) 35 2 (.slice (some ⟨g, 0, none⟩) (i + 1) cap) (i + 1) (frVs (Nt.sfl n hf) (i + 1)) := by rw [frVs_succ]; exact hown
          have SQ : Hid (Z15.rowIs go 31 3 (rowN [v, .int .i64 0, .int .i64 0]) ∧ SpS n (some ⟨b, 0, none⟩) lk fa fk wa wk gc go (i + 1) (Nt.sfl n hf) (Fq.tkz (Nt.smq n hf i) (Fq.tkz (Nt.dq n hf i) (Nt.zAt n hf i))) (.slice (some ⟨g, 0, none⟩) (i + 1) cap) w (Z15.setCell ⟨go, 0, none⟩ (.slice (some ⟨g, 0, none⟩) (i + 1) cap))) := ⟨SP.out.ro.of_block (hgrow.block _ SP.out.ro.lt (fun e => by have := (SP.out.own.lt _ e.symm).1; omega)), SP.out.grow hown2 hgrow⟩
          have hq := And.intro (hHeld.1.of_block (hgrow.block _ hHeld.1.lt (fun e => by have h1 := OWL.out _ e.symm; omega))) (hHeld.2.of_block (hgrow.block _ hHeld.2.lt (fun e => by have h1 := OWL.out _ e.symm; have h2 := NUM.out; omega)))
          refine hK.out _ _ hq (fun hHeld2 => ?_)
          clear hK hHeld
          have hHeld := hHeld2
          clear hHeld2
          clear hq hown hown2 hgrow hat hlt3 SP HO0 hsz RX
          simp only [Act.put, List.setIfInBounds_toArray, List.set_cons_zero, List.set_cons_succ]
          refine take_do (i := 13) (v := (.pointer (some ⟨go, 0, none⟩))) rfl (by kernel_rfl) (by kernel_rfl) (by kernel_rfl) (fun _ _ _ h => h) (by rfl) ?_ (by assumption) ?_
          · intro w hSw
            skip
            go_simp
          simp only [Act.put, List.setIfInBounds_toArray, List.set_cons_zero, List.set_cons_succ]
          have RO := SQ.out.1
          have o0 := RO.cell (i := 0) (by omega)
          have z0 := RO.frozen 0
          have l0 := RO.lt
          obtain ⟨WZ, hWZ⟩ : ∃ WZ, WZ = Z15.setCell ⟨go, 0, none⟩ (.slice (some ⟨g, 0, none⟩) (i + 1) cap) := ⟨_, rfl⟩
          have SZ : Hid (SpS n (some ⟨b, 0, none⟩) lk fa fk wa wk gc go (i + 1) (Nt.sfl n hf) (Fq.tkz (Nt.smq n hf i) (Fq.tkz (Nt.dq n hf i) (Nt.zAt n hf i))) (.slice (some ⟨g, 0, none⟩) (i + 1) cap) w WZ) := by rw [hWZ]; exact SQ.out.2
          have hq : (fun V => V.rowIs gl 68 3 (rowN [.int .i64 (Nt.fr n i : Nat), .int .i64 (Nt.tt n i : Nat), .int .i64 (n.L (i * 3 + 2))]) ∧ V.rowIs gb 35 2 (rowN [.int .i64 (Fq.tkv (Nt.dq n hf i)).1, .int .i64 (Fq.tkv (Nt.dq n hf i)).2])) WZ := by rw [hWZ]; exact And.intro (nrow_set hHeld.1 (p := ⟨go, 0, none⟩) (by have h1 := NUM.out; show gl ≠ go; omega) _) (nrow_set hHeld.2 (p := ⟨go, 0, none⟩) (by have h1 := NUM.out; show gb ≠ go; omega) _)
          have HWZ := Lib.hid hWZ
          clear hWZ RO
          refine take_call (i := 14) rfl (by kernel_rfl) (fun K2 hK => ?_)
          go_simp
          rw [← HWZ.out]
          refine hK.out _ _ hq (fun hHeld2 => ?_)
          clear hK hHeld hHeld2 HWZ o0 z0 l0 SQ hq
          refine wpAnyH_done (by kernel_rfl) ?_ _
          go_wp2_with fail
          go_roundw
          case rel => exact ⟨i + 1, by omega, by go_num, _, SZ⟩
          case measure => simp [intOf]; omega
        · go_simp
          refine (specOf_any (n.L (i * 3 + 2)) 1 _ (by have := GZ.out; omega) (by have := GZ.out; omega) (by omega) (by omega)).mono ?_
          rintro e Z16 ⟨rfl, hb⟩
          replace SP := Lib.hid (SP.out.below hb)
          have hq := And.intro (nrow_below hHeld.1 hb) (nrow_below hHeld.2 hb)
          go_wp2_with fail
          refine hK.out _ _ hq (fun hHeld2 => ?_)
          clear hK hHeld
          have hHeld := hHeld2
          clear hHeld2
          clear hb hq
          refine wpAnyH_ready (rs := [1, 7]) (by kernel_rfl) (by simp) (AllReadyH.cons (at_drop (i := 1) rfl) (fun K2 hK => ?_) (AllReadyH.cons (at_drop (i := 7) rfl) (fun K2 hK => ?_) (AllReadyH.nil)))
          · have o0 := SP.out.ro.cell (i := 0) (by omega)
            simp only [rowN, List.getD_cons_zero] at o0
            go_simp
            refine hK.out _ _ hHeld (fun hHeld2 => ?_)
            clear hK hHeld
            have hHeld := hHeld2
            clear hHeld2
            clear o0
            refine take_call (i := 7) rfl (by kernel_rfl) (fun K2 hK => ?_)
            go_simp
            refine (take_of gc _ _ _ (by have := GZ.out; omega) (by have := GZ.out; omega) SP.out.rc).mono ?_
            rintro e Z18 ⟨rfl, hr, ho⟩
            have hq := And.intro (hHeld.1.of_block (ho.block _ hHeld.1.lt (by have h1 := NUM.out; omega))) (hHeld.2.of_block (ho.block _ hHeld.2.lt (by have h1 := NUM.out; omega)))
            replace SP := Lib.hid (SP.out.take hr ho)
            go_wp2_with fail
            refine hK.out _ _ hq (fun hHeld2 => ?_)
            clear hK hHeld
            have hHeld := hHeld2
            clear hHeld2
            clear hr ho hq
            refine take_call (i := 9) rfl (by kernel_rfl) (fun K2 hK => ?_)
            go_simp
            refine (nspecMul (Nt.gq n i) _ _ (Nt.gq_right HF.out.r hlt) RD.out).mono ?_
            rintro e Z19 ⟨rfl, hb⟩
            replace SP := Lib.hid (SP.out.below hb)
            have hq := And.intro (nrow_below hHeld.1 hb) (nrow_below hHeld.2 hb)
            go_wp2_with fail
            refine hK.out _ _ hq (fun hHeld2 => ?_)
            clear hK hHeld
            have hHeld := hHeld2
            clear hHeld2
            clear hb hq
            refine take_call (i := 10) rfl (by kernel_rfl) (fun K2 hK => ?_)
            go_simp
            refine (take_any gc (Nt.smq n hf i) _ _ SP.out.rc).mono ?_
            rintro e Z20 ⟨rfl, hr, ho⟩
            have hq := And.intro (hHeld.1.of_block (ho.block _ hHeld.1.lt (by have h1 := NUM.out; omega))) (hHeld.2.of_block (ho.block _ hHeld.2.lt (by have h1 := NUM.out; omega)))
            replace SP := Lib.hid (SP.out.take hr ho)
            go_wp2_with fail
            refine hK.out _ _ hq (fun hHeld2 => ?_)
            clear hK hHeld
            have hHeld := hHeld2
            clear hHeld2
            clear hr ho hq
            refine take_call (i := 11) rfl (by kernel_rfl) (fun K2 hK => ?_)
            obtain ⟨Z21, hZ21⟩ : ∃ Z21, Z21 = Z20.alloc (.cells #[.int .i64 (Fq.tkv (Nt.smq n hf i)).1, .int .i64 (Fq.tkv (Nt.smq n hf i)).2] 35) := ⟨_, rfl⟩
            have hb : Below Z20.heap.size Z20 Z21 := by rw [hZ21]; exact nbel_alloc _ _
            obtain ⟨gx, hgx⟩ : ∃ gx, gx = Z20.heap.size := ⟨_, rfl⟩
            have RX : Hid (Z21.rowIs gx 35 2 (rowN [.int .i64 (Fq.tkv (Nt.smq n hf i)).1, .int .i64 (Fq.tkv (Nt.smq n hf i)).2])) := by show World.rowIs _ _ _ _ _; rw [hZ21, hgx]; exact rowN_alloc _ _ _
            replace SP := Lib.hid (SP.out.below hb)
            have hq := And.intro (nrow_below hHeld.1 hb) (nrow_below hHeld.2 hb)
            go_simp
            rw [← hZ21, ← hgx]
            refine hK.out _ _ hq (fun hHeld2 => ?_)
            clear hK hHeld
            have hHeld := hHeld2
            clear hHeld2
            clear hb hq hZ21 hgx
            refine take_call (i := 12) rfl (by kernel_rfl) (fun K2 hK => ?_)
            obtain ⟨i1, hi1, hy0, hy1, hy2⟩ := info_parts ninfo_fr
            have HO0 := Lib.hid SP.out.own
            have hsz := SP.out.ro.lt
            refine step_append_lies _ rfl (.tmp 68) (.tmp 78) 29 rfl (go + 1) 35 i1 (.agg #[.int .i64 0, .int .i64 0]) 2 16 Tryz.underlying29 hi1 hy0 hy1 hy2 rfl (by decide) v i _ rfl HO0.out ⟨gx, 0, none⟩ 1 1 [.int .i64 (Fq.tkv (Nt.smq n hf i)).1, .int .i64 (Fq.tkv (Nt.smq n hf i)).2] rfl rfl ?_ ?_ (by omega) (by unfold maxLen; omega) (by omega) (by omega) _ rfl ?_
            · intro j u hj
              match j, hj with
              | 0, hj => (simp at hj; subst hj; have := RX.out.cell (i := 0) (by omega); simpa [Addr.add, rowN] using this)
              | 1, hj => (simp at hj; subst hj; have := RX.out.cell (i := 1) (by omega); simpa [Addr.add, rowN] using this)
            · intro u hu
              simp at hu
              rcases hu with rfl | rfl <;> rfl
            intro g cap Z22 hown hgrow hat hlt3
            have hown2 : Z22.ownsRow (go + 1) 35 2 (.slice (some ⟨g, 0, none⟩) (i + 1) cap) (i + 1) (frVs (Nt.sfl n hf) (i + 1)) := by rw [frVs_succ]; exact hown
            have SQ : Hid (Z22.rowIs go 31 3 (rowN [v, .int .i64 0, .int .i64 0]) ∧ SpS n (some ⟨b, 0, none⟩) lk fa fk wa wk gc go (i + 1) (Nt.sfl n hf) (Fq.tkz (Nt.smq n hf i) (Fq.tkz (Nt.dq n hf i) (Nt.zAt n hf i))) (.slice (some ⟨g, 0, none⟩) (i + 1) cap) w (Z22.setCell ⟨go, 0, none⟩ (.slice (some ⟨g, 0, none⟩) (i + 1) cap))) := ⟨SP.out.ro.of_block (hgrow.block _ SP.out.ro.lt (fun e => by have := (SP.out.own.lt _ e.symm).1; omega)), SP.out.grow hown2 hgrow⟩
            have hq := And.intro (hHeld.1.of_block (hgrow.block _ hHeld.1.lt (fun e => by have h1 := OWL.out _ e.symm; omega))) (hHeld.2.of_block (hgrow.block _ hHeld.2.lt (fun e => by have h1 := OWL.out _ e.symm; have h2 := NUM.out; omega)))
            refine hK.out _ _ hq (fun hHeld2 => ?_)
            clear hK hHeld
            have hHeld := hHeld2
            clear hHeld2
            clear hq hown hown2 hgrow hat hlt3 SP HO0 hsz RX
            simp only [Act.put, List.setIfInBounds_toArray, List.set_cons_zero, List.set_cons_succ]
            refine take_do (i := 13) (v := (.pointer (some ⟨go, 0, none⟩))) rfl (by kernel_rfl) (by kernel_rfl) (by kernel_rfl) (fun _ _ _ h => h) (by rfl) ?_ (by assumption) ?_
            · intro w hSw
              skip
              go_simp
            simp only [Act.put, List.setIfInBounds_toArray, List.set_cons_zero, List.set_cons_succ]
            have RO := SQ.out.1
            have o0 := RO.cell (i := 0) (by omega)
            have z0 := RO.frozen 0
            have l0 := RO.lt
            obtain ⟨WZ, hWZ⟩ : ∃ WZ, WZ = Z22.setCell ⟨go, 0, none⟩ (.slice (some ⟨g, 0, none⟩) (i + 1) cap) := ⟨_, rfl⟩
            have SZ : Hid (SpS n (some ⟨b, 0, none⟩) lk fa fk wa wk gc go (i + 1) (Nt.sfl n hf) (Fq.tkz (Nt.smq n hf i) (Fq.tkz (Nt.dq n hf i) (Nt.zAt n hf i))) (.slice (some ⟨g, 0, none⟩) (i + 1) cap) w WZ) := by rw [hWZ]; exact SQ.out.2
            have hq : (fun V => V.rowIs gl 68 3 (rowN [.int .i64 (Nt.fr n i : Nat), .int .i64 (Nt.tt n i : Nat), .int .i64 (n.L (i * 3 + 2))]) ∧ V.rowIs gb 35 2 (rowN [.int .i64 (Fq.tkv (Nt.dq n hf i)).1, .int .i64 (Fq.tkv (Nt.dq n hf i)).2])) WZ := by rw [hWZ]; exact And.intro (nrow_set hHeld.1 (p := ⟨go, 0, none⟩) (by have h1 := NUM.out; show gl ≠ go; omega) _) (nrow_set hHeld.2 (p := ⟨go, 0, none⟩) (by have h1 := NUM.out; show gb ≠ go; omega) _)
            have HWZ := Lib.hid hWZ
            clear hWZ RO
            refine take_call (i := 14) rfl (by kernel_rfl) (fun K2 hK => ?_)
            go_simp
            rw [← HWZ.out]
            refine hK.out _ _ hq (fun hHeld2 => ?_)
            clear hK hHeld hHeld2 HWZ o0 z0 l0 SQ hq
            refine wpAnyH_done (by kernel_rfl) ?_ _
            go_wp2_with fail
            go_roundw
            case rel => exact ⟨i + 1, by omega, by go_num, _, SZ⟩
            case measure => simp [intOf]; omega
          · go_simp
            refine (take_of gc _ _ _ (by have := GZ.out; omega) (by have := GZ.out; omega) SP.out.rc).mono ?_
            rintro e Z23 ⟨rfl, hr, ho⟩
            have hq := And.intro (hHeld.1.of_block (ho.block _ hHeld.1.lt (by have h1 := NUM.out; omega))) (hHeld.2.of_block (ho.block _ hHeld.2.lt (by have h1 := NUM.out; omega)))
            replace SP := Lib.hid (SP.out.take hr ho)
            go_wp2_with fail
            refine hK.out _ _ hq (fun hHeld2 => ?_)
            clear hK hHeld
            have hHeld := hHeld2
            clear hHeld2
            clear hr ho hq
            refine wpAnyH_ready (rs := [1, 9]) (by kernel_rfl) (by simp) (AllReadyH.cons (at_drop (i := 1) rfl) (fun K2 hK => ?_) (AllReadyH.cons (at_drop (i := 9) rfl) (fun K2 hK => ?_) (AllReadyH.nil)))
            · have o0 := SP.out.ro.cell (i := 0) (by omega)
              simp only [rowN, List.getD_cons_zero] at o0
              go_simp
              refine hK.out _ _ hHeld (fun hHeld2 => ?_)
              clear hK hHeld
              have hHeld := hHeld2
              clear hHeld2
              clear o0
              refine take_call (i := 9) rfl (by kernel_rfl) (fun K2 hK => ?_)
              go_simp
              refine (nspecMul (Nt.gq n i) _ _ (Nt.gq_right HF.out.r hlt) RD.out).mono ?_
              rintro e Z25 ⟨rfl, hb⟩
              replace SP := Lib.hid (SP.out.below hb)
              have hq := And.intro (nrow_below hHeld.1 hb) (nrow_below hHeld.2 hb)
              go_wp2_with fail
              refine hK.out _ _ hq (fun hHeld2 => ?_)
              clear hK hHeld
              have hHeld := hHeld2
              clear hHeld2
              clear hb hq
              refine take_call (i := 10) rfl (by kernel_rfl) (fun K2 hK => ?_)
              go_simp
              refine (take_any gc (Nt.smq n hf i) _ _ SP.out.rc).mono ?_
              rintro e Z26 ⟨rfl, hr, ho⟩
              have hq := And.intro (hHeld.1.of_block (ho.block _ hHeld.1.lt (by have h1 := NUM.out; omega))) (hHeld.2.of_block (ho.block _ hHeld.2.lt (by have h1 := NUM.out; omega)))
              replace SP := Lib.hid (SP.out.take hr ho)
              go_wp2_with fail
              refine hK.out _ _ hq (fun hHeld2 => ?_)
              clear hK hHeld
              have hHeld := hHeld2
              clear hHeld2
              clear hr ho hq
              refine take_call (i := 11) rfl (by kernel_rfl) (fun K2 hK => ?_)
              obtain ⟨Z27, hZ27⟩ : ∃ Z27, Z27 = Z26.alloc (.cells #[.int .i64 (Fq.tkv (Nt.smq n hf i)).1, .int .i64 (Fq.tkv (Nt.smq n hf i)).2] 35) := ⟨_, rfl⟩
              have hb : Below Z26.heap.size Z26 Z27 := by rw [hZ27]; exact nbel_alloc _ _
              obtain ⟨gx, hgx⟩ : ∃ gx, gx = Z26.heap.size := ⟨_, rfl⟩
              have RX : Hid (Z27.rowIs gx 35 2 (rowN [.int .i64 (Fq.tkv (Nt.smq n hf i)).1, .int .i64 (Fq.tkv (Nt.smq n hf i)).2])) := by show World.rowIs _ _ _ _ _; rw [hZ27, hgx]; exact rowN_alloc _ _ _
              replace SP := Lib.hid (SP.out.below hb)
              have hq := And.intro (nrow_below hHeld.1 hb) (nrow_below hHeld.2 hb)
              go_simp
              rw [← hZ27, ← hgx]
              refine hK.out _ _ hq (fun hHeld2 => ?_)
              clear hK hHeld
              have hHeld := hHeld2
              clear hHeld2
              clear hb hq hZ27 hgx
              refine take_call (i := 12) rfl (by kernel_rfl) (fun K2 hK => ?_)
              obtain ⟨i1, hi1, hy0, hy1, hy2⟩ := info_parts ninfo_fr
              have HO0 := Lib.hid SP.out.own
              have hsz := SP.out.ro.lt
              refine step_append_lies _ rfl (.tmp 68) (.tmp 78) 29 rfl (go + 1) 35 i1 (.agg #[.int .i64 0, .int .i64 0]) 2 16 Tryz.underlying29 hi1 hy0 hy1 hy2 rfl (by decide) v i _ rfl HO0.out ⟨gx, 0, none⟩ 1 1 [.int .i64 (Fq.tkv (Nt.smq n hf i)).1, .int .i64 (Fq.tkv (Nt.smq n hf i)).2] rfl rfl ?_ ?_ (by omega) (by unfold maxLen; omega) (by omega) (by omega) _ rfl ?_
              · intro j u hj
                match j, hj with
                | 0, hj => (simp at hj; subst hj; have := RX.out.cell (i := 0) (by omega); simpa [Addr.add, rowN] using this)
                | 1, hj => (simp at hj; subst hj; have := RX.out.cell (i := 1) (by omega); simpa [Addr.add, rowN] using this)
              · intro u hu
                simp at hu
                rcases hu with rfl | rfl <;> rfl
              intro g cap Z28 hown hgrow hat hlt3
              have hown2 : Z28.ownsRow (go + 1) 35 2 (.slice (some ⟨g, 0, none⟩) (i + 1) cap) (i + 1) (frVs (Nt.sfl n hf) (i + 1)) := by rw [frVs_succ]; exact hown
              have SQ : Hid (Z28.rowIs go 31 3 (rowN [v, .int .i64 0, .int .i64 0]) ∧ SpS n (some ⟨b, 0, none⟩) lk fa fk wa wk gc go (i + 1) (Nt.sfl n hf) (Fq.tkz (Nt.smq n hf i) (Fq.tkz (Nt.dq n hf i) (Nt.zAt n hf i))) (.slice (some ⟨g, 0, none⟩) (i + 1) cap) w (Z28.setCell ⟨go, 0, none⟩ (.slice (some ⟨g, 0, none⟩) (i + 1) cap))) := ⟨SP.out.ro.of_block (hgrow.block _ SP.out.ro.lt (fun e => by have := (SP.out.own.lt _ e.symm).1; omega)), SP.out.grow hown2 hgrow⟩
              have hq := And.intro (hHeld.1.of_block (hgrow.block _ hHeld.1.lt (fun e => by have h1 := OWL.out _ e.symm; omega))) (hHeld.2.of_block (hgrow.block _ hHeld.2.lt (fun e => by have h1 := OWL.out _ e.symm; have h2 := NUM.out; omega)))
              refine hK.out _ _ hq (fun hHeld2 => ?_)
              clear hK hHeld
              have hHeld := hHeld2
              clear hHeld2
              clear hq hown hown2 hgrow hat hlt3 SP HO0 hsz RX
              simp only [Act.put, List.setIfInBounds_toArray, List.set_cons_zero, List.set_cons_succ]
              refine take_do (i := 13) (v := (.pointer (some ⟨go, 0, none⟩))) rfl (by kernel_rfl) (by kernel_rfl) (by kernel_rfl) (fun _ _ _ h => h) (by rfl) ?_ (by assumption) ?_
              · intro w hSw
                skip
                go_simp
              simp only [Act.put, List.setIfInBounds_toArray, List.set_cons_zero, List.set_cons_succ]
              have RO := SQ.out.1
              have o0 := RO.cell (i := 0) (by omega)
              have z0 := RO.frozen 0
              have l0 := RO.lt
              obtain ⟨WZ, hWZ⟩ : ∃ WZ, WZ = Z28.setCell ⟨go, 0, none⟩ (.slice (some ⟨g, 0, none⟩) (i + 1) cap) := ⟨_, rfl⟩
              have SZ : Hid (SpS n (some ⟨b, 0, none⟩) lk fa fk wa wk gc go (i + 1) (Nt.sfl n hf) (Fq.tkz (Nt.smq n hf i) (Fq.tkz (Nt.dq n hf i) (Nt.zAt n hf i))) (.slice (some ⟨g, 0, none⟩) (i + 1) cap) w WZ) := by rw [hWZ]; exact SQ.out.2
              have hq : (fun V => V.rowIs gl 68 3 (rowN [.int .i64 (Nt.fr n i : Nat), .int .i64 (Nt.tt n i : Nat), .int .i64 (n.L (i * 3 + 2))]) ∧ V.rowIs gb 35 2 (rowN [.int .i64 (Fq.tkv (Nt.dq n hf i)).1, .int .i64 (Fq.tkv (Nt.dq n hf i)).2])) WZ := by rw [hWZ]; exact And.intro (nrow_set hHeld.1 (p := ⟨go, 0, none⟩) (by have h1 := NUM.out; show gl ≠ go; omega) _) (nrow_set hHeld.2 (p := ⟨go, 0, none⟩) (by have h1 := NUM.out; show gb ≠ go; omega) _)
              have HWZ := Lib.hid hWZ
              clear hWZ RO
              refine take_call (i := 14) rfl (by kernel_rfl) (fun K2 hK => ?_)
              go_simp
              rw [← HWZ.out]
              refine hK.out _ _ hq (fun hHeld2 => ?_)
              clear hK hHeld hHeld2 HWZ o0 z0 l0 SQ hq
              refine wpAnyH_done (by kernel_rfl) ?_ _
              go_wp2_with fail
              go_roundw
              case rel => exact ⟨i + 1, by omega, by go_num, _, SZ⟩
              case measure => simp [intOf]; omega
            · go_simp
              refine (nspecMul (Nt.gq n i) _ _ (Nt.gq_right HF.out.r hlt) RD.out).mono ?_
              rintro e Z29 ⟨rfl, hb⟩
              replace SP := Lib.hid (SP.out.below hb)
              have hq := And.intro (nrow_below hHeld.1 hb) (nrow_below hHeld.2 hb)
              go_wp2_with fail
              refine hK.out _ _ hq (fun hHeld2 => ?_)
              clear hK hHeld
              have hHeld := hHeld2
              clear hHeld2
              clear hb hq
              refine wpAnyH_ready (rs := [1, 10]) (by kernel_rfl) (by simp) (AllReadyH.cons (at_drop (i := 1) rfl) (fun K2 hK => ?_) (AllReadyH.cons (at_drop (i := 10) rfl) (fun K2 hK => ?_) (AllReadyH.nil)))
              · have o0 := SP.out.ro.cell (i := 0) (by omega)
                simp only [rowN, List.getD_cons_zero] at o0
                go_simp
                refine hK.out _ _ hHeld (fun hHeld2 => ?_)
                clear hK hHeld
                have hHeld := hHeld2
                clear hHeld2
                clear o0
                refine take_call (i := 10) rfl (by kernel_rfl) (fun K2 hK => ?_)
                go_simp
                refine (take_any gc (Nt.smq n hf i) _ _ SP.out.rc).mono ?_
                rintro e Z31 ⟨rfl, hr, ho⟩
                have hq := And.intro (hHeld.1.of_block (ho.block _ hHeld.1.lt (by have h1 := NUM.out; omega))) (hHeld.2.of_block (ho.block _ hHeld.2.lt (by have h1 := NUM.out; omega)))
                replace SP := Lib.hid (SP.out.take hr ho)
                go_wp2_with fail
                refine hK.out _ _ hq (fun hHeld2 => ?_)
                clear hK hHeld
                have hHeld := hHeld2
                clear hHeld2
                clear hr ho hq
                refine take_call (i := 11) rfl (by kernel_rfl) (fun K2 hK => ?_)
                obtain ⟨Z32, hZ32⟩ : ∃ Z32, Z32 = Z31.alloc (.cells #[.int .i64 (Fq.tkv (Nt.smq n hf i)).1, .int .i64 (Fq.tkv (Nt.smq n hf i)).2] 35) := ⟨_, rfl⟩
                have hb : Below Z31.heap.size Z31 Z32 := by rw [hZ32]; exact nbel_alloc _ _
                obtain ⟨gx, hgx⟩ : ∃ gx, gx = Z31.heap.size := ⟨_, rfl⟩
                have RX : Hid (Z32.rowIs gx 35 2 (rowN [.int .i64 (Fq.tkv (Nt.smq n hf i)).1, .int .i64 (Fq.tkv (Nt.smq n hf i)).2])) := by show World.rowIs _ _ _ _ _; rw [hZ32, hgx]; exact rowN_alloc _ _ _
                replace SP := Lib.hid (SP.out.below hb)
                have hq := And.intro (nrow_below hHeld.1 hb) (nrow_below hHeld.2 hb)
                go_simp
                rw [← hZ32, ← hgx]
                refine hK.out _ _ hq (fun hHeld2 => ?_)
                clear hK hHeld
                have hHeld := hHeld2
                clear hHeld2
                clear hb hq hZ32 hgx
                refine take_call (i := 12) rfl (by kernel_rfl) (fun K2 hK => ?_)
                obtain ⟨i1, hi1, hy0, hy1, hy2⟩ := info_parts ninfo_fr
                have HO0 := Lib.hid SP.out.own
                have hsz := SP.out.ro.lt
                refine step_append_lies _ rfl (.tmp 68) (.tmp 78) 29 rfl (go + 1) 35 i1 (.agg #[.int .i64 0, .int .i64 0]) 2 16 Tryz.underlying29 hi1 hy0 hy1 hy2 rfl (by decide) v i _ rfl HO0.out ⟨gx, 0, none⟩ 1 1 [.int .i64 (Fq.tkv (Nt.smq n hf i)).1, .int .i64 (Fq.tkv (Nt.smq n hf i)).2] rfl rfl ?_ ?_ (by omega) (by unfold maxLen; omega) (by omega) (by omega) _ rfl ?_
                · intro j u hj
                  match j, hj with
                  | 0, hj => (simp at hj; subst hj; have := RX.out.cell (i := 0) (by omega); simpa [Addr.add, rowN] using this)
                  | 1, hj => (simp at hj; subst hj; have := RX.out.cell (i := 1) (by omega); simpa [Addr.add, rowN] using this)
                · intro u hu
                  simp at hu
                  rcases hu with rfl | rfl <;> rfl
                intro g cap Z33 hown hgrow hat hlt3
                have hown2 : Z33.ownsRow (go + 1) 35 2 (.slice (some ⟨g, 0, none⟩) (i + 1) cap) (i + 1) (frVs (Nt.sfl n hf) (i + 1)) := by rw [frVs_succ]; exact hown
                have SQ : Hid (Z33.rowIs go 31 3 (rowN [v, .int .i64 0, .int .i64 0]) ∧ SpS n (some ⟨b, 0, none⟩) lk fa fk wa wk gc go (i + 1) (Nt.sfl n hf) (Fq.tkz (Nt.smq n hf i) (Fq.tkz (Nt.dq n hf i) (Nt.zAt n hf i))) (.slice (some ⟨g, 0, none⟩) (i + 1) cap) w (Z33.setCell ⟨go, 0, none⟩ (.slice (some ⟨g, 0, none⟩) (i + 1) cap))) := ⟨SP.out.ro.of_block (hgrow.block _ SP.out.ro.lt (fun e => by have := (SP.out.own.lt _ e.symm).1; omega)), SP.out.grow hown2 hgrow⟩
                have hq := And.intro (hHeld.1.of_block (hgrow.block _ hHeld.1.lt (fun e => by have h1 := OWL.out _ e.symm; omega))) (hHeld.2.of_block (hgrow.block _ hHeld.2.lt (fun e => by have h1 := OWL.out _ e.symm; have h2 := NUM.out; omega)))
                refine hK.out _ _ hq (fun hHeld2 => ?_)
                clear hK hHeld
                have hHeld := hHeld2
                clear hHeld2
                clear hq hown hown2 hgrow hat hlt3 SP HO0 hsz RX
                simp only [Act.put, List.setIfInBounds_toArray, List.set_cons_zero, List.set_cons_succ]
                refine take_do (i := 13) (v := (.pointer (some ⟨go, 0, none⟩))) rfl (by kernel_rfl) (by kernel_rfl) (by kernel_rfl) (fun _ _ _ h => h) (by rfl) ?_ (by assumption) ?_
                · intro w hSw
                  skip
                  go_simp
                simp only [Act.put, List.setIfInBounds_toArray, List.set_cons_zero, List.set_cons_succ]
                have RO := SQ.out.1
                have o0 := RO.cell (i := 0) (by omega)
                have z0 := RO.frozen 0
                have l0 := RO.lt
                obtain ⟨WZ, hWZ⟩ : ∃ WZ, WZ = Z33.setCell ⟨go, 0, none⟩ (.slice (some ⟨g, 0, none⟩) (i + 1) cap) := ⟨_, rfl⟩
                have SZ : Hid (SpS n (some ⟨b, 0, none⟩) lk fa fk wa wk gc go (i + 1) (Nt.sfl n hf) (Fq.tkz (Nt.smq n hf i) (Fq.tkz (Nt.dq n hf i) (Nt.zAt n hf i))) (.slice (some ⟨g, 0, none⟩) (i + 1) cap) w WZ) := by rw [hWZ]; exact SQ.out.2
                have hq : (fun V => V.rowIs gl 68 3 (rowN [.int .i64 (Nt.fr n i : Nat), .int .i64 (Nt.tt n i : Nat), .int .i64 (n.L (i * 3 + 2))]) ∧ V.rowIs gb 35 2 (rowN [.int .i64 (Fq.tkv (Nt.dq n hf i)).1, .int .i64 (Fq.tkv (Nt.dq n hf i)).2])) WZ := by rw [hWZ]; exact And.intro (nrow_set hHeld.1 (p := ⟨go, 0, none⟩) (by have h1 := NUM.out; show gl ≠ go; omega) _) (nrow_set hHeld.2 (p := ⟨go, 0, none⟩) (by have h1 := NUM.out; show gb ≠ go; omega) _)
                have HWZ := Lib.hid hWZ
                clear hWZ RO
                refine take_call (i := 14) rfl (by kernel_rfl) (fun K2 hK => ?_)
                go_simp
                rw [← HWZ.out]
                refine hK.out _ _ hq (fun hHeld2 => ?_)
                clear hK hHeld hHeld2 HWZ o0 z0 l0 SQ hq
                refine wpAnyH_done (by kernel_rfl) ?_ _
                go_wp2_with fail
                go_roundw
                case rel => exact ⟨i + 1, by omega, by go_num, _, SZ⟩
                case measure => simp [intOf]; omega
              · go_simp
                refine (take_any gc (Nt.smq n hf i) _ _ SP.out.rc).mono ?_
                rintro e Z34 ⟨rfl, hr, ho⟩
                have hq := And.intro (hHeld.1.of_block (ho.block _ hHeld.1.lt (by have h1 := NUM.out; omega))) (hHeld.2.of_block (ho.block _ hHeld.2.lt (by have h1 := NUM.out; omega)))
                replace SP := Lib.hid (SP.out.take hr ho)
                go_wp2_with fail
                refine hK.out _ _ hq (fun hHeld2 => ?_)
                clear hK hHeld
                have hHeld := hHeld2
                clear hHeld2
                clear hr ho hq
                refine wpAnyH_ready (rs := [1, 11]) (by kernel_rfl) (by simp) (AllReadyH.cons (at_drop (i := 1) rfl) (fun K2 hK => ?_) (AllReadyH.cons (at_drop (i := 11) rfl) (fun K2 hK => ?_) (AllReadyH.nil)))
                · have o0 := SP.out.ro.cell (i := 0) (by omega)
                  simp only [rowN, List.getD_cons_zero] at o0
                  go_simp
                  refine hK.out _ _ hHeld (fun hHeld2 => ?_)
                  clear hK hHeld
                  have hHeld := hHeld2
                  clear hHeld2
                  clear o0
                  refine take_call (i := 11) rfl (by kernel_rfl) (fun K2 hK => ?_)
                  obtain ⟨Z36, hZ36⟩ : ∃ Z36, Z36 = Z34.alloc (.cells #[.int .i64 (Fq.tkv (Nt.smq n hf i)).1, .int .i64 (Fq.tkv (Nt.smq n hf i)).2] 35) := ⟨_, rfl⟩
                  have hb : Below Z34.heap.size Z34 Z36 := by rw [hZ36]; exact nbel_alloc _ _
                  obtain ⟨gx, hgx⟩ : ∃ gx, gx = Z34.heap.size := ⟨_, rfl⟩
                  have RX : Hid (Z36.rowIs gx 35 2 (rowN [.int .i64 (Fq.tkv (Nt.smq n hf i)).1, .int .i64 (Fq.tkv (Nt.smq n hf i)).2])) := by show World.rowIs _ _ _ _ _; rw [hZ36, hgx]; exact rowN_alloc _ _ _
                  replace SP := Lib.hid (SP.out.below hb)
                  have hq := And.intro (nrow_below hHeld.1 hb) (nrow_below hHeld.2 hb)
                  go_simp
                  rw [← hZ36, ← hgx]
                  refine hK.out _ _ hq (fun hHeld2 => ?_)
                  clear hK hHeld
                  have hHeld := hHeld2
                  clear hHeld2
                  clear hb hq hZ36 hgx
                  refine take_call (i := 12) rfl (by kernel_rfl) (fun K2 hK => ?_)
                  obtain ⟨i1, hi1, hy0, hy1, hy2⟩ := info_parts ninfo_fr
                  have HO0 := Lib.hid SP.out.own
                  have hsz := SP.out.ro.lt
                  refine step_append_lies _ rfl (.tmp 68) (.tmp 78) 29 rfl (go + 1) 35 i1 (.agg #[.int .i64 0, .int .i64 0]) 2 16 Tryz.underlying29 hi1 hy0 hy1 hy2 rfl (by decide) v i _ rfl HO0.out ⟨gx, 0, none⟩ 1 1 [.int .i64 (Fq.tkv (Nt.smq n hf i)).1, .int .i64 (Fq.tkv (Nt.smq n hf i)).2] rfl rfl ?_ ?_ (by omega) (by unfold maxLen; omega) (by omega) (by omega) _ rfl ?_
                  · intro j u hj
                    match j, hj with
                    | 0, hj => (simp at hj; subst hj; have := RX.out.cell (i := 0) (by omega); simpa [Addr.add, rowN] using this)
                    | 1, hj => (simp at hj; subst hj; have := RX.out.cell (i := 1) (by omega); simpa [Addr.add, rowN] using this)
                  · intro u hu
                    simp at hu
                    rcases hu with rfl | rfl <;> rfl
                  intro g cap Z37 hown hgrow hat hlt3
                  have hown2 : Z37.ownsRow (go + 1) 35 2 (.slice (some ⟨g, 0, none⟩) (i + 1) cap) (i + 1) (frVs (Nt.sfl n hf) (i + 1)) := by rw [frVs_succ]; exact hown
                  have SQ : Hid (Z37.rowIs go 31 3 (rowN [v, .int .i64 0, .int .i64 0]) ∧ SpS n (some ⟨b, 0, none⟩) lk fa fk wa wk gc go (i + 1) (Nt.sfl n hf) (Fq.tkz (Nt.smq n hf i) (Fq.tkz (Nt.dq n hf i) (Nt.zAt n hf i))) (.slice (some ⟨g, 0, none⟩) (i + 1) cap) w (Z37.setCell ⟨go, 0, none⟩ (.slice (some ⟨g, 0, none⟩) (i + 1) cap))) := ⟨SP.out.ro.of_block (hgrow.block _ SP.out.ro.lt (fun e => by have := (SP.out.own.lt _ e.symm).1; omega)), SP.out.grow hown2 hgrow⟩
                  have hq := And.intro (hHeld.1.of_block (hgrow.block _ hHeld.1.lt (fun e => by have h1 := OWL.out _ e.symm; omega))) (hHeld.2.of_block (hgrow.block _ hHeld.2.lt (fun e => by have h1 := OWL.out _ e.symm; have h2 := NUM.out; omega)))
                  refine hK.out _ _ hq (fun hHeld2 => ?_)
                  clear hK hHeld
                  have hHeld := hHeld2
                  clear hHeld2
                  clear hq hown hown2 hgrow hat hlt3 SP HO0 hsz RX
                  simp only [Act.put, List.setIfInBounds_toArray, List.set_cons_zero, List.set_cons_succ]
                  refine take_do (i := 13) (v := (.pointer (some ⟨go, 0, none⟩))) rfl (by kernel_rfl) (by kernel_rfl) (by kernel_rfl) (fun _ _ _ h => h) (by rfl) ?_ (by assumption) ?_
                  · intro w hSw
                    skip
                    go_simp
                  simp only [Act.put, List.setIfInBounds_toArray, List.set_cons_zero, List.set_cons_succ]
                  have RO := SQ.out.1
                  have o0 := RO.cell (i := 0) (by omega)
                  have z0 := RO.frozen 0
                  have l0 := RO.lt
                  obtain ⟨WZ, hWZ⟩ : ∃ WZ, WZ = Z37.setCell ⟨go, 0, none⟩ (.slice (some ⟨g, 0, none⟩) (i + 1) cap) := ⟨_, rfl⟩
                  have SZ : Hid (SpS n (some ⟨b, 0, none⟩) lk fa fk wa wk gc go (i + 1) (Nt.sfl n hf) (Fq.tkz (Nt.smq n hf i) (Fq.tkz (Nt.dq n hf i) (Nt.zAt n hf i))) (.slice (some ⟨g, 0, none⟩) (i + 1) cap) w WZ) := by rw [hWZ]; exact SQ.out.2
                  have hq : (fun V => V.rowIs gl 68 3 (rowN [.int .i64 (Nt.fr n i : Nat), .int .i64 (Nt.tt n i : Nat), .int .i64 (n.L (i * 3 + 2))]) ∧ V.rowIs gb 35 2 (rowN [.int .i64 (Fq.tkv (Nt.dq n hf i)).1, .int .i64 (Fq.tkv (Nt.dq n hf i)).2])) WZ := by rw [hWZ]; exact And.intro (nrow_set hHeld.1 (p := ⟨go, 0, none⟩) (by have h1 := NUM.out; show gl ≠ go; omega) _) (nrow_set hHeld.2 (p := ⟨go, 0, none⟩) (by have h1 := NUM.out; show gb ≠ go; omega) _)
                  have HWZ := Lib.hid hWZ
                  clear hWZ RO
                  refine take_call (i := 14) rfl (by kernel_rfl) (fun K2 hK => ?_)
                  go_simp
                  rw [← HWZ.out]
                  refine hK.out _ _ hq (fun hHeld2 => ?_)
                  clear hK hHeld hHeld2 HWZ o0 z0 l0 SQ hq
                  refine wpAnyH_done (by kernel_rfl) ?_ _
                  go_wp2_with fail
                  go_roundw
                  case rel => exact ⟨i + 1, by omega, by go_num, _, SZ⟩
                  case measure => simp [intOf]; omega
                · obtain ⟨Z38, hZ38⟩ : ∃ Z38, Z38 = Z34.alloc (.cells #[.int .i64 (Fq.tkv (Nt.smq n hf i)).1, .int .i64 (Fq.tkv (Nt.smq n hf i)).2] 35) := ⟨_, rfl⟩
                  have hb : Below Z34.heap.size Z34 Z38 := by rw [hZ38]; exact nbel_alloc _ _
                  obtain ⟨gx, hgx⟩ : ∃ gx, gx = Z34.heap.size := ⟨_, rfl⟩
                  have RX : Hid (Z38.rowIs gx 35 2 (rowN [.int .i64 (Fq.tkv (Nt.smq n hf i)).1, .int .i64 (Fq.tkv (Nt.smq n hf i)).2])) := by show World.rowIs _ _ _ _ _; rw [hZ38, hgx]; exact rowN_alloc _ _ _
                  replace SP := Lib.hid (SP.out.below hb)
                  have hq := And.intro (nrow_below hHeld.1 hb) (nrow_below hHeld.2 hb)
                  go_simp
                  rw [← hZ38, ← hgx]
                  refine hK.out _ _ hq (fun hHeld2 => ?_)
                  clear hK hHeld
                  have hHeld := hHeld2
                  clear hHeld2
                  clear hb hq hZ38 hgx
                  refine take_call (i := 1) rfl (by kernel_rfl) (fun K2 hK => ?_)
                  have o0 := SP.out.ro.cell (i := 0) (by omega)
                  simp only [rowN, List.getD_cons_zero] at o0
                  go_simp
                  refine hK.out _ _ hHeld (fun hHeld2 => ?_)
                  clear hK hHeld
                  have hHeld := hHeld2
                  clear hHeld2
                  clear o0
                  refine take_call (i := 12) rfl (by kernel_rfl) (fun K2 hK => ?_)
                  obtain ⟨i1, hi1, hy0, hy1, hy2⟩ := info_parts ninfo_fr
                  have HO0 := Lib.hid SP.out.own
                  have hsz := SP.out.ro.lt
                  refine step_append_lies _ rfl (.tmp 68) (.tmp 78) 29 rfl (go + 1) 35 i1 (.agg #[.int .i64 0, .int .i64 0]) 2 16 Tryz.underlying29 hi1 hy0 hy1 hy2 rfl (by decide) v i _ rfl HO0.out ⟨gx, 0, none⟩ 1 1 [.int .i64 (Fq.tkv (Nt.smq n hf i)).1, .int .i64 (Fq.tkv (Nt.smq n hf i)).2] rfl rfl ?_ ?_ (by omega) (by unfold maxLen; omega) (by omega) (by omega) _ rfl ?_
                  · intro j u hj
                    match j, hj with
                    | 0, hj => (simp at hj; subst hj; have := RX.out.cell (i := 0) (by omega); simpa [Addr.add, rowN] using this)
                    | 1, hj => (simp at hj; subst hj; have := RX.out.cell (i := 1) (by omega); simpa [Addr.add, rowN] using this)
                  · intro u hu
                    simp at hu
                    rcases hu with rfl | rfl <;> rfl
                  intro g cap Z40 hown hgrow hat hlt3
                  have hown2 : Z40.ownsRow (go + 1) 35 2 (.slice (some ⟨g, 0, none⟩) (i + 1) cap) (i + 1) (frVs (Nt.sfl n hf) (i + 1)) := by rw [frVs_succ]; exact hown
                  have SQ : Hid (Z40.rowIs go 31 3 (rowN [v, .int .i64 0, .int .i64 0]) ∧ SpS n (some ⟨b, 0, none⟩) lk fa fk wa wk gc go (i + 1) (Nt.sfl n hf) (Fq.tkz (Nt.smq n hf i) (Fq.tkz (Nt.dq n hf i) (Nt.zAt n hf i))) (.slice (some ⟨g, 0, none⟩) (i + 1) cap) w (Z40.setCell ⟨go, 0, none⟩ (.slice (some ⟨g, 0, none⟩) (i + 1) cap))) := ⟨SP.out.ro.of_block (hgrow.block _ SP.out.ro.lt (fun e => by have := (SP.out.own.lt _ e.symm).1; omega)), SP.out.grow hown2 hgrow⟩
                  have hq := And.intro (hHeld.1.of_block (hgrow.block _ hHeld.1.lt (fun e => by have h1 := OWL.out _ e.symm; omega))) (hHeld.2.of_block (hgrow.block _ hHeld.2.lt (fun e => by have h1 := OWL.out _ e.symm; have h2 := NUM.out; omega)))
                  refine hK.out _ _ hq (fun hHeld2 => ?_)
                  clear hK hHeld
                  have hHeld := hHeld2
                  clear hHeld2
                  clear hq hown hown2 hgrow hat hlt3 SP HO0 hsz RX
                  simp only [Act.put, List.setIfInBounds_toArray, List.set_cons_zero, List.set_cons_succ]
                  refine take_do (i := 13) (v := (.pointer (some ⟨go, 0, none⟩))) rfl (by kernel_rfl) (by kernel_rfl) (by kernel_rfl) (fun _ _ _ h => h) (by rfl) ?_ (by assumption) ?_
                  · intro w hSw
                    skip
                    go_simp
                  simp only [Act.put, List.setIfInBounds_toArray, List.set_cons_zero, List.set_cons_succ]
                  have RO := SQ.out.1
                  have o0 := RO.cell (i := 0) (by omega)
                  have z0 := RO.frozen 0
                  have l0 := RO.lt
                  obtain ⟨WZ, hWZ⟩ : ∃ WZ, WZ = Z40.setCell ⟨go, 0, none⟩ (.slice (some ⟨g, 0, none⟩) (i + 1) cap) := ⟨_, rfl⟩
                  have SZ : Hid (SpS n (some ⟨b, 0, none⟩) lk fa fk wa wk gc go (i + 1) (Nt.sfl n hf) (Fq.tkz (Nt.smq n hf i) (Fq.tkz (Nt.dq n hf i) (Nt.zAt n hf i))) (.slice (some ⟨g, 0, none⟩) (i + 1) cap) w WZ) := by rw [hWZ]; exact SQ.out.2
                  have hq : (fun V => V.rowIs gl 68 3 (rowN [.int .i64 (Nt.fr n i : Nat), .int .i64 (Nt.tt n i : Nat), .int .i64 (n.L (i * 3 + 2))]) ∧ V.rowIs gb 35 2 (rowN [.int .i64 (Fq.tkv (Nt.dq n hf i)).1, .int .i64 (Fq.tkv (Nt.dq n hf i)).2])) WZ := by rw [hWZ]; exact And.intro (nrow_set hHeld.1 (p := ⟨go, 0, none⟩) (by have h1 := NUM.out; show gl ≠ go; omega) _) (nrow_set hHeld.2 (p := ⟨go, 0, none⟩) (by have h1 := NUM.out; show gb ≠ go; omega) _)
                  have HWZ := Lib.hid hWZ
                  clear hWZ RO
                  refine take_call (i := 14) rfl (by kernel_rfl) (fun K2 hK => ?_)
                  go_simp
                  rw [← HWZ.out]
                  refine hK.out _ _ hq (fun hHeld2 => ?_)
                  clear hK hHeld hHeld2 HWZ o0 z0 l0 SQ hq
                  refine wpAnyH_done (by kernel_rfl) ?_ _
                  go_wp2_with fail
                  go_roundw
                  case rel => exact ⟨i + 1, by omega, by go_num, _, SZ⟩
                  case measure => simp [intOf]; omega
end Go.Proofs.YtkaokfmaecdkiaaGreatDoor
namespace Go.Proofs.YtkaokfmaecdkiaaGreatDoor
open Go.RowKit Go.Deep

/-- What stands from link to link, from node to node. -/
structure ReS (n : Nt.Net) (la : Option Addr) (lk : Nat) (fa : Option Addr) (fk : Nat) (wa : Option Addr) (wk gF g : Nat) (f r : Nat → Int × Int) (w W : World) : Prop where
  row : W.rowIs w.heap.size 27 4 (rowN (ntL n la lk fa fk wa wk))
  old : Below w.heap.size w W
  fl : IsBlk 35 gF (n.ln * 2) (Nt.cells2 f) W
  re : IsBlk 35 g (Nt.nn n * 2) (Nt.cells2 r) W
  lo : w.heap.size < gF ∧ gF < g
section
variable {n : Nt.Net} {la : Option Addr} {lk : Nat} {fa : Option Addr} {fk : Nat} {wa : Option Addr} {wk gF g : Nat} {f r : Nat → Int × Int} {w W W' : World}
theorem ReS.below (h : ReS n la lk fa fk wa wk gF g f r w W) (hb : Below W.heap.size W W') : ReS n la lk fa fk wa wk gF g f r w W' :=
  ⟨nrow_below h.row hb, h.old.trans (hb.mono h.old.size), h.fl.below hb, h.re.below hb, h.lo⟩
theorem ReS.set (h : ReS n la lk fa fk wa wk gF g f r w W) (a : Nat) (x : Int × Int) : ReS n la lk fa fk wa wk gF g f (Nt.updF r a x) w ((W.setCell ⟨g, a * 2, none⟩ (.int .i64 x.1)).setCell ⟨g, a * 2 + 1, none⟩ (.int .i64 x.2)) :=
  have lo := h.lo
  have same : ∀ k, k ≠ g → ((W.setCell ⟨g, a * 2, none⟩ (.int .i64 x.1)).setCell ⟨g, a * 2 + 1, none⟩ (.int .i64 x.2)).heap[k]? = W.heap[k]? := fun k hk => (Below.heap_setCell _ ⟨g, a * 2 + 1, none⟩ _ _ hk).trans (Below.heap_setCell _ ⟨g, a * 2, none⟩ _ _ hk)
  ⟨h.row.of_block (same _ (by omega)), (h.old.setCell (p := ⟨g, a * 2, none⟩) (by show w.heap.size ≤ g; omega) _).setCell (p := ⟨g, a * 2 + 1, none⟩) (by show w.heap.size ≤ g; omega) _, h.fl.block (same _ (by omega)), h.re.set2 a x, h.lo⟩
end
/-- What a step reads that it does not write: the link and the flows. -/
def RdS (n : Nt.Net) (gF gl : Nat) (L : List Value) (f : Nat → Int × Int) (V : World) : Prop := IsBlk 35 gF (n.ln * 2) (Nt.cells2 f) V ∧ V.rowIs gl 68 3 (rowN L)
theorem RdS.below {n : Nt.Net} {gF gl : Nat} {L : List Value} {f : Nat → Int × Int} {V V' : World} (h : RdS n gF gl L f V) (hb : Below V.heap.size V V') : RdS n gF gl L f V' := ⟨h.1.below hb, nrow_below h.2 hb⟩
set_option maxRecDepth 100000 in
set_option maxHeartbeats 16000000 in
theorem netRest_any (n : Nt.Net) (la : Option Addr) (lk : Nat) (fa : Option Addr) (fk : Nat) (wa : Option Addr) (wk : Nat) (ha : Option Addr) (hn hk : Nat) (hf : Nat → Int) (w : World) (h : NtAt n la fa wa w) (hs : NtSmall n) (hh : IsAt ha (hn * 2) hf w) (hb0 : NBd hf) (hm : hn ≤ 1048576) (hg : NEt w) :
    Calls Tryz.prog 36 #[ntV n la lk fa fk wa wk, .slice ha hn hk] w fun e w' => Reck w.heap.size (Nt.reCode n hn hf) (Nt.nn n) (Nt.cells2 (Nt.rev n hf)) e w' ∧ Below w.heap.size w w' := by
  have HA := Lib.hid h
  have HG := Lib.hid hg
  obtain ⟨W, hW⟩ : ∃ W, W = w.alloc (.cells #[.int .i64 n.nodes, .slice la n.ln lk, .slice fa n.fn fk, .slice wa n.wn wk] 27) := ⟨_, rfl⟩
  have S0 : Hid (NtS 27 n la lk fa fk wa wk w W) := by rw [hW]; exact NtS.new _ h
  have HX := Lib.hid (netFlows_any n la lk fa fk wa wk ha hn hk hf W S0.out.at_ hs (hh.below S0.out.old) hb0 hm (hg.below S0.out.old))
  have HW := Lib.hid hW
  clear h hh hb0 hg hs hW
  go_enter Tryz.func36, Tryz.ntmps36
  go_wp2_with fail
  rw [← HW.out]
  refine HX.out.mono ?_
  rintro e w1 ⟨hR, hb⟩
  have S1 := Lib.hid (S0.out.below hb)
  have HSZ := Lib.hid S0.out.row.lt
  clear hb S0 HX
  rcases hR with ⟨hc, gF, kF, rfl, hgF, hkF⟩ | ⟨hc, s, rfl⟩
  case inr =>
    have HC := Lib.hid (Nt.reCode_bad hc)
    have HN := Lib.hid hc
    clear hc
    go_wp2_with fail
    exact ⟨rfl, Or.inr ⟨by rw [HC.out]; exact HN.out, s, by rw [HC.out]⟩, S1.out.old⟩
  have HC0 := Lib.hid hc
  have RF := Lib.hid (Nt.reFit hc)
  have KF := Lib.hid hkF
  have LF : Hid (w.heap.size < gF) := Nat.lt_of_lt_of_le HSZ.out hgF
  clear hc hkF hgF
  have hln := RF.out.f.r.ln
  obtain ⟨hnn, hn1, hn2⟩ := RF.out.f.r.nn
  have hmk := nmk_Frac (Nt.nn n) (by omega)
  rw [← hnn] at hmk
  have hwn : Hid (n.wn = Nt.nn n) := by have := RF.out.f.r.wn; show _ = _; omega
  have HNN := Lib.hid hnn
  clear hnn
  obtain ⟨⟨r0, r1, r2, r3⟩, _⟩ := rowN4 S1.out.row
  have zw : w.heap.size < w1.heap.size := S1.out.row.lt
  have P0 : Hid (IsPart 35 w1.heap.size (Nt.nn n * 2) (0 * 2) (Nt.cells2 (fun _ => (0, 1))) (w1.alloc (.cells (madeCells #[.int .i64 0, .int .i64 0] (Nt.nn n * 2)) 35)) ∧ Below w1.heap.size w1 (w1.alloc (.cells (madeCells #[.int .i64 0, .int .i64 0] (Nt.nn n * 2)) 35))) :=
    ⟨⟨_, made_is _ _ w1 _ (by intro i hi; simp at hi; have : i = 0 ∨ i = 1 := (by omega); rcases this with rfl | rfl <;> rfl) (by simp), fun j hj => absurd hj (by omega)⟩, nbel_alloc _ _⟩
  go_wp2_with fail
  clear hmk r0 r1 r2 r3
  go_loopw [20] (fun iv wr => ∃ (i : Nat), i ≤ Nt.nn n ∧ iv = .int .i64 i ∧ Hid (IsPart 35 w1.heap.size (Nt.nn n * 2) (i * 2) (Nt.cells2 (fun _ => (0, 1))) wr ∧ Below w1.heap.size w1 wr)) (fun iv _ => Nt.nn n - (intOf iv).toNat)
  case atStart => exact ⟨0, Nat.zero_le _, rfl, P0⟩
  case round =>
  obtain ⟨i, hi, rfl, hP⟩ := hrel
  clear P0
  by_cases hlt : i < Nt.nn n
  · have hltz : (i : Int) < (Nt.nn n : Int) := by omega
    go_wp2_with fail
    refine (whole_any 0 _ (by omega) (by omega) ((HG.out.below S1.out.old).below hP.out.2)).mono ?_
    rintro e w2 ⟨rfl, hb⟩
    have P2 := hP.out.1.block (hb.block _ hP.out.1.lt)
    have B2 : Hid (Below w1.heap.size w1 w2) := hP.out.2.trans (hb.mono hP.out.2.size)
    obtain ⟨v0, y0⟩ := P2.cell (j := i * 2) (by omega)
    obtain ⟨v1, y1⟩ := P2.cell (j := i * 2 + 1) (by omega)
    have z0 := P2.frozen (i * 2)
    have z1 := P2.frozen (i * 2 + 1)
    have lz := P2.lt
    have P3 := Lib.hid ((P2.put 0 (Nt.cells2_0 (fun _ => (0, 1)) i).symm).put 1 (Nt.cells2_1 (fun _ => (0, 1)) i).symm)
    clear hb hP P2
    go_wp2_with fail
    go_roundw
    case rel => exact ⟨i + 1, by omega, by go_num, by rw [Nat.succ_mul]; exact P3.out, (B2.out.setCell (p := ⟨w1.heap.size, i * 2, none⟩) (Nat.le_refl _) _).setCell (p := ⟨w1.heap.size, i * 2 + 1, none⟩) (Nat.le_refl _) _⟩
    case measure => simp [intOf]; omega
  obtain rfl : i = Nt.nn n := by omega
  have S2 : Hid (ReS n la lk fa fk wa wk gF w1.heap.size (Nt.flv n hf) (fun _ => (0, 1)) w wr) := ⟨nrow_below S1.out.row hP.out.2, S1.out.old.trans (hP.out.2.mono S1.out.old.size), KF.out.below hP.out.2, hP.out.1.full (Nat.le_refl _), LF.out, KF.out.lt⟩
  clear hP S1 KF LF HSZ
  obtain ⟨⟨r0, r1, r2, r3⟩, _⟩ := rowN4 S2.out.row
  go_wp2_with fail
  clear r0 r1 r2 r3 zw
  generalize w1.heap.size = g at *
  go_loopw [31] (fun iv wr => ∃ (i : Nat), i ≤ n.ln ∧ iv = .int .i64 i ∧ ∃ r, Hid (ReS n la lk fa fk wa wk gF g (Nt.flv n hf) r w wr) ∧ Hid (∀ k, k < Nt.nn n → Nt.ra n hf k i = some (r k))) (fun iv _ => n.ln - (intOf iv).toNat)
  case atStart => exact ⟨0, Nat.zero_le _, rfl, _, S2, fun k _ => rfl⟩
  case round =>
  obtain ⟨i, hi, rfl, r, hS, hP⟩ := hrel
  clear S2
  by_cases hlt : i < n.ln
  case pos =>
    have hltz : (i : Int) < (n.ln : Int) := by omega
    obtain ⟨b, e, c0, c1, c2⟩ := (HA.out.below hS.out.old).l.at3 hlt
    obtain ⟨ef, hfr⟩ := RF.out.f.r.fr hlt
    obtain ⟨et, htt⟩ := RF.out.f.r.tt hlt
    have hne := RF.out.f.r.frtt hlt
    rw [ef] at c0
    rw [et] at c1
    have zb : b < wr.heap.size := World.block_lt_of_cell? _ _ c0
    subst e
    clear ef et
    obtain ⟨W0, hW0⟩ : ∃ W0, W0 = wr.alloc (.cells #[.int .i64 (Nt.fr n i : Nat), .int .i64 (Nt.tt n i : Nat), .int .i64 (n.L (i * 3 + 2))] 68) := ⟨_, rfl⟩
    have SV : Hid (ReS n (some ⟨b, 0, none⟩) lk fa fk wa wk gF g (Nt.flv n hf) r w W0) := by rw [hW0]; exact hS.out.below (nbel_alloc _ _)
    have RL : Hid (W0.rowIs wr.heap.size 68 3 (rowN [.int .i64 (Nt.fr n i : Nat), .int .i64 (Nt.tt n i : Nat), .int .i64 (n.L (i * 3 + 2))])) := by rw [hW0]; exact rowN_alloc wr _ _
    have NE : Hid (g < wr.heap.size ∧ gF < g) := ⟨hS.out.re.lt, hS.out.lo.2⟩
    have HW0 := Lib.hid hW0
    have hfz : (Nt.fr n i : Int) < (Nt.nn n : Int) := by omega
    have htz : (Nt.tt n i : Int) < (Nt.nn n : Int) := by omega
    have RA := Lib.hid (Nt.ra_right RF.out (Nat.le_of_lt hlt) (hP.out _ hfr))
    have RB := Lib.hid (Nt.ra_right RF.out (Nat.le_of_lt hlt) (hP.out _ htt))
    have RFL := Lib.hid (RF.out.fl hlt)
    have HNE := Lib.hid hne
    clear hW0 hS hne
    go_wp2_with fail
    rw [← HW0.out]
    clear c0 c1 c2 zb
    generalize wr.heap.size = gl at *
    refine wp_region_held_drew (S := RdS n gF gl [.int .i64 (Nt.fr n i : Nat), .int .i64 (Nt.tt n i : Nat), .int .i64 (n.L (i * 3 + 2))] (Nt.flv n hf)) (by kernel_rfl) ⟨(SV.out.below (Below.refl _ _).drew).fl, nrow_below RL.out (Below.refl _ _).drew⟩ (fun hHeld => ?_)
    obtain ⟨Z, hZ⟩ : ∃ Z, Z = W0.drew := ⟨_, rfl⟩
    have SVZa : Hid (ReS n (some ⟨b, 0, none⟩) lk fa fk wa wk gF g (Nt.flv n hf) r w Z) := by rw [hZ]; exact SV.out.below (Below.refl _ _).drew
    rw [← hZ] at hHeld ⊢
    clear hZ SV
    refine take_do (i := 0) (v := (.slice (some ⟨g, 0, none⟩) (Nt.nn n) (Nt.nn n))) rfl (by kernel_rfl) (by kernel_rfl) (by kernel_rfl) (fun _ _ _ h => h) (by rfl) ?_ (by assumption) ?_
    · intro w hSw
      skip
      go_simp
    simp only [Act.put, List.setIfInBounds_toArray, List.set_cons_zero, List.set_cons_succ]
    refine take_do (i := 1) (v := (.pointer (some ⟨gl, 0, none⟩))) rfl (by kernel_rfl) (by kernel_rfl) (by kernel_rfl) (fun _ _ _ h => h) (by rfl) ?_ (by assumption) ?_
    · intro w hSw
      skip
      go_simp
    simp only [Act.put, List.setIfInBounds_toArray, List.set_cons_zero, List.set_cons_succ]
    refine take_do (i := 2) (v := (.int .i64 (Nt.fr n i : Nat))) rfl (by kernel_rfl) (by kernel_rfl) (by kernel_rfl) (fun _ _ _ h => h) (by rfl) ?_ (by assumption) ?_
    · intro w hSw
      obtain ⟨⟨x0, x1, x2⟩, _⟩ := rowN3 hSw.2
      go_simp
    simp only [Act.put, List.setIfInBounds_toArray, List.set_cons_zero, List.set_cons_succ]
    refine take_do (i := 3) (v := (.slice (some ⟨g, 0, none⟩) (Nt.nn n) (Nt.nn n))) rfl (by kernel_rfl) (by kernel_rfl) (by kernel_rfl) (fun _ _ _ h => h) (by rfl) ?_ (by assumption) ?_
    · intro w hSw
      skip
      go_simp
    simp only [Act.put, List.setIfInBounds_toArray, List.set_cons_zero, List.set_cons_succ]
    refine take_do (i := 4) (v := (.pointer (some ⟨gl, 0, none⟩))) rfl (by kernel_rfl) (by kernel_rfl) (by kernel_rfl) (fun _ _ _ h => h) (by rfl) ?_ (by assumption) ?_
    · intro w hSw
      skip
      go_simp
    simp only [Act.put, List.setIfInBounds_toArray, List.set_cons_zero, List.set_cons_succ]
    refine take_do (i := 5) (v := (.int .i64 (Nt.fr n i : Nat))) rfl (by kernel_rfl) (by kernel_rfl) (by kernel_rfl) (fun _ _ _ h => h) (by rfl) ?_ (by assumption) ?_
    · intro w hSw
      obtain ⟨⟨x0, x1, x2⟩, _⟩ := rowN3 hSw.2
      go_simp
    simp only [Act.put, List.setIfInBounds_toArray, List.set_cons_zero, List.set_cons_succ]
    refine take_do (i := 6) (v := (.pointer (some ⟨g, Nt.fr n i * 2, none⟩))) rfl (by kernel_rfl) (by kernel_rfl) (by kernel_rfl) (fun _ _ _ h => h) (by rfl) ?_ (by assumption) ?_
    · intro w hSw
      skip
      go_simp
    simp only [Act.put, List.setIfInBounds_toArray, List.set_cons_zero, List.set_cons_succ]
    refine take_do (i := 8) (v := (.slice (some ⟨gF, 0, none⟩) n.ln kF)) rfl (by kernel_rfl) (by kernel_rfl) (by kernel_rfl) (fun _ _ _ h => h) (by rfl) ?_ (by assumption) ?_
    · intro w hSw
      skip
      go_simp
    simp only [Act.put, List.setIfInBounds_toArray, List.set_cons_zero, List.set_cons_succ]
    refine take_do (i := 9) (v := (.int .i64 i)) rfl (by kernel_rfl) (by kernel_rfl) (by kernel_rfl) (fun _ _ _ h => h) (by rfl) ?_ (by assumption) ?_
    · intro w hSw
      skip
      go_simp
    simp only [Act.put, List.setIfInBounds_toArray, List.set_cons_zero, List.set_cons_succ]
    refine take_do (i := 10) (v := (.pointer (some ⟨gF, i * 2, none⟩))) rfl (by kernel_rfl) (by kernel_rfl) (by kernel_rfl) (fun _ _ _ h => h) (by rfl) ?_ (by assumption) ?_
    · intro w hSw
      skip
      go_simp
    simp only [Act.put, List.setIfInBounds_toArray, List.set_cons_zero, List.set_cons_succ]
    refine take_do (i := 11) (v := (frV (Nt.flv n hf i))) rfl (by kernel_rfl) (by kernel_rfl) (by kernel_rfl) (fun _ _ _ h => h) (by rfl) ?_ (by assumption) ?_
    · intro w hSw
      obtain ⟨y0, y1⟩ := hSw.1.fr hlt
      go_simp
    simp only [Act.put, List.setIfInBounds_toArray, List.set_cons_zero, List.set_cons_succ]
    obtain ⟨t0, t1⟩ := SVZa.out.re.fr (k := Nt.fr n i) (by omega)
    refine take_call (i := 7) rfl (by kernel_rfl) (fun K2 hK => ?_)
    go_simp
    refine hK.out _ _ hHeld (fun hHeld2 => ?_)
    clear hK hHeld t0 t1
    have hHeld := hHeld2
    clear hHeld2
    refine take_call (i := 12) rfl (by kernel_rfl) (fun K2 hK => ?_)
    go_simp
    refine (nimplSub (r (Nt.fr n i)) (Nt.flv n hf i) _ RA.out RFL.out (HG.out.below SVZa.out.old)).mono ?_
    rintro e Q1 ⟨rfl, hb⟩
    have SV1 := Lib.hid (SVZa.out.below hb)
    go_wp2_with fail
    refine hK.out _ _ (hHeld.below hb) (fun hHeld2 => ?_)
    clear hK hHeld hb SVZa
    have hHeld := hHeld2
    clear hHeld2
    by_cases hq : Fq.code (Fq.sub (r (Nt.fr n i)) (Nt.flv n hf i)) = 0
    case neg =>
      have HC := Lib.hid (Nt.reCode_5 HC0.out (k := Nt.fr n i) (by omega) (Nt.fin_none (j := i + 1) (by rw [Nt.ra_fr (hP.out _ hfr) (Ne.symm HNE.out) rfl]; exact Nt.okv_bad hq) (by omega)))
      have h5 := (Fq.code_or (Fq.sub_fit RA.out RFL.out).1).resolve_left hq
      have HQ := Lib.hid hq
      have H5 := Lib.hid h5
      clear hq h5
      refine take_call (i := 13) rfl (by kernel_rfl) (fun K2 hK => ?_)
      go_simp
      refine (sure_bad _ _ _ HQ.out _).mono ?_
      rintro e Q2 ⟨⟨s, rfl⟩, hb⟩
      go_wp2_with fail
      exact ⟨rfl, Or.inr ⟨by rw [HC.out]; decide, s, by rw [HC.out, H5.out]⟩, SV1.out.old.trans (hb.mono SV1.out.old.size)⟩
    case pos =>
      have HQa := Lib.hid hq
      clear hq
      refine take_call (i := 13) rfl (by kernel_rfl) (fun K2 hK => ?_)
      go_simp
      have HV := Lib.hid (sure_ok (Fq.val (Fq.sub (r (Nt.fr n i)) (Nt.flv n hf i))).1 (Fq.val (Fq.sub (r (Nt.fr n i)) (Nt.flv n hf i))).2)
      rw [← HQa.out] at HV
      refine (HV.out _).mono ?_
      rintro e Q2 ⟨rfl, hb⟩
      clear HV
      have SV2 := Lib.hid (SV1.out.below hb)
      go_wp2_with fail
      refine hK.out _ _ (hHeld.below hb) (fun hHeld2 => ?_)
      clear hK hHeld hb SV1
      have hHeld := hHeld2
      clear hHeld2
      refine take_do (i := 14) (v := (.pointer (some ⟨g, Nt.fr n i * 2, none⟩))) rfl (by kernel_rfl) (by kernel_rfl) (by kernel_rfl) (fun _ _ _ h => h) (by rfl) ?_ (by assumption) ?_
      · intro w hSw
        skip
        go_simp
      simp only [Act.put, List.setIfInBounds_toArray, List.set_cons_zero, List.set_cons_succ]
      have o0 := SV2.out.re.cell (i := Nt.fr n i * 2) (by omega)
      have o1 := SV2.out.re.cell (i := Nt.fr n i * 2 + 1) (by omega)
      have z0 := SV2.out.re.frozen (Nt.fr n i * 2)
      have z1 := SV2.out.re.frozen (Nt.fr n i * 2 + 1)
      have l0 := SV2.out.re.lt
      obtain ⟨WZa, hWZa⟩ : ∃ WZa, WZa = (Q2.setCell ⟨g, Nt.fr n i * 2, none⟩ (.int .i64 (Fq.val (Fq.sub (r (Nt.fr n i)) (Nt.flv n hf i))).1)).setCell ⟨g, Nt.fr n i * 2 + 1, none⟩ (.int .i64 (Fq.val (Fq.sub (r (Nt.fr n i)) (Nt.flv n hf i))).2) := ⟨_, rfl⟩
      have SYa : Hid (ReS n (some ⟨b, 0, none⟩) lk fa fk wa wk gF g (Nt.flv n hf) (Nt.updF r (Nt.fr n i) (Fq.val (Fq.sub (r (Nt.fr n i)) (Nt.flv n hf i)))) w WZa) := by rw [hWZa]; exact SV2.out.set (Nt.fr n i) (Fq.val (Fq.sub (r (Nt.fr n i)) (Nt.flv n hf i)))
      have RYa : Hid (WZa.rowIs gl 68 3 (rowN [.int .i64 (Nt.fr n i : Nat), .int .i64 (Nt.tt n i : Nat), .int .i64 (n.L (i * 3 + 2))])) := by
        rw [hWZa]
        have h1 := NE.out
        exact nrow_set (nrow_set hHeld.2 (p := ⟨g, Nt.fr n i * 2, none⟩) (by show gl ≠ g; omega) _) (p := ⟨g, Nt.fr n i * 2 + 1, none⟩) (by show gl ≠ g; omega) _
      have HWZa := Lib.hid hWZa
      clear hWZa
      refine take_call (i := 15) rfl (by kernel_rfl) (fun K2 hK => ?_)
      go_simp
      rw [← HWZa.out]
      refine hK.out _ _ ⟨SYa.out.fl, RYa.out⟩ (fun hHeld2 => ?_)
      clear hK hHeld hHeld2 HWZa o0 o1 z0 z1 l0 SV2
      refine wpAnyH_done (by kernel_rfl) ?_ _
      go_wp2_with fail
      refine wp_region_held_drew (S := RdS n gF gl [.int .i64 (Nt.fr n i : Nat), .int .i64 (Nt.tt n i : Nat), .int .i64 (n.L (i * 3 + 2))] (Nt.flv n hf)) (by kernel_rfl) ⟨(SYa.out.below (Below.refl _ _).drew).fl, nrow_below RYa.out (Below.refl _ _).drew⟩ (fun hHeld => ?_)
      obtain ⟨Z, hZ⟩ : ∃ Z, Z = WZa.drew := ⟨_, rfl⟩
      have SVZb : Hid (ReS n (some ⟨b, 0, none⟩) lk fa fk wa wk gF g (Nt.flv n hf) (Nt.updF r (Nt.fr n i) (Fq.val (Fq.sub (r (Nt.fr n i)) (Nt.flv n hf i)))) w Z) := by rw [hZ]; exact SYa.out.below (Below.refl _ _).drew
      rw [← hZ] at hHeld ⊢
      clear hZ SYa
      refine take_do (i := 0) (v := (.slice (some ⟨g, 0, none⟩) (Nt.nn n) (Nt.nn n))) rfl (by kernel_rfl) (by kernel_rfl) (by kernel_rfl) (fun _ _ _ h => h) (by rfl) ?_ (by assumption) ?_
      · intro w hSw
        skip
        go_simp
      simp only [Act.put, List.setIfInBounds_toArray, List.set_cons_zero, List.set_cons_succ]
      refine take_do (i := 1) (v := (.pointer (some ⟨gl, 1, none⟩))) rfl (by kernel_rfl) (by kernel_rfl) (by kernel_rfl) (fun _ _ _ h => h) (by rfl) ?_ (by assumption) ?_
      · intro w hSw
        skip
        go_simp
      simp only [Act.put, List.setIfInBounds_toArray, List.set_cons_zero, List.set_cons_succ]
      refine take_do (i := 2) (v := (.int .i64 (Nt.tt n i : Nat))) rfl (by kernel_rfl) (by kernel_rfl) (by kernel_rfl) (fun _ _ _ h => h) (by rfl) ?_ (by assumption) ?_
      · intro w hSw
        obtain ⟨⟨x0, x1, x2⟩, _⟩ := rowN3 hSw.2
        go_simp
      simp only [Act.put, List.setIfInBounds_toArray, List.set_cons_zero, List.set_cons_succ]
      refine take_do (i := 3) (v := (.slice (some ⟨g, 0, none⟩) (Nt.nn n) (Nt.nn n))) rfl (by kernel_rfl) (by kernel_rfl) (by kernel_rfl) (fun _ _ _ h => h) (by rfl) ?_ (by assumption) ?_
      · intro w hSw
        skip
        go_simp
      simp only [Act.put, List.setIfInBounds_toArray, List.set_cons_zero, List.set_cons_succ]
      refine take_do (i := 4) (v := (.pointer (some ⟨gl, 1, none⟩))) rfl (by kernel_rfl) (by kernel_rfl) (by kernel_rfl) (fun _ _ _ h => h) (by rfl) ?_ (by assumption) ?_
      · intro w hSw
        skip
        go_simp
      simp only [Act.put, List.setIfInBounds_toArray, List.set_cons_zero, List.set_cons_succ]
      refine take_do (i := 5) (v := (.int .i64 (Nt.tt n i : Nat))) rfl (by kernel_rfl) (by kernel_rfl) (by kernel_rfl) (fun _ _ _ h => h) (by rfl) ?_ (by assumption) ?_
      · intro w hSw
        obtain ⟨⟨x0, x1, x2⟩, _⟩ := rowN3 hSw.2
        go_simp
      simp only [Act.put, List.setIfInBounds_toArray, List.set_cons_zero, List.set_cons_succ]
      refine take_do (i := 6) (v := (.pointer (some ⟨g, Nt.tt n i * 2, none⟩))) rfl (by kernel_rfl) (by kernel_rfl) (by kernel_rfl) (fun _ _ _ h => h) (by rfl) ?_ (by assumption) ?_
      · intro w hSw
        skip
        go_simp
      simp only [Act.put, List.setIfInBounds_toArray, List.set_cons_zero, List.set_cons_succ]
      refine take_do (i := 8) (v := (.slice (some ⟨gF, 0, none⟩) n.ln kF)) rfl (by kernel_rfl) (by kernel_rfl) (by kernel_rfl) (fun _ _ _ h => h) (by rfl) ?_ (by assumption) ?_
      · intro w hSw
        skip
        go_simp
      simp only [Act.put, List.setIfInBounds_toArray, List.set_cons_zero, List.set_cons_succ]
      refine take_do (i := 9) (v := (.int .i64 i)) rfl (by kernel_rfl) (by kernel_rfl) (by kernel_rfl) (fun _ _ _ h => h) (by rfl) ?_ (by assumption) ?_
      · intro w hSw
        skip
        go_simp
      simp only [Act.put, List.setIfInBounds_toArray, List.set_cons_zero, List.set_cons_succ]
      refine take_do (i := 10) (v := (.pointer (some ⟨gF, i * 2, none⟩))) rfl (by kernel_rfl) (by kernel_rfl) (by kernel_rfl) (fun _ _ _ h => h) (by rfl) ?_ (by assumption) ?_
      · intro w hSw
        skip
        go_simp
      simp only [Act.put, List.setIfInBounds_toArray, List.set_cons_zero, List.set_cons_succ]
      refine take_do (i := 11) (v := (frV (Nt.flv n hf i))) rfl (by kernel_rfl) (by kernel_rfl) (by kernel_rfl) (fun _ _ _ h => h) (by rfl) ?_ (by assumption) ?_
      · intro w hSw
        obtain ⟨y0, y1⟩ := hSw.1.fr hlt
        go_simp
      simp only [Act.put, List.setIfInBounds_toArray, List.set_cons_zero, List.set_cons_succ]
      obtain ⟨t0, t1⟩ := SVZb.out.re.fr (k := Nt.tt n i) (by omega)
      rw [Nt.updF_ne (Ne.symm HNE.out)] at t0 t1
      refine take_call (i := 7) rfl (by kernel_rfl) (fun K2 hK => ?_)
      go_simp
      refine hK.out _ _ hHeld (fun hHeld2 => ?_)
      clear hK hHeld t0 t1
      have hHeld := hHeld2
      clear hHeld2
      refine take_call (i := 12) rfl (by kernel_rfl) (fun K2 hK => ?_)
      go_simp
      refine (nimplAdd (r (Nt.tt n i)) (Nt.flv n hf i) _ RB.out RFL.out (HG.out.below SVZb.out.old)).mono ?_
      rintro e Q1 ⟨rfl, hb⟩
      have SV1 := Lib.hid (SVZb.out.below hb)
      go_wp2_with fail
      refine hK.out _ _ (hHeld.below hb) (fun hHeld2 => ?_)
      clear hK hHeld hb SVZb
      have hHeld := hHeld2
      clear hHeld2
      by_cases hq : Fq.code (Fq.add (r (Nt.tt n i)) (Nt.flv n hf i)) = 0
      case neg =>
        have HC := Lib.hid (Nt.reCode_5 HC0.out (k := Nt.tt n i) (by omega) (Nt.fin_none (j := i + 1) (by rw [Nt.ra_tt (hP.out _ htt) rfl]; exact Nt.okv_bad hq) (by omega)))
        have h5 := (Fq.code_or (Fq.add_fit RB.out RFL.out).1).resolve_left hq
        have HQ := Lib.hid hq
        have H5 := Lib.hid h5
        clear hq h5
        refine take_call (i := 13) rfl (by kernel_rfl) (fun K2 hK => ?_)
        go_simp
        refine (sure_bad _ _ _ HQ.out _).mono ?_
        rintro e Q2 ⟨⟨s, rfl⟩, hb⟩
        go_wp2_with fail
        exact ⟨rfl, Or.inr ⟨by rw [HC.out]; decide, s, by rw [HC.out, H5.out]⟩, SV1.out.old.trans (hb.mono SV1.out.old.size)⟩
      case pos =>
      have HQb := Lib.hid hq
      clear hq
      refine take_call (i := 13) rfl (by kernel_rfl) (fun K2 hK => ?_)
      go_simp
      have HV := Lib.hid (sure_ok (Fq.val (Fq.add (r (Nt.tt n i)) (Nt.flv n hf i))).1 (Fq.val (Fq.add (r (Nt.tt n i)) (Nt.flv n hf i))).2)
      rw [← HQb.out] at HV
      refine (HV.out _).mono ?_
      rintro e Q2 ⟨rfl, hb⟩
      clear HV
      have SV2 := Lib.hid (SV1.out.below hb)
      go_wp2_with fail
      refine hK.out _ _ (hHeld.below hb) (fun hHeld2 => ?_)
      clear hK hHeld hb SV1
      have hHeld := hHeld2
      clear hHeld2
      refine take_do (i := 14) (v := (.pointer (some ⟨g, Nt.tt n i * 2, none⟩))) rfl (by kernel_rfl) (by kernel_rfl) (by kernel_rfl) (fun _ _ _ h => h) (by rfl) ?_ (by assumption) ?_
      · intro w hSw
        skip
        go_simp
      simp only [Act.put, List.setIfInBounds_toArray, List.set_cons_zero, List.set_cons_succ]
      have o0 := SV2.out.re.cell (i := Nt.tt n i * 2) (by omega)
      have o1 := SV2.out.re.cell (i := Nt.tt n i * 2 + 1) (by omega)
      have z0 := SV2.out.re.frozen (Nt.tt n i * 2)
      have z1 := SV2.out.re.frozen (Nt.tt n i * 2 + 1)
      have l0 := SV2.out.re.lt
      obtain ⟨WZb, hWZb⟩ : ∃ WZb, WZb = (Q2.setCell ⟨g, Nt.tt n i * 2, none⟩ (.int .i64 (Fq.val (Fq.add (r (Nt.tt n i)) (Nt.flv n hf i))).1)).setCell ⟨g, Nt.tt n i * 2 + 1, none⟩ (.int .i64 (Fq.val (Fq.add (r (Nt.tt n i)) (Nt.flv n hf i))).2) := ⟨_, rfl⟩
      have SYb : Hid (ReS n (some ⟨b, 0, none⟩) lk fa fk wa wk gF g (Nt.flv n hf) (Nt.updF (Nt.updF r (Nt.fr n i) (Fq.val (Fq.sub (r (Nt.fr n i)) (Nt.flv n hf i)))) (Nt.tt n i) (Fq.val (Fq.add (r (Nt.tt n i)) (Nt.flv n hf i)))) w WZb) := by rw [hWZb]; exact SV2.out.set (Nt.tt n i) (Fq.val (Fq.add (r (Nt.tt n i)) (Nt.flv n hf i)))
      have RYb : Hid (WZb.rowIs gl 68 3 (rowN [.int .i64 (Nt.fr n i : Nat), .int .i64 (Nt.tt n i : Nat), .int .i64 (n.L (i * 3 + 2))])) := by
        rw [hWZb]
        have h1 := NE.out
        exact nrow_set (nrow_set hHeld.2 (p := ⟨g, Nt.tt n i * 2, none⟩) (by show gl ≠ g; omega) _) (p := ⟨g, Nt.tt n i * 2 + 1, none⟩) (by show gl ≠ g; omega) _
      have HWZb := Lib.hid hWZb
      clear hWZb
      refine take_call (i := 15) rfl (by kernel_rfl) (fun K2 hK => ?_)
      go_simp
      rw [← HWZb.out]
      refine hK.out _ _ ⟨SYb.out.fl, RYb.out⟩ (fun hHeld2 => ?_)
      clear hK hHeld hHeld2 HWZb o0 o1 z0 z1 l0 SV2
      refine wpAnyH_done (by kernel_rfl) ?_ _

      go_wp2_with fail
      go_roundw
      case rel =>
        refine ⟨i + 1, by omega, by go_num, _, SYb, fun k hk => ?_⟩
        by_cases e1 : Nt.tt n i = k
        · subst e1
          rw [Nt.updF_same, Nt.ra_tt (hP.out _ hk) rfl]; exact Nt.okv_ok HQb.out
        · rw [Nt.updF_ne (Ne.symm e1)]
          by_cases e2 : Nt.fr n i = k
          · subst e2
            rw [Nt.updF_same, Nt.ra_fr (hP.out _ hk) e1 rfl]; exact Nt.okv_ok HQa.out
          · rw [Nt.updF_ne (Ne.symm e2), Nt.ra_no (hP.out k hk) e1 e2]
      case measure => simp [intOf]; omega
  obtain rfl : i = n.ln := by omega
  obtain ⟨⟨r0, r1, r2, r3⟩, _⟩ := rowN4 hS.out.row
  rw [hwn.out] at r3
  go_wp2_with fail
  clear r0 r1 r2 r3
  go_loopw [70] (fun iv wr => ∃ (i : Nat), i ≤ Nt.nn n ∧ iv = .int .i64 i ∧ ∃ r, Hid (ReS n la lk fa fk wa wk gF g (Nt.flv n hf) r w wr) ∧ Hid (∀ k, k < Nt.nn n → (k < i → Nt.fin n hf k = some (r k)) ∧ (i ≤ k → Nt.ra n hf k n.ln = some (r k)))) (fun iv _ => Nt.nn n - (intOf iv).toNat)
  case atStart => exact ⟨0, Nat.zero_le _, rfl, r, hS, fun k hk => ⟨fun h => absurd h (Nat.not_lt_zero _), fun _ => hP.out k hk⟩⟩
  case round =>
  obtain ⟨i, hi, rfl, r, hS, hP⟩ := hrel
  by_cases hlt : i < Nt.nn n
  case pos =>
    have hltz : (i : Int) < (Nt.nn n : Int) := by omega
    obtain ⟨b, e, c0⟩ := (HA.out.below hS.out.old).w.at1 (i := i) (by rw [hwn.out]; exact hlt)
    subst e
    have RA := Lib.hid (Nt.ra_right RF.out (Nat.le_refl _) ((hP.out i hlt).2 (Nat.le_refl _)))
    have RW := Lib.hid (Nt.want_right RF.out.f.r hlt)
    have WB := Lib.hid (RF.out.f.r.w i (by rw [hwn.out]; exact hlt))
    go_wp2_with fail
    clear c0
    refine wp_region_held_drew (S := fun V => Below w.heap.size w V) (by kernel_rfl) hS.out.old.drew (fun hHeld => ?_)
    obtain ⟨Z, hZ⟩ : ∃ Z, Z = wr.drew := ⟨_, rfl⟩
    have SVZ : Hid (ReS n la lk fa fk (some ⟨b, 0, none⟩) wk gF g (Nt.flv n hf) r w Z) := by rw [hZ]; exact hS.out.below (Below.refl _ _).drew
    rw [← hZ] at hHeld ⊢
    clear hZ hS
    refine take_do (i := 0) (v := (.slice (some ⟨g, 0, none⟩) (Nt.nn n) (Nt.nn n))) rfl (by kernel_rfl) (by kernel_rfl) (by kernel_rfl) (fun _ _ _ h => h) (by rfl) ?_ (by assumption) ?_
    · intro w hSw
      skip
      go_simp
    simp only [Act.put, List.setIfInBounds_toArray, List.set_cons_zero, List.set_cons_succ]
    refine take_do (i := 1) (v := (.int .i64 i)) rfl (by kernel_rfl) (by kernel_rfl) (by kernel_rfl) (fun _ _ _ h => h) (by rfl) ?_ (by assumption) ?_
    · intro w hSw
      skip
      go_simp
    simp only [Act.put, List.setIfInBounds_toArray, List.set_cons_zero, List.set_cons_succ]
    refine take_do (i := 2) (v := (.slice (some ⟨g, 0, none⟩) (Nt.nn n) (Nt.nn n))) rfl (by kernel_rfl) (by kernel_rfl) (by kernel_rfl) (fun _ _ _ h => h) (by rfl) ?_ (by assumption) ?_
    · intro w hSw
      skip
      go_simp
    simp only [Act.put, List.setIfInBounds_toArray, List.set_cons_zero, List.set_cons_succ]
    refine take_do (i := 3) (v := (.int .i64 i)) rfl (by kernel_rfl) (by kernel_rfl) (by kernel_rfl) (fun _ _ _ h => h) (by rfl) ?_ (by assumption) ?_
    · intro w hSw
      skip
      go_simp
    simp only [Act.put, List.setIfInBounds_toArray, List.set_cons_zero, List.set_cons_succ]
    refine take_do (i := 4) (v := (.pointer (some ⟨g, i * 2, none⟩))) rfl (by kernel_rfl) (by kernel_rfl) (by kernel_rfl) (fun _ _ _ h => h) (by rfl) ?_ (by assumption) ?_
    · intro w hSw
      skip
      go_simp
    simp only [Act.put, List.setIfInBounds_toArray, List.set_cons_zero, List.set_cons_succ]
    refine take_do (i := 6) (v := (.int .i64 (n.W i))) rfl (by kernel_rfl) (by kernel_rfl) (by kernel_rfl) (fun _ _ _ h => h) (by rfl) ?_ (by assumption) ?_
    · intro w hSw
      skip
      go_simp
    simp only [Act.put, List.setIfInBounds_toArray, List.set_cons_zero, List.set_cons_succ]
    obtain ⟨t0, t1⟩ := SVZ.out.re.fr hlt
    refine wpAnyH_ready (rs := [5, 7]) (by kernel_rfl) (by simp) (AllReadyH.cons (at_drop (i := 5) rfl) (fun K2 hK => ?_) (AllReadyH.cons (at_drop (i := 7) rfl) (fun K2 hK => ?_) (AllReadyH.nil)))
    · go_simp
      refine hK.out _ _ hHeld (fun hHeld2 => ?_)
      clear hK hHeld
      have hHeld := hHeld2
      clear hHeld2
      refine take_call (i := 7) rfl (by kernel_rfl) (fun K2 hK => ?_)
      go_simp
      refine (whole_any (n.W i) _ (by have := WB.out; unfold Nt.wantOk at this; omega) (by have := WB.out; unfold Nt.wantOk at this; omega) (HG.out.below SVZ.out.old)).mono ?_
      rintro e Q0 ⟨rfl, hb⟩
      replace SVZ := Lib.hid (SVZ.out.below hb)
      go_wp2_with fail
      refine hK.out _ _ SVZ.out.old (fun hHeld2 => ?_)
      clear hK hHeld hb t0 t1
      have hHeld := hHeld2
      clear hHeld2
      refine take_call (i := 8) rfl (by kernel_rfl) (fun K2 hK => ?_)
      go_simp
      refine (nimplSub (r i) (n.W i, 1) _ RA.out RW.out (HG.out.below SVZ.out.old)).mono ?_
      rintro e Q1 ⟨rfl, hb⟩
      have SV1 := Lib.hid (SVZ.out.below hb)
      go_wp2_with fail
      refine hK.out _ _ SV1.out.old (fun hHeld2 => ?_)
      clear hK hHeld hb SVZ
      have hHeld := hHeld2
      clear hHeld2
      by_cases hq : Fq.code (Fq.sub (r i) (n.W i, 1)) = 0
      case neg =>
        have HC := Lib.hid (Nt.reCode_5 HC0.out (k := i) hlt (by unfold Nt.fin; rw [(hP.out i hlt).2 (Nat.le_refl _)]; exact Nt.okv_bad hq))
        have h5 := (Fq.code_or (Fq.sub_fit RA.out RW.out).1).resolve_left hq
        have HQ := Lib.hid hq
        have H5 := Lib.hid h5
        clear hq h5
        refine take_call (i := 9) rfl (by kernel_rfl) (fun K2 hK => ?_)
        go_simp
        refine (sure_bad _ _ _ HQ.out _).mono ?_
        rintro e Q2 ⟨⟨s, rfl⟩, hb⟩
        go_wp2_with fail
        exact ⟨rfl, Or.inr ⟨by rw [HC.out]; decide, s, by rw [HC.out, H5.out]⟩, SV1.out.old.trans (hb.mono SV1.out.old.size)⟩
      case pos =>
        have HQ := Lib.hid hq
        clear hq
        refine take_call (i := 9) rfl (by kernel_rfl) (fun K2 hK => ?_)
        go_simp
        have HV := Lib.hid (sure_ok (Fq.val (Fq.sub (r i) (n.W i, 1))).1 (Fq.val (Fq.sub (r i) (n.W i, 1))).2)
        rw [← HQ.out] at HV
        refine (HV.out _).mono ?_
        rintro e Q2 ⟨rfl, hb⟩
        clear HV
        have SV2 := Lib.hid (SV1.out.below hb)
        go_wp2_with fail
        refine hK.out _ _ SV2.out.old (fun hHeld2 => ?_)
        clear hK hHeld hb SV1
        have hHeld := hHeld2
        clear hHeld2
        refine take_do (i := 10) (v := (.pointer (some ⟨g, i * 2, none⟩))) rfl (by kernel_rfl) (by kernel_rfl) (by kernel_rfl) (fun _ _ _ h => h) (by rfl) ?_ (by assumption) ?_
        · intro w hSw
          skip
          go_simp
        simp only [Act.put, List.setIfInBounds_toArray, List.set_cons_zero, List.set_cons_succ]
        have o0 := SV2.out.re.cell (i := i * 2) (by omega)
        have o1 := SV2.out.re.cell (i := i * 2 + 1) (by omega)
        have z0 := SV2.out.re.frozen (i * 2)
        have z1 := SV2.out.re.frozen (i * 2 + 1)
        have l0 := SV2.out.re.lt
        obtain ⟨WZ, hWZ⟩ : ∃ WZ, WZ = (Q2.setCell ⟨g, i * 2, none⟩ (.int .i64 (Fq.val (Fq.sub (r i) (n.W i, 1))).1)).setCell ⟨g, i * 2 + 1, none⟩ (.int .i64 (Fq.val (Fq.sub (r i) (n.W i, 1))).2) := ⟨_, rfl⟩
        have SY : Hid (ReS n la lk fa fk (some ⟨b, 0, none⟩) wk gF g (Nt.flv n hf) (Nt.updF r i (Fq.val (Fq.sub (r i) (n.W i, 1)))) w WZ) := by rw [hWZ]; exact SV2.out.set i (Fq.val (Fq.sub (r i) (n.W i, 1)))
        have HWZ := Lib.hid hWZ
        clear hWZ
        refine take_call (i := 11) rfl (by kernel_rfl) (fun K2 hK => ?_)
        go_simp
        rw [← HWZ.out]
        refine hK.out _ _ SY.out.old (fun hHeld2 => ?_)
        clear hK hHeld hHeld2 HWZ o0 o1 z0 z1 l0 SV2
        refine wpAnyH_done (by kernel_rfl) ?_ _
        go_wp2_with fail
        go_roundw
        case rel =>
          refine ⟨i + 1, by omega, by go_num, _, SY, fun k hk => ?_⟩
          by_cases ek : k = i
          · subst ek
            rw [Nt.updF_same]
            exact ⟨fun _ => by unfold Nt.fin; rw [(hP.out k hk).2 (Nat.le_refl _)]; exact Nt.okv_ok HQ.out, fun h => absurd h (by omega)⟩
          · rw [Nt.updF_ne ek]
            exact ⟨fun h => (hP.out k hk).1 (by omega), fun h => (hP.out k hk).2 (by omega)⟩
        case measure => simp [intOf]; omega
    · go_simp
      refine (whole_any (n.W i) _ (by have := WB.out; unfold Nt.wantOk at this; omega) (by have := WB.out; unfold Nt.wantOk at this; omega) (HG.out.below SVZ.out.old)).mono ?_
      rintro e Q0 ⟨rfl, hb⟩
      replace SVZ := Lib.hid (SVZ.out.below hb)
      go_wp2_with fail
      refine hK.out _ _ SVZ.out.old (fun hHeld2 => ?_)
      clear hK hHeld hb t0 t1
      have hHeld := hHeld2
      clear hHeld2
      obtain ⟨t0, t1⟩ := SVZ.out.re.fr hlt
      refine take_call (i := 5) rfl (by kernel_rfl) (fun K2 hK => ?_)
      go_simp
      refine hK.out _ _ hHeld (fun hHeld2 => ?_)
      clear hK hHeld
      have hHeld := hHeld2
      clear hHeld2
      clear t0 t1
      refine take_call (i := 8) rfl (by kernel_rfl) (fun K2 hK => ?_)
      go_simp
      refine (nimplSub (r i) (n.W i, 1) _ RA.out RW.out (HG.out.below SVZ.out.old)).mono ?_
      rintro e Q1 ⟨rfl, hb⟩
      have SV1 := Lib.hid (SVZ.out.below hb)
      go_wp2_with fail
      refine hK.out _ _ SV1.out.old (fun hHeld2 => ?_)
      clear hK hHeld hb SVZ
      have hHeld := hHeld2
      clear hHeld2
      by_cases hq : Fq.code (Fq.sub (r i) (n.W i, 1)) = 0
      case neg =>
        have HC := Lib.hid (Nt.reCode_5 HC0.out (k := i) hlt (by unfold Nt.fin; rw [(hP.out i hlt).2 (Nat.le_refl _)]; exact Nt.okv_bad hq))
        have h5 := (Fq.code_or (Fq.sub_fit RA.out RW.out).1).resolve_left hq
        have HQ := Lib.hid hq
        have H5 := Lib.hid h5
        clear hq h5
        refine take_call (i := 9) rfl (by kernel_rfl) (fun K2 hK => ?_)
        go_simp
        refine (sure_bad _ _ _ HQ.out _).mono ?_
        rintro e Q2 ⟨⟨s, rfl⟩, hb⟩
        go_wp2_with fail
        exact ⟨rfl, Or.inr ⟨by rw [HC.out]; decide, s, by rw [HC.out, H5.out]⟩, SV1.out.old.trans (hb.mono SV1.out.old.size)⟩
      case pos =>
        have HQ := Lib.hid hq
        clear hq
        refine take_call (i := 9) rfl (by kernel_rfl) (fun K2 hK => ?_)
        go_simp
        have HV := Lib.hid (sure_ok (Fq.val (Fq.sub (r i) (n.W i, 1))).1 (Fq.val (Fq.sub (r i) (n.W i, 1))).2)
        rw [← HQ.out] at HV
        refine (HV.out _).mono ?_
        rintro e Q2 ⟨rfl, hb⟩
        clear HV
        have SV2 := Lib.hid (SV1.out.below hb)
        go_wp2_with fail
        refine hK.out _ _ SV2.out.old (fun hHeld2 => ?_)
        clear hK hHeld hb SV1
        have hHeld := hHeld2
        clear hHeld2
        refine take_do (i := 10) (v := (.pointer (some ⟨g, i * 2, none⟩))) rfl (by kernel_rfl) (by kernel_rfl) (by kernel_rfl) (fun _ _ _ h => h) (by rfl) ?_ (by assumption) ?_
        · intro w hSw
          skip
          go_simp
        simp only [Act.put, List.setIfInBounds_toArray, List.set_cons_zero, List.set_cons_succ]
        have o0 := SV2.out.re.cell (i := i * 2) (by omega)
        have o1 := SV2.out.re.cell (i := i * 2 + 1) (by omega)
        have z0 := SV2.out.re.frozen (i * 2)
        have z1 := SV2.out.re.frozen (i * 2 + 1)
        have l0 := SV2.out.re.lt
        obtain ⟨WZ, hWZ⟩ : ∃ WZ, WZ = (Q2.setCell ⟨g, i * 2, none⟩ (.int .i64 (Fq.val (Fq.sub (r i) (n.W i, 1))).1)).setCell ⟨g, i * 2 + 1, none⟩ (.int .i64 (Fq.val (Fq.sub (r i) (n.W i, 1))).2) := ⟨_, rfl⟩
        have SY : Hid (ReS n la lk fa fk (some ⟨b, 0, none⟩) wk gF g (Nt.flv n hf) (Nt.updF r i (Fq.val (Fq.sub (r i) (n.W i, 1)))) w WZ) := by rw [hWZ]; exact SV2.out.set i (Fq.val (Fq.sub (r i) (n.W i, 1)))
        have HWZ := Lib.hid hWZ
        clear hWZ
        refine take_call (i := 11) rfl (by kernel_rfl) (fun K2 hK => ?_)
        go_simp
        rw [← HWZ.out]
        refine hK.out _ _ SY.out.old (fun hHeld2 => ?_)
        clear hK hHeld hHeld2 HWZ o0 o1 z0 z1 l0 SV2
        refine wpAnyH_done (by kernel_rfl) ?_ _
        go_wp2_with fail
        go_roundw
        case rel =>
          refine ⟨i + 1, by omega, by go_num, _, SY, fun k hk => ?_⟩
          by_cases ek : k = i
          · subst ek
            rw [Nt.updF_same]
            exact ⟨fun _ => by unfold Nt.fin; rw [(hP.out k hk).2 (Nat.le_refl _)]; exact Nt.okv_ok HQ.out, fun h => absurd h (by omega)⟩
          · rw [Nt.updF_ne ek]
            exact ⟨fun h => (hP.out k hk).1 (by omega), fun h => (hP.out k hk).2 (by omega)⟩
        case measure => simp [intOf]; omega
  obtain rfl : i = Nt.nn n := by omega
  have HC := Lib.hid (Nt.reCode_0 HC0.out (fun k hk => by rw [(hP.out k hk).1 hk]; rfl))
  have HE : Hid (∀ k, k < Nt.nn n → r k = Nt.rev n hf k) := fun k hk => by unfold Nt.rev; rw [(hP.out k hk).1 hk]; rfl
  go_wp2_with fail
  go_ret
  refine ⟨Or.inl ⟨HC.out, g, _, rfl, by have := hS.out.lo; omega, hS.out.re.congr (fun j hj => ?_)⟩, hS.out.old⟩
  unfold Nt.cells2
  rw [HE.out (j / 2) (by omega)]
end Go.Proofs.YtkaokfmaecdkiaaGreatDoor
namespace Go.Proofs.YtkaokfmaecdkiaaGreatDoor
open Go.RowKit Go.Deep

/-- What stands in this walk: as in the flows', and all that lies below the reckoning's block. -/
structure SpR (n : Nt.Net) (la : Option Addr) (lk : Nat) (fa : Option Addr) (fk : Nat) (wa : Option Addr) (wk gc go i : Nat) (f : Nat → Int × Int) (z : Int) (v : Value) (W1 w W : World) : Prop where
  s : SpS n la lk fa fk wa wk gc go i f z v w W
  b : Below gc W1 W
section
variable {n : Nt.Net} {la : Option Addr} {lk : Nat} {fa : Option Addr} {fk : Nat} {wa : Option Addr} {wk gc go i : Nat} {f : Nat → Int × Int} {z : Int} {v : Value} {W1 w W W' : World}
theorem SpR.below (h : SpR n la lk fa fk wa wk gc go i f z v W1 w W) (hb : Below W.heap.size W W') : SpR n la lk fa fk wa wk gc go i f z v W1 w W' := ⟨h.s.below hb, h.b.trans (hb.mono (by have := h.s.rc.lt; omega))⟩
theorem SpR.take {z' : Int} (h : SpR n la lk fa fk wa wk gc go i f z v W1 w W) (hr : W'.rowIs gc 59 1 (rowN [.int .i64 z'])) (ho : Only gc W W') : SpR n la lk fa fk wa wk gc go i f z' v W1 w W' := ⟨h.s.take hr ho, h.b.trans (ho.below (Nat.le_refl _) (by have := h.s.rc.lt; omega))⟩
theorem SpR.grow {v' : Value} (h : SpR n la lk fa fk wa wk gc go i f z v W1 w W) (hown : W'.ownsRow (go + 1) 35 2 v' (i + 1) (frVs f (i + 1))) (hg : W.grownBy W' v.ownBlock) : SpR n la lk fa fk wa wk gc go (i + 1) f z v' W1 w (W'.setCell ⟨go, 0, none⟩ v') :=
  have hn := h.s.num
  ⟨h.s.grow hown hg, (h.b.grown hg (by have := h.s.rc.lt; omega) (fun k e => by have := (h.s.own.lt k e).1; omega)).setCell (p := ⟨go, 0, none⟩) (by show gc ≤ go; omega) _⟩
theorem SpR.ro (h : SpR n la lk fa fk wa wk gc go i f z v W1 w W) : W.rowIs go 31 3 (rowN [v, .int .i64 0, .int .i64 0]) := h.s.ro
theorem SpR.rc (h : SpR n la lk fa fk wa wk gc go i f z v W1 w W) : W.rowIs gc 59 1 (rowN [.int .i64 z]) := h.s.rc
theorem SpR.own (h : SpR n la lk fa fk wa wk gc go i f z v W1 w W) : W.ownsRow (go + 1) 35 2 v i (frVs f i) := h.s.own
theorem SpR.old (h : SpR n la lk fa fk wa wk gc go i f z v W1 w W) : Below w.heap.size w W := h.s.old
theorem SpR.congr {f' : Nat → Int × Int} (h : SpR n la lk fa fk wa wk gc go i f z v W1 w W) (ef : ∀ j, j < i → f j = f' j) : SpR n la lk fa fk wa wk gc go i f' z v W1 w W := ⟨h.s.congr rfl ef, h.b⟩
theorem SpR.belowG {gl : Nat} (h : SpR n la lk fa fk wa wk gc go i f z v W1 w W) (hb : Below gl W W') (hl : go < gl ∧ ∀ k, v.ownBlock = some k → k < gl) : SpR n la lk fa fk wa wk gc go i f z v W1 w W' :=
  have hn := h.s.num
  ⟨h.s.belowG hb hl, h.b.trans (hb.mono (by omega))⟩
end
namespace Nt
def Acc (n : Net) (hf : Nat → Int) (k : Nat) (f : Nat → Int × Int) (z : Int) : Prop := (z = 0 ∧ ∀ j, j < k → fin n hf j = some (f j)) ∨ (z = 5 ∧ ∃ j, j < nn n ∧ fin n hf j = none)
def AccI (n : Net) (hf : Nat → Int) (k i : Nat) (f : Nat → Int × Int) (z : Int) (x : Int × Int) : Prop := Fq.R x ∧ ((z = 0 ∧ (∀ j, j < k → fin n hf j = some (f j)) ∧ ra n hf k i = some x) ∨ (z = 5 ∧ ∃ j, j < nn n ∧ fin n hf j = none))
theorem accI_start {n : Net} {hf : Nat → Int} {k : Nat} {f : Nat → Int × Int} {z : Int} (h : Acc n hf k f z) : AccI n hf k 0 f z (0, 1) := by
  refine ⟨(Fq.whole_ok (z := 0) (by omega) (by omega)).2.2.2, ?_⟩
  rcases h with ⟨a, b⟩ | h
  · exact Or.inl ⟨a, b, rfl⟩
  · exact Or.inr h
theorem accI_q {n : Net} {hf : Nat → Int} {k i : Nat} {f : Nat → Int × Int} {z : Int} {x q : Int × Int} (hk : k < nn n) (hi : i < n.ln) (h : AccI n hf k i f z x) (hq : Fq.Fit q) (hr : ∀ v, ra n hf k i = some v → v = x → ra n hf k (i + 1) = okv q) : AccI n hf k (i + 1) f (Fq.tkz q z) (Fq.tkv q) := by
  refine ⟨Fq.tkv_right hq, ?_⟩
  rcases h.2 with ⟨a, b, c⟩ | ⟨a, b⟩
  · have h1 := hr x c rfl
    by_cases e : Fq.code q = 0
    · rw [Fq.tkz_ok e, Fq.tkv_ok e]; rw [okv_ok e] at h1; exact Or.inl ⟨a, b, h1⟩
    · rw [okv_bad e] at h1
      have : Fq.tkz q z = 5 := if_neg e
      rw [this]
      exact Or.inr ⟨rfl, k, hk, fin_none h1 (by omega)⟩
  · rw [a, Fq.tkz_five]; exact Or.inr ⟨rfl, b⟩
theorem accI_no {n : Net} {hf : Nat → Int} {k i : Nat} {f : Nat → Int × Int} {z : Int} {x : Int × Int} (h : AccI n hf k i f z x) (e1 : tt n i ≠ k) (e2 : fr n i ≠ k) : AccI n hf k (i + 1) f z x := by
  refine ⟨h.1, ?_⟩
  rcases h.2 with ⟨a, b, c⟩ | h
  · exact Or.inl ⟨a, b, ra_no c e1 e2⟩
  · exact Or.inr h
theorem acc_next {n : Net} {hf : Nat → Int} {k : Nat} {f : Nat → Int × Int} {z : Int} {x : Int × Int} (hk : k < nn n) (h : AccI n hf k n.ln f z x) : Acc n hf (k + 1) (updF f k (Fq.tkv (Fq.sub x (n.W k, 1)))) (Fq.tkz (Fq.sub x (n.W k, 1)) z) := by
  rcases h.2 with ⟨a, b, c⟩ | ⟨a, b⟩
  · have h1 : fin n hf k = okv (Fq.sub x (n.W k, 1)) := by unfold fin; rw [c]
    by_cases e : Fq.code (Fq.sub x (n.W k, 1)) = 0
    · rw [okv_ok e] at h1
      rw [Fq.tkz_ok e, Fq.tkv_ok e]
      refine Or.inl ⟨a, fun j hj => ?_⟩
      by_cases ej : j = k
      · subst ej; rw [updF_same]; exact h1
      · rw [updF_ne ej]; exact b j (by omega)
    · rw [okv_bad e] at h1
      have : Fq.tkz (Fq.sub x (n.W k, 1)) z = 5 := if_neg e
      rw [this]
      exact Or.inr ⟨rfl, k, hk, h1⟩
  · rw [a, Fq.tkz_five]; exact Or.inr ⟨rfl, b⟩
end Nt
set_option maxRecDepth 100000 in
set_option maxHeartbeats 16000000 in
theorem specRest_any (n : Nt.Net) (la : Option Addr) (lk : Nat) (fa : Option Addr) (fk : Nat) (wa : Option Addr) (wk : Nat) (ha : Option Addr) (hn hk : Nat) (hf : Nat → Int) (w : World) (h : NtAt n la fa wa w) (hs : NtSmall n) (hh : IsAt ha (hn * 2) hf w) (hm : hn ≤ 1048576) :
    Calls Tryz.prog 10 #[ntV n la lk fa fk wa wk, .slice ha hn hk] w fun e w' => AnsF w.heap.size (Nt.reCode n hn hf) (Nt.nn n) (Nt.cells2 (Nt.rev n hf)) e w' ∧ Below w.heap.size w w' := by
  have HA := Lib.hid h
  obtain ⟨W, hW⟩ : ∃ W, W = (w.alloc (.cells #[.int .i64 n.nodes, .slice la n.ln lk, .slice fa n.fn fk, .slice wa n.wn wk] 27)).alloc (.cells #[.slice none 0 0, .int .i64 0, .int .i64 0] 31) := ⟨_, rfl⟩
  have b0 : Below w.heap.size w W := by rw [hW]; exact ((Below.refl _ _).alloc (Nat.le_refl _) _).alloc (by simp) _
  have B0 := Lib.hid b0
  have R0 : Hid (W.rowIs w.heap.size 27 4 (rowN (ntL n la lk fa fk wa wk))) := by rw [hW]; exact nrow_below (rowN_alloc w _ _) (nbel_alloc _ _)
  have O0 : Hid (W.rowIs (w.heap.size + 1) 31 3 (rowN (noL none 0 0 0 0))) := by rw [hW]; exact rowN_alloc' (by simp) _ _
  have HX := Lib.hid (specFlows_any n la lk fa fk wa wk ha hn hk hf W (h.below b0) hs (hh.below b0) hm)
  have HW := Lib.hid hW
  have HWS : Hid (W.heap.size = w.heap.size + 2) := by show _ = _; rw [hW]; simp
  clear h hh hs hW b0
  go_enter Tryz.func10, Tryz.ntmps10
  go_wp2_with fail
  rw [← HW.out]
  refine HX.out.mono ?_
  rintro e w1 ⟨⟨a5, k5, rfl, hL⟩, hb⟩
  have B1 : Hid (Below w.heap.size w w1) := B0.out.trans (hb.mono B0.out.size)
  have R1 := Lib.hid (nrow_below R0.out hb)
  have O1 := Lib.hid (nrow_below O0.out hb)
  clear hb B0 R0 O0 HX
  obtain ⟨⟨r0, r1, r2, r3⟩, _⟩ := rowN4 R1.out
  obtain ⟨⟨p0, p1, p2⟩, z0, z1, z2⟩ := rowN3 O1.out
  have lw : w.heap.size + 1 < w1.heap.size := O1.out.lt
  by_cases hc : Nt.flCode n hn hf = 0
  case neg =>
    rw [if_neg hc] at hL ⊢
    have HC := Lib.hid (Nt.reCode_bad hc)
    have HN := Lib.hid hc
    obtain ⟨c5, hc5⟩ : ∃ c5, c5 = Nt.flCode n hn hf := ⟨_, rfl⟩
    have H5 := Lib.hid hc5
    rw [← hc5] at hc ⊢
    have hcz : (c5 != 0) = true := by simp [hc]
    have ea : a5 = none ∧ k5 = 0 ∨ ∃ g, a5 = some ⟨g, 0, none⟩ ∧ W.heap.size ≤ g ∧ g < w1.heap.size := by
      rcases hL with ⟨e1, _, e3⟩ | ⟨g, e, h1, h2⟩
      · exact Or.inl ⟨e1, e3⟩
      · exact Or.inr ⟨g, e, h1, h2.lt⟩
    have HE := Lib.hid ea
    have HLL := Lib.hid hL
    clear hc hc5 hL ea
    go_wp2_with fail
    obtain ⟨⟨x0, x1, x2⟩, _⟩ := rowN3 (nrow_below (rowN_put (rowN_put (rowN_put O1.out 0 (.slice a5 0 k5) (by simp)) 1 (.int .i64 0) (by simp)) 2 (.int .i64 c5) (by simp)) (nbel_alloc _ (.cells #[.slice a5 0 k5, .int .i64 0, .int .i64 c5] 31)))
    refine bodyPost_ret (v := noV a5 0 k5 0 c5) (by simp [results, Tryz.results10, go_sem, x0, x1, x2]) rfl ⟨⟨a5, k5, by rw [HC.out, if_neg HN.out, H5.out], ?_⟩, ?_⟩
    · rw [HC.out, if_neg HN.out]
      refine LsOwn.low (B := W.heap.size) ?_ (by have := HWS.out; omega)
      rcases HLL.out with k | ⟨g, e, h1, h2⟩
      · exact Or.inl k
      · have hne : g ≠ w.heap.size + 1 := by have := HWS.out; omega
        refine Or.inr ⟨g, e, h1, ?_⟩
        have h3 := (h2.congr (f' := Nt.cells2 (Nt.rev n hf)) (fun j hj => absurd hj (by omega)))
        refine h3.block ?_
        refine ((nbel_alloc _ _).block g ?_).trans ((Below.heap_setCell _ ⟨w.heap.size + 1, 2, none⟩ _ _ hne).trans ((Below.heap_setCell _ ⟨w.heap.size + 1, 1, none⟩ _ _ hne).trans (Below.heap_setCell _ ⟨w.heap.size + 1, 0, none⟩ _ _ hne)))
        simpa using h2.lt
    · exact (((B1.out.setCell (p := ⟨w.heap.size + 1, 0, none⟩) (Nat.le_succ _) _).setCell (p := ⟨w.heap.size + 1, 1, none⟩) (Nat.le_succ _) _).setCell (p := ⟨w.heap.size + 1, 2, none⟩) (Nat.le_succ _) _).alloc (by simpa using B1.out.size) _
  case pos =>
  rw [if_pos hc] at hL ⊢
  have HC0 := Lib.hid hc
  have RF := Lib.hid (Nt.reFit hc)
  rw [hc]
  clear hc
  have hln := RF.out.f.r.ln
  obtain ⟨hnn, hn1, hn2⟩ := RF.out.f.r.nn
  have hwn : Hid (n.wn = Nt.nn n) := by have := RF.out.f.r.wn; show _ = _; omega
  have HNN := Lib.hid hnn
  clear hnn
  obtain ⟨W1, hW1⟩ : ∃ W1, W1 = w1.alloc (.cells #[.slice a5 n.ln k5, .int .i64 0, .int .i64 0] 31) := ⟨_, rfl⟩
  have B2 : Hid (Below w.heap.size w W1) := by rw [hW1]; exact B1.out.alloc B1.out.size _
  have R2 : Hid (W1.rowIs w.heap.size 27 4 (rowN (ntL n la lk fa fk wa wk))) := by rw [hW1]; exact nrow_below R1.out (nbel_alloc _ _)
  have O2 : Hid (W1.rowIs (w.heap.size + 1) 31 3 (rowN (noL none 0 0 0 0))) := by rw [hW1]; exact nrow_below O1.out (nbel_alloc _ _)
  have P5 : Hid (W1.rowIs w1.heap.size 31 3 (rowN (noL a5 n.ln k5 0 0))) := by rw [hW1]; exact rowN_alloc w1 _ _
  have F5 : Hid (IsAt a5 (n.ln * 2) (Nt.cells2 (Nt.flv n hf)) W1) := by rw [hW1]; exact (hL.below (nbel_alloc _ _)).at_
  have Z1 : Hid (W1.heap.size = w1.heap.size + 1) := by show _ = _; rw [hW1]; simp
  have S0 : Hid (SpR n la lk fa fk wa wk W1.heap.size (W1.heap.size + 1) 0 (fun _ => (0, 1)) 0 (.slice none 0 0) W1 w ((W1.alloc (.cells #[.int .i64 0] 59)).alloc (.cells #[.slice none 0 0, .int .i64 0, .int .i64 0] 31))) :=
    ⟨⟨nrow_below (nrow_below R2.out (nbel_alloc _ _)) (nbel_alloc _ _), nrow_below (nrow_below O2.out (nbel_alloc _ _)) (nbel_alloc _ _), (B2.out.alloc B2.out.size _).alloc (by have := B2.out.size; simp; omega) _, nrow_below (rowN_alloc _ _ _) (nbel_alloc _ _), rowN_alloc' (by simp) _ _, World.ownsRow_nil _ _ _ _, by have := O2.out.lt; omega⟩, ((Below.refl _ _).alloc (Nat.le_refl _) _).alloc (by simp) _⟩
  have HW1 := Lib.hid hW1
  clear hW1 hL B1 R1 O1
  go_wp2_with fail
  rw [← HW1.out]
  clear r0 r1 r2 r3 p0 p1 p2 z0 z1 z2 lw HW1
  rw [Z1.out] at S0
  generalize w1.heap.size = g5 at *
  obtain ⟨gc, hgc⟩ : ∃ gc, gc = g5 + 1 := ⟨_, rfl⟩
  have L5 : Hid (g5 < gc) := by show _ < _; omega
  rw [← hgc] at S0 Z1 ⊢
  clear hgc
  obtain ⟨go, hgo⟩ : ∃ go, go = gc + 1 := ⟨_, rfl⟩
  rw [← hgo] at S0 ⊢
  clear hgo
  have A0 : Hid (Nt.Acc n hf 0 (fun _ => (0, 1)) 0) := Or.inl ⟨rfl, fun j hj => absurd hj (Nat.not_lt_zero _)⟩
  go_loopw [8] (fun iv wr => ∃ (k : Nat), k ≤ Nt.nn n ∧ iv = .int .i64 k ∧ ∃ f z v, Hid (SpR n la lk fa fk wa wk gc go k f z v W1 w wr) ∧ Hid (Nt.Acc n hf k f z)) (fun iv _ => Nt.nn n - (intOf iv).toNat)
  case atStart => exact ⟨0, Nat.zero_le _, rfl, _, _, _, S0, A0⟩
  case round =>
  obtain ⟨k, hk2, rfl, f, z, v, hS, hA⟩ := hrel
  clear S0 A0
  obtain ⟨⟨r0, r1, r2, r3⟩, _⟩ := rowN4 hS.out.s.row
  rw [HNN.out] at r0
  by_cases hkt : k < Nt.nn n
  case neg =>
    obtain rfl : k = Nt.nn n := by omega
    obtain ⟨⟨p0, p1, p2⟩, z0, z1, z2⟩ := rowN3 hS.out.s.res
    obtain ⟨⟨q0, q1, q2⟩, _⟩ := rowN3 hS.out.ro
    have hnum := hS.out.s.num
    have zr : w.heap.size + 1 < wr.heap.size := hS.out.s.res.lt
    have zo : go < wr.heap.size := hS.out.ro.lt
    have zc : gc < wr.heap.size := hS.out.rc.lt
    have rc0 := hS.out.rc.cell (i := 0) (by omega)
    simp only [rowN, List.getD_cons_zero] at rc0
    rcases hA.out with ⟨hz, hall⟩ | ⟨hz, j, hj, hbad⟩
    · have HC := Lib.hid (Nt.reCode_0 HC0.out (fun k hk => by rw [hall k hk]; rfl))
      have S5 := Lib.hid (hS.out.congr (f' := Nt.rev n hf) (fun j hj => by unfold Nt.rev; rw [hall j hj]; rfl))
      rw [hz] at rc0
      clear hall hS hA hz
      obtain ⟨a, c, hv, hL⟩ := fr_own S5.out.own
      subst hv
      have HL := Lib.hid hL
      clear hL
      go_wp2_with fail
      obtain ⟨⟨x0, x1, x2⟩, _⟩ := rowN3 (rowN_put (rowN_put (rowN_put S5.out.s.res 0 (.slice a (Nt.nn n) c) (by simp)) 1 (.int .i64 0) (by simp)) 2 (.int .i64 0) (by simp))
      refine bodyPost_ret (v := noV a (Nt.nn n) c 0 0) (by simp [results, Tryz.results10, go_sem, x0, x1, x2]) rfl ⟨⟨a, c, by rw [HC.out, if_pos rfl], ?_⟩, ?_⟩
      · rw [HC.out, if_pos rfl]
        refine LsOwn.low (HL.out.same (fun k h1 h2 => ?_)) (by omega)
        have hne : k ≠ w.heap.size + 1 := by omega
        exact (Below.heap_setCell _ ⟨w.heap.size + 1, 2, none⟩ _ _ hne).trans ((Below.heap_setCell _ ⟨w.heap.size + 1, 1, none⟩ _ _ hne).trans (Below.heap_setCell _ ⟨w.heap.size + 1, 0, none⟩ _ _ hne))
      · exact ((S5.out.old.setCell (p := ⟨w.heap.size + 1, 0, none⟩) (Nat.le_succ _) _).setCell (p := ⟨w.heap.size + 1, 1, none⟩) (Nat.le_succ _) _).setCell (p := ⟨w.heap.size + 1, 2, none⟩) (Nat.le_succ _) _
    · rw [hz] at rc0
      have HC := Lib.hid (Nt.reCode_5 HC0.out hj hbad)
      clear hz hj hbad hA
      go_wp2_with fail
      obtain ⟨⟨x0, x1, x2⟩, _⟩ := rowN3 (rowN_put (rowN_put (rowN_put hS.out.s.res 0 (.slice none 0 0) (by simp)) 1 (.int .i64 0) (by simp)) 2 (.int .i64 5) (by simp))
      exact bodyPost_ret (v := noV none 0 0 0 5) (by simp [results, Tryz.results10, go_sem, x0, x1, x2]) rfl ⟨by rw [HC.out]; exact AnsF.bad (by decide), ((hS.out.old.setCell (p := ⟨w.heap.size + 1, 0, none⟩) (Nat.le_succ _) _).setCell (p := ⟨w.heap.size + 1, 1, none⟩) (Nat.le_succ _) _).setCell (p := ⟨w.heap.size + 1, 2, none⟩) (Nat.le_succ _) _⟩
  have hktz : (k : Int) < (Nt.nn n : Int) := by omega
  have SA : Hid (SpR n la lk fa fk wa wk gc go k f z v W1 w (wr.alloc (.cells #[.int .i64 0, .int .i64 1] 35))) := hS.out.below (nbel_alloc _ _)
  have RV : Hid ((wr.alloc (.cells #[.int .i64 0, .int .i64 1] 35)).rowIs wr.heap.size 35 2 (rowN [.int .i64 0, .int .i64 1])) := rowN_alloc wr _ _
  have LO : Hid (go < wr.heap.size ∧ ∀ q, v.ownBlock = some q → q < wr.heap.size) := ⟨hS.out.ro.lt, fun q hq => (hS.out.own.lt q hq).2⟩
  have NUM : Hid (gc < go ∧ go < wr.heap.size) := ⟨hS.out.s.num.2, hS.out.ro.lt⟩
  have AI := Lib.hid (Nt.accI_start hA.out)
  have zw0 : w.heap.size < wr.heap.size := hS.out.s.row.lt
  clear hS hA
  go_wp2_with fail
  clear r0 r1 r2 r3 zw0
  generalize wr.heap.size = gv at *
  go_loopw [10] (fun iv wr => ∃ (i : Nat), i ≤ n.ln ∧ iv = .int .i64 i ∧ ∃ z x, Hid (SpR n la lk fa fk wa wk gc go k f z v W1 w wr) ∧ Hid (wr.rowIs gv 35 2 (rowN [.int .i64 x.1, .int .i64 x.2])) ∧ Hid (Nt.AccI n hf k i f z x)) (fun iv _ => n.ln - (intOf iv).toNat)
  case atStart => exact ⟨0, Nat.zero_le _, rfl, z, (0, 1), SA, RV, AI⟩
  case round =>
  obtain ⟨i, hi, rfl, z, x, hS, hR, hA⟩ := hrel
  clear SA RV AI
  obtain ⟨⟨r0, r1, r2, r3⟩, _⟩ := rowN4 hS.out.s.row
  by_cases hlt : i < n.ln
  case pos =>
    have hltz : (i : Int) < (n.ln : Int) := by omega
    obtain ⟨b, e, c0, c1, c2⟩ := (HA.out.below hS.out.old).l.at3 hlt
    obtain ⟨ef, hfr⟩ := RF.out.f.r.fr hlt
    obtain ⟨et, htt⟩ := RF.out.f.r.tt hlt
    rw [ef] at c0
    rw [et] at c1
    subst e
    clear ef et
    obtain ⟨bF, eF, y0, y1⟩ := F5.out.at2 hlt
    rw [Nt.cells2_0] at y0
    rw [Nt.cells2_1] at y1
    have zF0 : bF < W1.heap.size := World.block_lt_of_cell? _ _ y0
    have zF : bF < gc := by have := Z1.out; omega
    have D := Lib.hid (And.intro y0 (And.intro y1 zF))
    have P5b := P5
    rw [eF] at P5b
    have RFL := Lib.hid (RF.out.fl hlt)
    clear y0 y1 zF zF0 eF
    by_cases et : Nt.tt n i = k
    case pos =>
      have etz : ((Nt.tt n i : Int) == (k : Int)) = true := by simp [et]
      have HT := Lib.hid et
      clear et
      go_wp2_with fail
      clear c0 c1 c2 r0 r1 r2 r3
      refine wp_region_held_drew (S := fun V => Below gc W1 V) (by kernel_rfl) hS.out.b.drew (fun hHeld => ?_)
      obtain ⟨Z, hZ⟩ : ∃ Z, Z = wr.drew := ⟨_, rfl⟩
      have SP : Hid (SpR n (some ⟨b, 0, none⟩) lk fa fk wa wk gc go k f z v W1 w Z) := by rw [hZ]; exact hS.out.below (Below.refl _ _).drew
      have RV : Hid (Z.rowIs gv 35 2 (rowN [.int .i64 x.1, .int .i64 x.2])) := by rw [hZ]; exact nrow_below hR.out (Below.refl _ _).drew
      rw [← hZ] at hHeld ⊢
      clear hZ hS hR
      refine take_do (i := 0) (v := (.pointer (some ⟨gc, 0, none⟩))) rfl (by kernel_rfl) (by kernel_rfl) (by kernel_rfl) (fun _ _ _ h => h) (by rfl) ?_ (by assumption) ?_
      · intro w hSw
        skip
        go_simp
      simp only [Act.put, List.setIfInBounds_toArray, List.set_cons_zero, List.set_cons_succ]
      refine take_do (i := 2) (v := (.pointer (some ⟨g5, 0, none⟩))) rfl (by kernel_rfl) (by kernel_rfl) (by kernel_rfl) (fun _ _ _ h => h) (by rfl) ?_ (by assumption) ?_
      · intro w hSw
        skip
        go_simp
      simp only [Act.put, List.setIfInBounds_toArray, List.set_cons_zero, List.set_cons_succ]
      refine take_do (i := 3) (v := (.slice (some ⟨bF, 0, none⟩) n.ln k5)) rfl (by kernel_rfl) (by kernel_rfl) (by kernel_rfl) (fun _ _ _ h => h) (by rfl) ?_ (by assumption) ?_
      · intro w hSw
        obtain ⟨⟨p0, p1, p2⟩, _⟩ := rowN3 (P5b.out.of_block (hSw.block _ L5.out))
        go_simp
      simp only [Act.put, List.setIfInBounds_toArray, List.set_cons_zero, List.set_cons_succ]
      refine take_do (i := 4) (v := (.int .i64 i)) rfl (by kernel_rfl) (by kernel_rfl) (by kernel_rfl) (fun _ _ _ h => h) (by rfl) ?_ (by assumption) ?_
      · intro w hSw
        skip
        go_simp
      simp only [Act.put, List.setIfInBounds_toArray, List.set_cons_zero, List.set_cons_succ]
      refine take_do (i := 5) (v := (.pointer (some ⟨bF, i * 2, none⟩))) rfl (by kernel_rfl) (by kernel_rfl) (by kernel_rfl) (fun _ _ _ h => h) (by rfl) ?_ (by assumption) ?_
      · intro w hSw
        skip
        go_simp
      simp only [Act.put, List.setIfInBounds_toArray, List.set_cons_zero, List.set_cons_succ]
      refine take_do (i := 6) (v := (frV (Nt.flv n hf i))) rfl (by kernel_rfl) (by kernel_rfl) (by kernel_rfl) (fun _ _ _ h => h) (by rfl) ?_ (by assumption) ?_
      · intro w hSw
        have y0 := (hSw.cell (p := ⟨bF, i * 2, none⟩) D.out.2.2).trans D.out.1; have y1 := (hSw.cell (p := ⟨bF, i * 2 + 1, none⟩) D.out.2.2).trans D.out.2.1
        go_simp
      simp only [Act.put, List.setIfInBounds_toArray, List.set_cons_zero, List.set_cons_succ]
      obtain ⟨⟨t0, t1⟩, _⟩ := rowN2 RV.out
      refine take_call (i := 1) rfl (by kernel_rfl) (fun K2 hK => ?_)
      go_simp
      refine hK.out _ _ hHeld (fun hHeld2 => ?_)
      clear hK hHeld t0 t1
      have hHeld := hHeld2
      clear hHeld2
      refine take_call (i := 7) rfl (by kernel_rfl) (fun K2 hK => ?_)
      go_simp
      refine (nspecAdd x (Nt.flv n hf i) _ hA.out.1 RFL.out).mono ?_
      rintro e Q1 ⟨rfl, hb⟩
      have SP1 := Lib.hid (SP.out.below hb)
      have RV1 := Lib.hid (nrow_below RV.out hb)
      go_wp2_with fail
      refine hK.out _ _ SP1.out.b (fun hHeld2 => ?_)
      clear hK hHeld hb SP RV
      have hHeld := hHeld2
      clear hHeld2
      refine take_call (i := 8) rfl (by kernel_rfl) (fun K2 hK => ?_)
      go_simp
      refine (take_any gc (Fq.add x (Nt.flv n hf i)) _ _ SP1.out.rc).mono ?_
      rintro e Q2 ⟨rfl, hr, ho⟩
      have SP2 := Lib.hid (SP1.out.take hr ho)
      have RV2 := Lib.hid (RV1.out.of_block (ho.block _ RV1.out.lt (by have h1 := NUM.out; omega)))
      go_wp2_with fail
      refine hK.out _ _ SP2.out.b (fun hHeld2 => ?_)
      clear hK hHeld hr ho SP1 RV1
      have hHeld := hHeld2
      clear hHeld2
      obtain ⟨⟨o0, o1⟩, z0, z1⟩ := rowN2 RV2.out
      have l0 := RV2.out.lt
      obtain ⟨WZ, hWZ⟩ : ∃ WZ, WZ = (Q2.setCell ⟨gv, 0, none⟩ (.int .i64 (Fq.tkv (Fq.add x (Nt.flv n hf i))).1)).setCell ⟨gv, 1, none⟩ (.int .i64 (Fq.tkv (Fq.add x (Nt.flv n hf i))).2) := ⟨_, rfl⟩
      have hbz : Below gv Q2 WZ := by rw [hWZ]; exact ((Below.refl _ _).setCell (p := ⟨gv, 0, none⟩) (Nat.le_refl _) _).setCell (p := ⟨gv, 1, none⟩) (Nat.le_refl _) _
      have SZ := Lib.hid (SP2.out.belowG hbz LO.out)
      have RZ : Hid (WZ.rowIs gv 35 2 (rowN [.int .i64 (Fq.tkv (Fq.add x (Nt.flv n hf i))).1, .int .i64 (Fq.tkv (Fq.add x (Nt.flv n hf i))).2])) := by show World.rowIs _ _ _ _ _; rw [hWZ]; exact rowN_put (rowN_put RV2.out 0 _ (by simp)) 1 _ (by simp)
      have HWZ := Lib.hid hWZ
      clear hWZ hbz
      refine take_call (i := 9) rfl (by kernel_rfl) (fun K2 hK => ?_)
      go_simp
      rw [← HWZ.out]
      refine hK.out _ _ SZ.out.b (fun hHeld2 => ?_)
      clear hK hHeld hHeld2 HWZ o0 o1 z0 z1 l0 SP2 RV2
      refine wpAnyH_done (by kernel_rfl) ?_ _
      go_wp2_with fail
      go_roundw
      case rel => exact ⟨i + 1, by omega, by go_num, _, _, SZ, RZ, Nt.accI_q hkt hlt hA.out (Fq.add_fit hA.out.1 RFL.out) (fun v hv e => by subst e; exact Nt.ra_tt hv HT.out)⟩
      case measure => simp [intOf]; omega
    case neg =>
      have etz : ((Nt.tt n i : Int) == (k : Int)) = false := by simp; omega
      have HT := Lib.hid et
      clear et
      by_cases ef : Nt.fr n i = k
      case pos =>
        have efz : ((Nt.fr n i : Int) == (k : Int)) = true := by simp [ef]
        have HFK := Lib.hid ef
        clear ef
        go_wp2_with fail
        clear c0 c1 c2 r0 r1 r2 r3
        refine wp_region_held_drew (S := fun V => Below gc W1 V) (by kernel_rfl) hS.out.b.drew (fun hHeld => ?_)
        obtain ⟨Z, hZ⟩ : ∃ Z, Z = wr.drew := ⟨_, rfl⟩
        have SP : Hid (SpR n (some ⟨b, 0, none⟩) lk fa fk wa wk gc go k f z v W1 w Z) := by rw [hZ]; exact hS.out.below (Below.refl _ _).drew
        have RV : Hid (Z.rowIs gv 35 2 (rowN [.int .i64 x.1, .int .i64 x.2])) := by rw [hZ]; exact nrow_below hR.out (Below.refl _ _).drew
        rw [← hZ] at hHeld ⊢
        clear hZ hS hR
        refine take_do (i := 0) (v := (.pointer (some ⟨gc, 0, none⟩))) rfl (by kernel_rfl) (by kernel_rfl) (by kernel_rfl) (fun _ _ _ h => h) (by rfl) ?_ (by assumption) ?_
        · intro w hSw
          skip
          go_simp
        simp only [Act.put, List.setIfInBounds_toArray, List.set_cons_zero, List.set_cons_succ]
        refine take_do (i := 2) (v := (.pointer (some ⟨g5, 0, none⟩))) rfl (by kernel_rfl) (by kernel_rfl) (by kernel_rfl) (fun _ _ _ h => h) (by rfl) ?_ (by assumption) ?_
        · intro w hSw
          skip
          go_simp
        simp only [Act.put, List.setIfInBounds_toArray, List.set_cons_zero, List.set_cons_succ]
        refine take_do (i := 3) (v := (.slice (some ⟨bF, 0, none⟩) n.ln k5)) rfl (by kernel_rfl) (by kernel_rfl) (by kernel_rfl) (fun _ _ _ h => h) (by rfl) ?_ (by assumption) ?_
        · intro w hSw
          obtain ⟨⟨p0, p1, p2⟩, _⟩ := rowN3 (P5b.out.of_block (hSw.block _ L5.out))
          go_simp
        simp only [Act.put, List.setIfInBounds_toArray, List.set_cons_zero, List.set_cons_succ]
        refine take_do (i := 4) (v := (.int .i64 i)) rfl (by kernel_rfl) (by kernel_rfl) (by kernel_rfl) (fun _ _ _ h => h) (by rfl) ?_ (by assumption) ?_
        · intro w hSw
          skip
          go_simp
        simp only [Act.put, List.setIfInBounds_toArray, List.set_cons_zero, List.set_cons_succ]
        refine take_do (i := 5) (v := (.pointer (some ⟨bF, i * 2, none⟩))) rfl (by kernel_rfl) (by kernel_rfl) (by kernel_rfl) (fun _ _ _ h => h) (by rfl) ?_ (by assumption) ?_
        · intro w hSw
          skip
          go_simp
        simp only [Act.put, List.setIfInBounds_toArray, List.set_cons_zero, List.set_cons_succ]
        refine take_do (i := 6) (v := (frV (Nt.flv n hf i))) rfl (by kernel_rfl) (by kernel_rfl) (by kernel_rfl) (fun _ _ _ h => h) (by rfl) ?_ (by assumption) ?_
        · intro w hSw
          have y0 := (hSw.cell (p := ⟨bF, i * 2, none⟩) D.out.2.2).trans D.out.1; have y1 := (hSw.cell (p := ⟨bF, i * 2 + 1, none⟩) D.out.2.2).trans D.out.2.1
          go_simp
        simp only [Act.put, List.setIfInBounds_toArray, List.set_cons_zero, List.set_cons_succ]
        obtain ⟨⟨t0, t1⟩, _⟩ := rowN2 RV.out
        refine take_call (i := 1) rfl (by kernel_rfl) (fun K2 hK => ?_)
        go_simp
        refine hK.out _ _ hHeld (fun hHeld2 => ?_)
        clear hK hHeld t0 t1
        have hHeld := hHeld2
        clear hHeld2
        refine take_call (i := 7) rfl (by kernel_rfl) (fun K2 hK => ?_)
        go_simp
        refine (nspecSub x (Nt.flv n hf i) _ hA.out.1 RFL.out).mono ?_
        rintro e Q1 ⟨rfl, hb⟩
        have SP1 := Lib.hid (SP.out.below hb)
        have RV1 := Lib.hid (nrow_below RV.out hb)
        go_wp2_with fail
        refine hK.out _ _ SP1.out.b (fun hHeld2 => ?_)
        clear hK hHeld hb SP RV
        have hHeld := hHeld2
        clear hHeld2
        refine take_call (i := 8) rfl (by kernel_rfl) (fun K2 hK => ?_)
        go_simp
        refine (take_any gc (Fq.sub x (Nt.flv n hf i)) _ _ SP1.out.rc).mono ?_
        rintro e Q2 ⟨rfl, hr, ho⟩
        have SP2 := Lib.hid (SP1.out.take hr ho)
        have RV2 := Lib.hid (RV1.out.of_block (ho.block _ RV1.out.lt (by have h1 := NUM.out; omega)))
        go_wp2_with fail
        refine hK.out _ _ SP2.out.b (fun hHeld2 => ?_)
        clear hK hHeld hr ho SP1 RV1
        have hHeld := hHeld2
        clear hHeld2
        obtain ⟨⟨o0, o1⟩, z0, z1⟩ := rowN2 RV2.out
        have l0 := RV2.out.lt
        obtain ⟨WZ, hWZ⟩ : ∃ WZ, WZ = (Q2.setCell ⟨gv, 0, none⟩ (.int .i64 (Fq.tkv (Fq.sub x (Nt.flv n hf i))).1)).setCell ⟨gv, 1, none⟩ (.int .i64 (Fq.tkv (Fq.sub x (Nt.flv n hf i))).2) := ⟨_, rfl⟩
        have hbz : Below gv Q2 WZ := by rw [hWZ]; exact ((Below.refl _ _).setCell (p := ⟨gv, 0, none⟩) (Nat.le_refl _) _).setCell (p := ⟨gv, 1, none⟩) (Nat.le_refl _) _
        have SZ := Lib.hid (SP2.out.belowG hbz LO.out)
        have RZ : Hid (WZ.rowIs gv 35 2 (rowN [.int .i64 (Fq.tkv (Fq.sub x (Nt.flv n hf i))).1, .int .i64 (Fq.tkv (Fq.sub x (Nt.flv n hf i))).2])) := by show World.rowIs _ _ _ _ _; rw [hWZ]; exact rowN_put (rowN_put RV2.out 0 _ (by simp)) 1 _ (by simp)
        have HWZ := Lib.hid hWZ
        clear hWZ hbz
        refine take_call (i := 9) rfl (by kernel_rfl) (fun K2 hK => ?_)
        go_simp
        rw [← HWZ.out]
        refine hK.out _ _ SZ.out.b (fun hHeld2 => ?_)
        clear hK hHeld hHeld2 HWZ o0 o1 z0 z1 l0 SP2 RV2
        refine wpAnyH_done (by kernel_rfl) ?_ _
        go_wp2_with fail
        go_roundw
        case rel => exact ⟨i + 1, by omega, by go_num, _, _, SZ, RZ, Nt.accI_q hkt hlt hA.out (Fq.sub_fit hA.out.1 RFL.out) (fun v hv e => by subst e; exact Nt.ra_fr hv HT.out HFK.out)⟩
        case measure => simp [intOf]; omega
      case neg =>
        have efz : ((Nt.fr n i : Int) == (k : Int)) = false := by simp; omega
        have HFK := Lib.hid ef
        clear ef
        go_wp2_with fail
        go_roundw
        case rel => exact ⟨i + 1, by omega, by go_num, z, x, hS, hR, Nt.accI_no hA.out HT.out HFK.out⟩
        case measure => simp [intOf]; omega
  obtain rfl : i = n.ln := by omega
  obtain ⟨b, e, c0⟩ := (HA.out.below B2.out).w.at1 (i := k) (by rw [hwn.out]; exact hkt)
  subst e
  have zW0 : b < W1.heap.size := World.block_lt_of_cell? _ _ c0
  have zW : b < gc := by have := Z1.out; omega
  have D := Lib.hid (And.intro c0 zW)
  have hwz : (k : Int) < (n.wn : Int) := by have := hwn.out; omega
  have zRW : Hid (w.heap.size < gc) := by have := hS.out.s.num; show _ < _; omega
  have AN := Lib.hid (Nt.acc_next hkt hA.out)
  have RX := Lib.hid hA.out.1
  have RW := Lib.hid (Nt.want_right RF.out.f.r hkt)
  have WB := Lib.hid (RF.out.f.r.w k (by rw [hwn.out]; exact hkt))
  have hk40 : k ≤ 12 := by omega
  obtain ⟨V0, hV0⟩ : ∃ V0, V0 = wr := ⟨_, rfl⟩
  have SP : Hid (SpR n la lk fa fk (some ⟨b, 0, none⟩) wk gc go k (Nt.updF f k (Fq.tkv (Fq.sub x (n.W k, 1)))) z v W1 w V0) := by rw [hV0]; exact hS.out.congr (fun j hj => (Nt.updF_ne (by omega)).symm)
  rw [← hV0] at hR
  clear hA c0 zW zW0 hS
  go_wp2_with fail
  rw [← hV0]
  clear hV0 r0 r1 r2 r3
  refine wp_region_held_drew (S := fun V => Below gc W1 V ∧ V.rowIs gv 35 2 (rowN [.int .i64 x.1, .int .i64 x.2])) (by kernel_rfl) ⟨SP.out.b.drew, nrow_below hR.out (Below.refl _ _).drew⟩ (fun hHeld => ?_)
  obtain ⟨Z, hZ⟩ : ∃ Z, Z = V0.drew := ⟨_, rfl⟩
  replace SP := Lib.hid (SP.out.below (Below.refl _ _).drew)
  rw [← hZ] at hHeld SP ⊢
  clear hZ
  refine take_do (i := 0) (v := (.pointer (some ⟨go, 0, none⟩))) rfl (by kernel_rfl) (by kernel_rfl) (by kernel_rfl) (fun _ _ _ h => h) (by rfl) ?_ (by assumption) ?_
  · intro w hSw
    skip
    go_simp
  simp only [Act.put, List.setIfInBounds_toArray, List.set_cons_zero, List.set_cons_succ]
  refine take_do (i := 2) (v := (.pointer (some ⟨gc, 0, none⟩))) rfl (by kernel_rfl) (by kernel_rfl) (by kernel_rfl) (fun _ _ _ h => h) (by rfl) ?_ (by assumption) ?_
  · intro w hSw
    skip
    go_simp
  simp only [Act.put, List.setIfInBounds_toArray, List.set_cons_zero, List.set_cons_succ]
  refine take_do (i := 3) (v := (frV x)) rfl (by kernel_rfl) (by kernel_rfl) (by kernel_rfl) (fun _ _ _ h => h) (by rfl) ?_ (by assumption) ?_
  · intro w hSw
    obtain ⟨⟨y0, y1⟩, _⟩ := rowN2 hSw.2
    go_simp
  simp only [Act.put, List.setIfInBounds_toArray, List.set_cons_zero, List.set_cons_succ]
  refine take_do (i := 4) (v := (.pointer (some ⟨gc, 0, none⟩))) rfl (by kernel_rfl) (by kernel_rfl) (by kernel_rfl) (fun _ _ _ h => h) (by rfl) ?_ (by assumption) ?_
  · intro w hSw
    skip
    go_simp
  simp only [Act.put, List.setIfInBounds_toArray, List.set_cons_zero, List.set_cons_succ]
  refine take_do (i := 5) (v := (.pointer (some ⟨w.heap.size, 3, none⟩))) rfl (by kernel_rfl) (by kernel_rfl) (by kernel_rfl) (fun _ _ _ h => h) (by rfl) ?_ (by assumption) ?_
  · intro w hSw
    skip
    go_simp
  simp only [Act.put, List.setIfInBounds_toArray, List.set_cons_zero, List.set_cons_succ]
  refine take_do (i := 6) (v := (.slice (some ⟨b, 0, none⟩) n.wn wk)) rfl (by kernel_rfl) (by kernel_rfl) (by kernel_rfl) (fun _ _ _ h => h) (by rfl) ?_ (by assumption) ?_
  · intro w hSw
    obtain ⟨⟨p0, p1, p2, p3⟩, _⟩ := rowN4 (R2.out.of_block (hSw.1.block _ zRW.out))
    go_simp
  simp only [Act.put, List.setIfInBounds_toArray, List.set_cons_zero, List.set_cons_succ]
  refine take_do (i := 7) (v := (.int .i64 k)) rfl (by kernel_rfl) (by kernel_rfl) (by kernel_rfl) (fun _ _ _ h => h) (by rfl) ?_ (by assumption) ?_
  · intro w hSw
    skip
    go_simp
  simp only [Act.put, List.setIfInBounds_toArray, List.set_cons_zero, List.set_cons_succ]
  refine take_do (i := 8) (v := (.pointer (some ⟨b, k, none⟩))) rfl (by kernel_rfl) (by kernel_rfl) (by kernel_rfl) (fun _ _ _ h => h) (by rfl) ?_ (by assumption) ?_
  · intro w hSw
    skip
    go_simp
  simp only [Act.put, List.setIfInBounds_toArray, List.set_cons_zero, List.set_cons_succ]
  refine take_do (i := 9) (v := (.int .i64 (n.W k))) rfl (by kernel_rfl) (by kernel_rfl) (by kernel_rfl) (fun _ _ _ h => h) (by rfl) ?_ (by assumption) ?_
  · intro w hSw
    have y0 := (hSw.1.cell (p := ⟨b, k, none⟩) D.out.2).trans D.out.1
    go_simp
  simp only [Act.put, List.setIfInBounds_toArray, List.set_cons_zero, List.set_cons_succ]
  refine wpAnyH_ready (rs := [1, 10]) (by kernel_rfl) (by simp) (AllReadyH.cons (at_drop (i := 1) rfl) (fun K2 hK => ?_) (AllReadyH.cons (at_drop (i := 10) rfl) (fun K2 hK => ?_) (AllReadyH.nil)))
  · have o0 := SP.out.ro.cell (i := 0) (by omega)
    simp only [rowN, List.getD_cons_zero] at o0
    go_simp
    refine hK.out _ _ hHeld (fun hHeld2 => ?_)
    clear hK hHeld
    have hHeld := hHeld2
    clear hHeld2
    clear o0
    refine take_call (i := 10) rfl (by kernel_rfl) (fun K2 hK => ?_)
    go_simp
    refine (specOf_any (n.W k) 1 _ (by have := WB.out; unfold Nt.wantOk at this; omega) (by have := WB.out; unfold Nt.wantOk at this; omega) (by omega) (by omega)).mono ?_
    rintro e Z2 ⟨rfl, hb⟩
    replace SP := Lib.hid (SP.out.below hb)
    have hq := And.intro SP.out.b (nrow_below hHeld.2 hb)
    go_wp2_with fail
    refine hK.out _ _ hq (fun hHeld2 => ?_)
    clear hK hHeld
    have hHeld := hHeld2
    clear hHeld2
    clear hb hq
    refine take_call (i := 11) rfl (by kernel_rfl) (fun K2 hK => ?_)
    go_simp
    refine (take_of gc _ _ _ (by have := WB.out; unfold Nt.wantOk at this; omega) (by have := WB.out; unfold Nt.wantOk at this; omega) SP.out.rc).mono ?_
    rintro e Z3 ⟨rfl, hr, ho⟩
    have hq := And.intro (SP.out.take hr ho).b (hHeld.2.of_block (ho.block _ hHeld.2.lt (by have h1 := NUM.out; omega)))
    replace SP := Lib.hid (SP.out.take hr ho)
    go_wp2_with fail
    refine hK.out _ _ hq (fun hHeld2 => ?_)
    clear hK hHeld
    have hHeld := hHeld2
    clear hHeld2
    clear hr ho hq
    refine take_call (i := 12) rfl (by kernel_rfl) (fun K2 hK => ?_)
    go_simp
    refine (nspecSub x (n.W k, 1) _ RX.out RW.out).mono ?_
    rintro e Z4 ⟨rfl, hb⟩
    replace SP := Lib.hid (SP.out.below hb)
    have hq := And.intro SP.out.b (nrow_below hHeld.2 hb)
    go_wp2_with fail
    refine hK.out _ _ hq (fun hHeld2 => ?_)
    clear hK hHeld
    have hHeld := hHeld2
    clear hHeld2
    clear hb hq
    refine take_call (i := 13) rfl (by kernel_rfl) (fun K2 hK => ?_)
    go_simp
    refine (take_any gc (Fq.sub x (n.W k, 1)) _ _ SP.out.rc).mono ?_
    rintro e Z5 ⟨rfl, hr, ho⟩
    have hq := And.intro (SP.out.take hr ho).b (hHeld.2.of_block (ho.block _ hHeld.2.lt (by have h1 := NUM.out; omega)))
    replace SP := Lib.hid (SP.out.take hr ho)
    go_wp2_with fail
    refine hK.out _ _ hq (fun hHeld2 => ?_)
    clear hK hHeld
    have hHeld := hHeld2
    clear hHeld2
    clear hr ho hq
    refine take_call (i := 14) rfl (by kernel_rfl) (fun K2 hK => ?_)
    obtain ⟨Z6, hZ6⟩ : ∃ Z6, Z6 = Z5.alloc (.cells #[.int .i64 (Fq.tkv (Fq.sub x (n.W k, 1))).1, .int .i64 (Fq.tkv (Fq.sub x (n.W k, 1))).2] 35) := ⟨_, rfl⟩
    have hb : Below Z5.heap.size Z5 Z6 := by rw [hZ6]; exact nbel_alloc _ _
    obtain ⟨gx, hgx⟩ : ∃ gx, gx = Z5.heap.size := ⟨_, rfl⟩
    have RX : Hid (Z6.rowIs gx 35 2 (rowN [.int .i64 (Fq.tkv (Fq.sub x (n.W k, 1))).1, .int .i64 (Fq.tkv (Fq.sub x (n.W k, 1))).2])) := by show World.rowIs _ _ _ _ _; rw [hZ6, hgx]; exact rowN_alloc _ _ _
    replace SP := Lib.hid (SP.out.below hb)
    have hq := And.intro SP.out.b (nrow_below hHeld.2 hb)
    go_simp
    rw [← hZ6, ← hgx]
    refine hK.out _ _ hq (fun hHeld2 => ?_)
    clear hK hHeld
    have hHeld := hHeld2
    clear hHeld2
    clear hb hq hZ6 hgx
    refine take_call (i := 15) rfl (by kernel_rfl) (fun K2 hK => ?_)
    obtain ⟨i1, hi1, hy0, hy1, hy2⟩ := info_parts ninfo_fr
    have HO0 := Lib.hid SP.out.own
    have hsz := SP.out.ro.lt
    refine step_append_lies _ rfl (.tmp 70) (.tmp 83) 29 rfl (go + 1) 35 i1 (.agg #[.int .i64 0, .int .i64 0]) 2 16 Tryz.underlying29 hi1 hy0 hy1 hy2 rfl (by decide) v k _ rfl HO0.out ⟨gx, 0, none⟩ 1 1 [.int .i64 (Fq.tkv (Fq.sub x (n.W k, 1))).1, .int .i64 (Fq.tkv (Fq.sub x (n.W k, 1))).2] rfl rfl ?_ ?_ (by omega) (by unfold maxLen; omega) (by omega) (by omega) _ rfl ?_
    · intro j u hj
      match j, hj with
      | 0, hj => (simp at hj; subst hj; have := RX.out.cell (i := 0) (by omega); simpa [Addr.add, rowN] using this)
      | 1, hj => (simp at hj; subst hj; have := RX.out.cell (i := 1) (by omega); simpa [Addr.add, rowN] using this)
    · intro u hu
      simp at hu
      rcases hu with rfl | rfl <;> rfl
    intro g cap Z7 hown hgrow hat hlt3
    have hown2 : Z7.ownsRow (go + 1) 35 2 (.slice (some ⟨g, 0, none⟩) (k + 1) cap) (k + 1) (frVs (Nt.updF f k (Fq.tkv (Fq.sub x (n.W k, 1)))) (k + 1)) := by rw [frVs_succ, Nt.updF_same]; exact hown
    have SQ : Hid (Z7.rowIs go 31 3 (rowN [v, .int .i64 0, .int .i64 0]) ∧ SpR n la lk fa fk (some ⟨b, 0, none⟩) wk gc go (k + 1) (Nt.updF f k (Fq.tkv (Fq.sub x (n.W k, 1)))) (Fq.tkz (Fq.sub x (n.W k, 1)) z) (.slice (some ⟨g, 0, none⟩) (k + 1) cap) W1 w (Z7.setCell ⟨go, 0, none⟩ (.slice (some ⟨g, 0, none⟩) (k + 1) cap))) := ⟨SP.out.ro.of_block (hgrow.block _ SP.out.ro.lt (fun e => by have := (SP.out.own.lt _ e.symm).1; omega)), SP.out.grow hown2 hgrow⟩
    have hq := And.intro (SP.out.b.grown hgrow (by have := SP.out.rc.lt; omega) (fun q e => by have h1 := (SP.out.own.lt q e).1; have h2 := NUM.out; omega)) (hHeld.2.of_block (hgrow.block _ hHeld.2.lt (fun e => by have h1 := LO.out.2 _ e.symm; omega)))
    refine hK.out _ _ hq (fun hHeld2 => ?_)
    clear hK hHeld
    have hHeld := hHeld2
    clear hHeld2
    clear hq hown hown2 hgrow hat hlt3 SP HO0 hsz RX
    simp only [Act.put, List.setIfInBounds_toArray, List.set_cons_zero, List.set_cons_succ]
    refine take_do (i := 16) (v := (.pointer (some ⟨go, 0, none⟩))) rfl (by kernel_rfl) (by kernel_rfl) (by kernel_rfl) (fun _ _ _ h => h) (by rfl) ?_ (by assumption) ?_
    · intro w hSw
      skip
      go_simp
    simp only [Act.put, List.setIfInBounds_toArray, List.set_cons_zero, List.set_cons_succ]
    have RO := SQ.out.1
    have o0 := RO.cell (i := 0) (by omega)
    have z0 := RO.frozen 0
    have l0 := RO.lt
    obtain ⟨WZ, hWZ⟩ : ∃ WZ, WZ = Z7.setCell ⟨go, 0, none⟩ (.slice (some ⟨g, 0, none⟩) (k + 1) cap) := ⟨_, rfl⟩
    have SZ : Hid (SpR n la lk fa fk (some ⟨b, 0, none⟩) wk gc go (k + 1) (Nt.updF f k (Fq.tkv (Fq.sub x (n.W k, 1)))) (Fq.tkz (Fq.sub x (n.W k, 1)) z) (.slice (some ⟨g, 0, none⟩) (k + 1) cap) W1 w WZ) := by rw [hWZ]; exact SQ.out.2
    have hq : (fun V => Below gc W1 V ∧ V.rowIs gv 35 2 (rowN [.int .i64 x.1, .int .i64 x.2])) WZ := by rw [hWZ]; exact And.intro (hHeld.1.setCell (p := ⟨go, 0, none⟩) (by have h1 := NUM.out; show gc ≤ go; omega) _) (nrow_set hHeld.2 (p := ⟨go, 0, none⟩) (by have h1 := NUM.out; show gv ≠ go; omega) _)
    have HWZ := Lib.hid hWZ
    clear hWZ RO
    refine take_call (i := 17) rfl (by kernel_rfl) (fun K2 hK => ?_)
    go_simp
    rw [← HWZ.out]
    refine hK.out _ _ hq (fun hHeld2 => ?_)
    clear hK hHeld hHeld2 HWZ o0 z0 l0 SQ hq
    refine wpAnyH_done (by kernel_rfl) ?_ _
    go_wp2_with fail
    go_roundw
    case rel => exact ⟨k + 1, by omega, by go_num, _, _, _, SZ, AN⟩
    case measure => simp [intOf]; omega
  · go_simp
    refine (specOf_any (n.W k) 1 _ (by have := WB.out; unfold Nt.wantOk at this; omega) (by have := WB.out; unfold Nt.wantOk at this; omega) (by omega) (by omega)).mono ?_
    rintro e Z8 ⟨rfl, hb⟩
    replace SP := Lib.hid (SP.out.below hb)
    have hq := And.intro SP.out.b (nrow_below hHeld.2 hb)
    go_wp2_with fail
    refine hK.out _ _ hq (fun hHeld2 => ?_)
    clear hK hHeld
    have hHeld := hHeld2
    clear hHeld2
    clear hb hq
    refine wpAnyH_ready (rs := [1, 11]) (by kernel_rfl) (by simp) (AllReadyH.cons (at_drop (i := 1) rfl) (fun K2 hK => ?_) (AllReadyH.cons (at_drop (i := 11) rfl) (fun K2 hK => ?_) (AllReadyH.nil)))
    · have o0 := SP.out.ro.cell (i := 0) (by omega)
      simp only [rowN, List.getD_cons_zero] at o0
      go_simp
      refine hK.out _ _ hHeld (fun hHeld2 => ?_)
      clear hK hHeld
      have hHeld := hHeld2
      clear hHeld2
      clear o0
      refine take_call (i := 11) rfl (by kernel_rfl) (fun K2 hK => ?_)
      go_simp
      refine (take_of gc _ _ _ (by have := WB.out; unfold Nt.wantOk at this; omega) (by have := WB.out; unfold Nt.wantOk at this; omega) SP.out.rc).mono ?_
      rintro e Z10 ⟨rfl, hr, ho⟩
      have hq := And.intro (SP.out.take hr ho).b (hHeld.2.of_block (ho.block _ hHeld.2.lt (by have h1 := NUM.out; omega)))
      replace SP := Lib.hid (SP.out.take hr ho)
      go_wp2_with fail
      refine hK.out _ _ hq (fun hHeld2 => ?_)
      clear hK hHeld
      have hHeld := hHeld2
      clear hHeld2
      clear hr ho hq
      refine take_call (i := 12) rfl (by kernel_rfl) (fun K2 hK => ?_)
      go_simp
      refine (nspecSub x (n.W k, 1) _ RX.out RW.out).mono ?_
      rintro e Z11 ⟨rfl, hb⟩
      replace SP := Lib.hid (SP.out.below hb)
      have hq := And.intro SP.out.b (nrow_below hHeld.2 hb)
      go_wp2_with fail
      refine hK.out _ _ hq (fun hHeld2 => ?_)
      clear hK hHeld
      have hHeld := hHeld2
      clear hHeld2
      clear hb hq
      refine take_call (i := 13) rfl (by kernel_rfl) (fun K2 hK => ?_)
      go_simp
      refine (take_any gc (Fq.sub x (n.W k, 1)) _ _ SP.out.rc).mono ?_
      rintro e Z12 ⟨rfl, hr, ho⟩
      have hq := And.intro (SP.out.take hr ho).b (hHeld.2.of_block (ho.block _ hHeld.2.lt (by have h1 := NUM.out; omega)))
      replace SP := Lib.hid (SP.out.take hr ho)
      go_wp2_with fail
      refine hK.out _ _ hq (fun hHeld2 => ?_)
      clear hK hHeld
      have hHeld := hHeld2
      clear hHeld2
      clear hr ho hq
      refine take_call (i := 14) rfl (by kernel_rfl) (fun K2 hK => ?_)
      obtain ⟨Z13, hZ13⟩ : ∃ Z13, Z13 = Z12.alloc (.cells #[.int .i64 (Fq.tkv (Fq.sub x (n.W k, 1))).1, .int .i64 (Fq.tkv (Fq.sub x (n.W k, 1))).2] 35) := ⟨_, rfl⟩
      have hb : Below Z12.heap.size Z12 Z13 := by rw [hZ13]; exact nbel_alloc _ _
      obtain ⟨gx, hgx⟩ : ∃ gx, gx = Z12.heap.size := ⟨_, rfl⟩
      have RX : Hid (Z13.rowIs gx 35 2 (rowN [.int .i64 (Fq.tkv (Fq.sub x (n.W k, 1))).1, .int .i64 (Fq.tkv (Fq.sub x (n.W k, 1))).2])) := by show World.rowIs _ _ _ _ _; rw [hZ13, hgx]; exact rowN_alloc _ _ _
      replace SP := Lib.hid (SP.out.below hb)
      have hq := And.intro SP.out.b (nrow_below hHeld.2 hb)
      go_simp
      rw [← hZ13, ← hgx]
      refine hK.out _ _ hq (fun hHeld2 => ?_)
      clear hK hHeld
      have hHeld := hHeld2
      clear hHeld2
      clear hb hq hZ13 hgx
      refine take_call (i := 15) rfl (by kernel_rfl) (fun K2 hK => ?_)
      obtain ⟨i1, hi1, hy0, hy1, hy2⟩ := info_parts ninfo_fr
      have HO0 := Lib.hid SP.out.own
      have hsz := SP.out.ro.lt
      refine step_append_lies _ rfl (.tmp 70) (.tmp 83) 29 rfl (go + 1) 35 i1 (.agg #[.int .i64 0, .int .i64 0]) 2 16 Tryz.underlying29 hi1 hy0 hy1 hy2 rfl (by decide) v k _ rfl HO0.out ⟨gx, 0, none⟩ 1 1 [.int .i64 (Fq.tkv (Fq.sub x (n.W k, 1))).1, .int .i64 (Fq.tkv (Fq.sub x (n.W k, 1))).2] rfl rfl ?_ ?_ (by omega) (by unfold maxLen; omega) (by omega) (by omega) _ rfl ?_
      · intro j u hj
        match j, hj with
        | 0, hj => (simp at hj; subst hj; have := RX.out.cell (i := 0) (by omega); simpa [Addr.add, rowN] using this)
        | 1, hj => (simp at hj; subst hj; have := RX.out.cell (i := 1) (by omega); simpa [Addr.add, rowN] using this)
      · intro u hu
        simp at hu
        rcases hu with rfl | rfl <;> rfl
      intro g cap Z14 hown hgrow hat hlt3
      have hown2 : Z14.ownsRow (go + 1) 35 2 (.slice (some ⟨g, 0, none⟩) (k + 1) cap) (k + 1) (frVs (Nt.updF f k (Fq.tkv (Fq.sub x (n.W k, 1)))) (k + 1)) := by rw [frVs_succ, Nt.updF_same]; exact hown
      have SQ : Hid (Z14.rowIs go 31 3 (rowN [v, .int .i64 0, .int .i64 0]) ∧ SpR n la lk fa fk (some ⟨b, 0, none⟩) wk gc go (k + 1) (Nt.updF f k (Fq.tkv (Fq.sub x (n.W k, 1)))) (Fq.tkz (Fq.sub x (n.W k, 1)) z) (.slice (some ⟨g, 0, none⟩) (k + 1) cap) W1 w (Z14.setCell ⟨go, 0, none⟩ (.slice (some ⟨g, 0, none⟩) (k + 1) cap))) := ⟨SP.out.ro.of_block (hgrow.block _ SP.out.ro.lt (fun e => by have := (SP.out.own.lt _ e.symm).1; omega)), SP.out.grow hown2 hgrow⟩
      have hq := And.intro (SP.out.b.grown hgrow (by have := SP.out.rc.lt; omega) (fun q e => by have h1 := (SP.out.own.lt q e).1; have h2 := NUM.out; omega)) (hHeld.2.of_block (hgrow.block _ hHeld.2.lt (fun e => by have h1 := LO.out.2 _ e.symm; omega)))
      refine hK.out _ _ hq (fun hHeld2 => ?_)
      clear hK hHeld
      have hHeld := hHeld2
      clear hHeld2
      clear hq hown hown2 hgrow hat hlt3 SP HO0 hsz RX
      simp only [Act.put, List.setIfInBounds_toArray, List.set_cons_zero, List.set_cons_succ]
      refine take_do (i := 16) (v := (.pointer (some ⟨go, 0, none⟩))) rfl (by kernel_rfl) (by kernel_rfl) (by kernel_rfl) (fun _ _ _ h => h) (by rfl) ?_ (by assumption) ?_
      · intro w hSw
        skip
        go_simp
      simp only [Act.put, List.setIfInBounds_toArray, List.set_cons_zero, List.set_cons_succ]
      have RO := SQ.out.1
      have o0 := RO.cell (i := 0) (by omega)
      have z0 := RO.frozen 0
      have l0 := RO.lt
      obtain ⟨WZ, hWZ⟩ : ∃ WZ, WZ = Z14.setCell ⟨go, 0, none⟩ (.slice (some ⟨g, 0, none⟩) (k + 1) cap) := ⟨_, rfl⟩
      have SZ : Hid (SpR n la lk fa fk (some ⟨b, 0, none⟩) wk gc go (k + 1) (Nt.updF f k (Fq.tkv (Fq.sub x (n.W k, 1)))) (Fq.tkz (Fq.sub x (n.W k, 1)) z) (.slice (some ⟨g, 0, none⟩) (k + 1) cap) W1 w WZ) := by rw [hWZ]; exact SQ.out.2
      have hq : (fun V => Below gc W1 V ∧ V.rowIs gv 35 2 (rowN [.int .i64 x.1, .int .i64 x.2])) WZ := by rw [hWZ]; exact And.intro (hHeld.1.setCell (p := ⟨go, 0, none⟩) (by have h1 := NUM.out; show gc ≤ go; omega) _) (nrow_set hHeld.2 (p := ⟨go, 0, none⟩) (by have h1 := NUM.out; show gv ≠ go; omega) _)
      have HWZ := Lib.hid hWZ
      clear hWZ RO
      refine take_call (i := 17) rfl (by kernel_rfl) (fun K2 hK => ?_)
      go_simp
      rw [← HWZ.out]
      refine hK.out _ _ hq (fun hHeld2 => ?_)
      clear hK hHeld hHeld2 HWZ o0 z0 l0 SQ hq
      refine wpAnyH_done (by kernel_rfl) ?_ _
      go_wp2_with fail
      go_roundw
      case rel => exact ⟨k + 1, by omega, by go_num, _, _, _, SZ, AN⟩
      case measure => simp [intOf]; omega
    · go_simp
      refine (take_of gc _ _ _ (by have := WB.out; unfold Nt.wantOk at this; omega) (by have := WB.out; unfold Nt.wantOk at this; omega) SP.out.rc).mono ?_
      rintro e Z15 ⟨rfl, hr, ho⟩
      have hq := And.intro (SP.out.take hr ho).b (hHeld.2.of_block (ho.block _ hHeld.2.lt (by have h1 := NUM.out; omega)))
      replace SP := Lib.hid (SP.out.take hr ho)
      go_wp2_with fail
      refine hK.out _ _ hq (fun hHeld2 => ?_)
      clear hK hHeld
      have hHeld := hHeld2
      clear hHeld2
      clear hr ho hq
      refine wpAnyH_ready (rs := [1, 12]) (by kernel_rfl) (by simp) (AllReadyH.cons (at_drop (i := 1) rfl) (fun K2 hK => ?_) (AllReadyH.cons (at_drop (i := 12) rfl) (fun K2 hK => ?_) (AllReadyH.nil)))
      · have o0 := SP.out.ro.cell (i := 0) (by omega)
        simp only [rowN, List.getD_cons_zero] at o0
        go_simp
        refine hK.out _ _ hHeld (fun hHeld2 => ?_)
        clear hK hHeld
        have hHeld := hHeld2
        clear hHeld2
        clear o0
        refine take_call (i := 12) rfl (by kernel_rfl) (fun K2 hK => ?_)
        go_simp
        refine (nspecSub x (n.W k, 1) _ RX.out RW.out).mono ?_
        rintro e Z17 ⟨rfl, hb⟩
        replace SP := Lib.hid (SP.out.below hb)
        have hq := And.intro SP.out.b (nrow_below hHeld.2 hb)
        go_wp2_with fail
        refine hK.out _ _ hq (fun hHeld2 => ?_)
        clear hK hHeld
        have hHeld := hHeld2
        clear hHeld2
        clear hb hq
        refine take_call (i := 13) rfl (by kernel_rfl) (fun K2 hK => ?_)
        go_simp
        refine (take_any gc (Fq.sub x (n.W k, 1)) _ _ SP.out.rc).mono ?_
        rintro e Z18 ⟨rfl, hr, ho⟩
        have hq := And.intro (SP.out.take hr ho).b (hHeld.2.of_block (ho.block _ hHeld.2.lt (by have h1 := NUM.out; omega)))
        replace SP := Lib.hid (SP.out.take hr ho)
        go_wp2_with fail
        refine hK.out _ _ hq (fun hHeld2 => ?_)
        clear hK hHeld
        have hHeld := hHeld2
        clear hHeld2
        clear hr ho hq
        refine take_call (i := 14) rfl (by kernel_rfl) (fun K2 hK => ?_)
        obtain ⟨Z19, hZ19⟩ : ∃ Z19, Z19 = Z18.alloc (.cells #[.int .i64 (Fq.tkv (Fq.sub x (n.W k, 1))).1, .int .i64 (Fq.tkv (Fq.sub x (n.W k, 1))).2] 35) := ⟨_, rfl⟩
        have hb : Below Z18.heap.size Z18 Z19 := by rw [hZ19]; exact nbel_alloc _ _
        obtain ⟨gx, hgx⟩ : ∃ gx, gx = Z18.heap.size := ⟨_, rfl⟩
        have RX : Hid (Z19.rowIs gx 35 2 (rowN [.int .i64 (Fq.tkv (Fq.sub x (n.W k, 1))).1, .int .i64 (Fq.tkv (Fq.sub x (n.W k, 1))).2])) := by show World.rowIs _ _ _ _ _; rw [hZ19, hgx]; exact rowN_alloc _ _ _
        replace SP := Lib.hid (SP.out.below hb)
        have hq := And.intro SP.out.b (nrow_below hHeld.2 hb)
        go_simp
        rw [← hZ19, ← hgx]
        refine hK.out _ _ hq (fun hHeld2 => ?_)
        clear hK hHeld
        have hHeld := hHeld2
        clear hHeld2
        clear hb hq hZ19 hgx
        refine take_call (i := 15) rfl (by kernel_rfl) (fun K2 hK => ?_)
        obtain ⟨i1, hi1, hy0, hy1, hy2⟩ := info_parts ninfo_fr
        have HO0 := Lib.hid SP.out.own
        have hsz := SP.out.ro.lt
        refine step_append_lies _ rfl (.tmp 70) (.tmp 83) 29 rfl (go + 1) 35 i1 (.agg #[.int .i64 0, .int .i64 0]) 2 16 Tryz.underlying29 hi1 hy0 hy1 hy2 rfl (by decide) v k _ rfl HO0.out ⟨gx, 0, none⟩ 1 1 [.int .i64 (Fq.tkv (Fq.sub x (n.W k, 1))).1, .int .i64 (Fq.tkv (Fq.sub x (n.W k, 1))).2] rfl rfl ?_ ?_ (by omega) (by unfold maxLen; omega) (by omega) (by omega) _ rfl ?_
        · intro j u hj
          match j, hj with
          | 0, hj => (simp at hj; subst hj; have := RX.out.cell (i := 0) (by omega); simpa [Addr.add, rowN] using this)
          | 1, hj => (simp at hj; subst hj; have := RX.out.cell (i := 1) (by omega); simpa [Addr.add, rowN] using this)
        · intro u hu
          simp at hu
          rcases hu with rfl | rfl <;> rfl
        intro g cap Z20 hown hgrow hat hlt3
        have hown2 : Z20.ownsRow (go + 1) 35 2 (.slice (some ⟨g, 0, none⟩) (k + 1) cap) (k + 1) (frVs (Nt.updF f k (Fq.tkv (Fq.sub x (n.W k, 1)))) (k + 1)) := by rw [frVs_succ, Nt.updF_same]; exact hown
        have SQ : Hid (Z20.rowIs go 31 3 (rowN [v, .int .i64 0, .int .i64 0]) ∧ SpR n la lk fa fk (some ⟨b, 0, none⟩) wk gc go (k + 1) (Nt.updF f k (Fq.tkv (Fq.sub x (n.W k, 1)))) (Fq.tkz (Fq.sub x (n.W k, 1)) z) (.slice (some ⟨g, 0, none⟩) (k + 1) cap) W1 w (Z20.setCell ⟨go, 0, none⟩ (.slice (some ⟨g, 0, none⟩) (k + 1) cap))) := ⟨SP.out.ro.of_block (hgrow.block _ SP.out.ro.lt (fun e => by have := (SP.out.own.lt _ e.symm).1; omega)), SP.out.grow hown2 hgrow⟩
        have hq := And.intro (SP.out.b.grown hgrow (by have := SP.out.rc.lt; omega) (fun q e => by have h1 := (SP.out.own.lt q e).1; have h2 := NUM.out; omega)) (hHeld.2.of_block (hgrow.block _ hHeld.2.lt (fun e => by have h1 := LO.out.2 _ e.symm; omega)))
        refine hK.out _ _ hq (fun hHeld2 => ?_)
        clear hK hHeld
        have hHeld := hHeld2
        clear hHeld2
        clear hq hown hown2 hgrow hat hlt3 SP HO0 hsz RX
        simp only [Act.put, List.setIfInBounds_toArray, List.set_cons_zero, List.set_cons_succ]
        refine take_do (i := 16) (v := (.pointer (some ⟨go, 0, none⟩))) rfl (by kernel_rfl) (by kernel_rfl) (by kernel_rfl) (fun _ _ _ h => h) (by rfl) ?_ (by assumption) ?_
        · intro w hSw
          skip
          go_simp
        simp only [Act.put, List.setIfInBounds_toArray, List.set_cons_zero, List.set_cons_succ]
        have RO := SQ.out.1
        have o0 := RO.cell (i := 0) (by omega)
        have z0 := RO.frozen 0
        have l0 := RO.lt
        obtain ⟨WZ, hWZ⟩ : ∃ WZ, WZ = Z20.setCell ⟨go, 0, none⟩ (.slice (some ⟨g, 0, none⟩) (k + 1) cap) := ⟨_, rfl⟩
        have SZ : Hid (SpR n la lk fa fk (some ⟨b, 0, none⟩) wk gc go (k + 1) (Nt.updF f k (Fq.tkv (Fq.sub x (n.W k, 1)))) (Fq.tkz (Fq.sub x (n.W k, 1)) z) (.slice (some ⟨g, 0, none⟩) (k + 1) cap) W1 w WZ) := by rw [hWZ]; exact SQ.out.2
        have hq : (fun V => Below gc W1 V ∧ V.rowIs gv 35 2 (rowN [.int .i64 x.1, .int .i64 x.2])) WZ := by rw [hWZ]; exact And.intro (hHeld.1.setCell (p := ⟨go, 0, none⟩) (by have h1 := NUM.out; show gc ≤ go; omega) _) (nrow_set hHeld.2 (p := ⟨go, 0, none⟩) (by have h1 := NUM.out; show gv ≠ go; omega) _)
        have HWZ := Lib.hid hWZ
        clear hWZ RO
        refine take_call (i := 17) rfl (by kernel_rfl) (fun K2 hK => ?_)
        go_simp
        rw [← HWZ.out]
        refine hK.out _ _ hq (fun hHeld2 => ?_)
        clear hK hHeld hHeld2 HWZ o0 z0 l0 SQ hq
        refine wpAnyH_done (by kernel_rfl) ?_ _
        go_wp2_with fail
        go_roundw
        case rel => exact ⟨k + 1, by omega, by go_num, _, _, _, SZ, AN⟩
        case measure => simp [intOf]; omega
      · go_simp
        refine (nspecSub x (n.W k, 1) _ RX.out RW.out).mono ?_
        rintro e Z21 ⟨rfl, hb⟩
        replace SP := Lib.hid (SP.out.below hb)
        have hq := And.intro SP.out.b (nrow_below hHeld.2 hb)
        go_wp2_with fail
        refine hK.out _ _ hq (fun hHeld2 => ?_)
        clear hK hHeld
        have hHeld := hHeld2
        clear hHeld2
        clear hb hq
        refine wpAnyH_ready (rs := [1, 13]) (by kernel_rfl) (by simp) (AllReadyH.cons (at_drop (i := 1) rfl) (fun K2 hK => ?_) (AllReadyH.cons (at_drop (i := 13) rfl) (fun K2 hK => ?_) (AllReadyH.nil)))
        · have o0 := SP.out.ro.cell (i := 0) (by omega)
          simp only [rowN, List.getD_cons_zero] at o0
          go_simp
          refine hK.out _ _ hHeld (fun hHeld2 => ?_)
          clear hK hHeld
          have hHeld := hHeld2
          clear hHeld2
          clear o0
          refine take_call (i := 13) rfl (by kernel_rfl) (fun K2 hK => ?_)
          go_simp
          refine (take_any gc (Fq.sub x (n.W k, 1)) _ _ SP.out.rc).mono ?_
          rintro e Z23 ⟨rfl, hr, ho⟩
          have hq := And.intro (SP.out.take hr ho).b (hHeld.2.of_block (ho.block _ hHeld.2.lt (by have h1 := NUM.out; omega)))
          replace SP := Lib.hid (SP.out.take hr ho)
          go_wp2_with fail
          refine hK.out _ _ hq (fun hHeld2 => ?_)
          clear hK hHeld
          have hHeld := hHeld2
          clear hHeld2
          clear hr ho hq
          refine take_call (i := 14) rfl (by kernel_rfl) (fun K2 hK => ?_)
          obtain ⟨Z24, hZ24⟩ : ∃ Z24, Z24 = Z23.alloc (.cells #[.int .i64 (Fq.tkv (Fq.sub x (n.W k, 1))).1, .int .i64 (Fq.tkv (Fq.sub x (n.W k, 1))).2] 35) := ⟨_, rfl⟩
          have hb : Below Z23.heap.size Z23 Z24 := by rw [hZ24]; exact nbel_alloc _ _
          obtain ⟨gx, hgx⟩ : ∃ gx, gx = Z23.heap.size := ⟨_, rfl⟩
          have RX : Hid (Z24.rowIs gx 35 2 (rowN [.int .i64 (Fq.tkv (Fq.sub x (n.W k, 1))).1, .int .i64 (Fq.tkv (Fq.sub x (n.W k, 1))).2])) := by show World.rowIs _ _ _ _ _; rw [hZ24, hgx]; exact rowN_alloc _ _ _
          replace SP := Lib.hid (SP.out.below hb)
          have hq := And.intro SP.out.b (nrow_below hHeld.2 hb)
          go_simp
          rw [← hZ24, ← hgx]
          refine hK.out _ _ hq (fun hHeld2 => ?_)
          clear hK hHeld
          have hHeld := hHeld2
          clear hHeld2
          clear hb hq hZ24 hgx
          refine take_call (i := 15) rfl (by kernel_rfl) (fun K2 hK => ?_)
          obtain ⟨i1, hi1, hy0, hy1, hy2⟩ := info_parts ninfo_fr
          have HO0 := Lib.hid SP.out.own
          have hsz := SP.out.ro.lt
          refine step_append_lies _ rfl (.tmp 70) (.tmp 83) 29 rfl (go + 1) 35 i1 (.agg #[.int .i64 0, .int .i64 0]) 2 16 Tryz.underlying29 hi1 hy0 hy1 hy2 rfl (by decide) v k _ rfl HO0.out ⟨gx, 0, none⟩ 1 1 [.int .i64 (Fq.tkv (Fq.sub x (n.W k, 1))).1, .int .i64 (Fq.tkv (Fq.sub x (n.W k, 1))).2] rfl rfl ?_ ?_ (by omega) (by unfold maxLen; omega) (by omega) (by omega) _ rfl ?_
          · intro j u hj
            match j, hj with
            | 0, hj => (simp at hj; subst hj; have := RX.out.cell (i := 0) (by omega); simpa [Addr.add, rowN] using this)
            | 1, hj => (simp at hj; subst hj; have := RX.out.cell (i := 1) (by omega); simpa [Addr.add, rowN] using this)
          · intro u hu
            simp at hu
            rcases hu with rfl | rfl <;> rfl
          intro g cap Z25 hown hgrow hat hlt3
          have hown2 : Z25.ownsRow (go + 1) 35 2 (.slice (some ⟨g, 0, none⟩) (k + 1) cap) (k + 1) (frVs (Nt.updF f k (Fq.tkv (Fq.sub x (n.W k, 1)))) (k + 1)) := by rw [frVs_succ, Nt.updF_same]; exact hown
          have SQ : Hid (Z25.rowIs go 31 3 (rowN [v, .int .i64 0, .int .i64 0]) ∧ SpR n la lk fa fk (some ⟨b, 0, none⟩) wk gc go (k + 1) (Nt.updF f k (Fq.tkv (Fq.sub x (n.W k, 1)))) (Fq.tkz (Fq.sub x (n.W k, 1)) z) (.slice (some ⟨g, 0, none⟩) (k + 1) cap) W1 w (Z25.setCell ⟨go, 0, none⟩ (.slice (some ⟨g, 0, none⟩) (k + 1) cap))) := ⟨SP.out.ro.of_block (hgrow.block _ SP.out.ro.lt (fun e => by have := (SP.out.own.lt _ e.symm).1; omega)), SP.out.grow hown2 hgrow⟩
          have hq := And.intro (SP.out.b.grown hgrow (by have := SP.out.rc.lt; omega) (fun q e => by have h1 := (SP.out.own.lt q e).1; have h2 := NUM.out; omega)) (hHeld.2.of_block (hgrow.block _ hHeld.2.lt (fun e => by have h1 := LO.out.2 _ e.symm; omega)))
          refine hK.out _ _ hq (fun hHeld2 => ?_)
          clear hK hHeld
          have hHeld := hHeld2
          clear hHeld2
          clear hq hown hown2 hgrow hat hlt3 SP HO0 hsz RX
          simp only [Act.put, List.setIfInBounds_toArray, List.set_cons_zero, List.set_cons_succ]
          refine take_do (i := 16) (v := (.pointer (some ⟨go, 0, none⟩))) rfl (by kernel_rfl) (by kernel_rfl) (by kernel_rfl) (fun _ _ _ h => h) (by rfl) ?_ (by assumption) ?_
          · intro w hSw
            skip
            go_simp
          simp only [Act.put, List.setIfInBounds_toArray, List.set_cons_zero, List.set_cons_succ]
          have RO := SQ.out.1
          have o0 := RO.cell (i := 0) (by omega)
          have z0 := RO.frozen 0
          have l0 := RO.lt
          obtain ⟨WZ, hWZ⟩ : ∃ WZ, WZ = Z25.setCell ⟨go, 0, none⟩ (.slice (some ⟨g, 0, none⟩) (k + 1) cap) := ⟨_, rfl⟩
          have SZ : Hid (SpR n la lk fa fk (some ⟨b, 0, none⟩) wk gc go (k + 1) (Nt.updF f k (Fq.tkv (Fq.sub x (n.W k, 1)))) (Fq.tkz (Fq.sub x (n.W k, 1)) z) (.slice (some ⟨g, 0, none⟩) (k + 1) cap) W1 w WZ) := by rw [hWZ]; exact SQ.out.2
          have hq : (fun V => Below gc W1 V ∧ V.rowIs gv 35 2 (rowN [.int .i64 x.1, .int .i64 x.2])) WZ := by rw [hWZ]; exact And.intro (hHeld.1.setCell (p := ⟨go, 0, none⟩) (by have h1 := NUM.out; show gc ≤ go; omega) _) (nrow_set hHeld.2 (p := ⟨go, 0, none⟩) (by have h1 := NUM.out; show gv ≠ go; omega) _)
          have HWZ := Lib.hid hWZ
          clear hWZ RO
          refine take_call (i := 17) rfl (by kernel_rfl) (fun K2 hK => ?_)
          go_simp
          rw [← HWZ.out]
          refine hK.out _ _ hq (fun hHeld2 => ?_)
          clear hK hHeld hHeld2 HWZ o0 z0 l0 SQ hq
          refine wpAnyH_done (by kernel_rfl) ?_ _
          go_wp2_with fail
          go_roundw
          case rel => exact ⟨k + 1, by omega, by go_num, _, _, _, SZ, AN⟩
          case measure => simp [intOf]; omega
        · go_simp
          refine (take_any gc (Fq.sub x (n.W k, 1)) _ _ SP.out.rc).mono ?_
          rintro e Z26 ⟨rfl, hr, ho⟩
          have hq := And.intro (SP.out.take hr ho).b (hHeld.2.of_block (ho.block _ hHeld.2.lt (by have h1 := NUM.out; omega)))
          replace SP := Lib.hid (SP.out.take hr ho)
          go_wp2_with fail
          refine hK.out _ _ hq (fun hHeld2 => ?_)
          clear hK hHeld
          have hHeld := hHeld2
          clear hHeld2
          clear hr ho hq
          refine wpAnyH_ready (rs := [1, 14]) (by kernel_rfl) (by simp) (AllReadyH.cons (at_drop (i := 1) rfl) (fun K2 hK => ?_) (AllReadyH.cons (at_drop (i := 14) rfl) (fun K2 hK => ?_) (AllReadyH.nil)))
          · have o0 := SP.out.ro.cell (i := 0) (by omega)
            simp only [rowN, List.getD_cons_zero] at o0
            go_simp
            refine hK.out _ _ hHeld (fun hHeld2 => ?_)
            clear hK hHeld
            have hHeld := hHeld2
            clear hHeld2
            clear o0
            refine take_call (i := 14) rfl (by kernel_rfl) (fun K2 hK => ?_)
            obtain ⟨Z28, hZ28⟩ : ∃ Z28, Z28 = Z26.alloc (.cells #[.int .i64 (Fq.tkv (Fq.sub x (n.W k, 1))).1, .int .i64 (Fq.tkv (Fq.sub x (n.W k, 1))).2] 35) := ⟨_, rfl⟩
            have hb : Below Z26.heap.size Z26 Z28 := by rw [hZ28]; exact nbel_alloc _ _
            obtain ⟨gx, hgx⟩ : ∃ gx, gx = Z26.heap.size := ⟨_, rfl⟩
            have RX : Hid (Z28.rowIs gx 35 2 (rowN [.int .i64 (Fq.tkv (Fq.sub x (n.W k, 1))).1, .int .i64 (Fq.tkv (Fq.sub x (n.W k, 1))).2])) := by show World.rowIs _ _ _ _ _; rw [hZ28, hgx]; exact rowN_alloc _ _ _
            replace SP := Lib.hid (SP.out.below hb)
            have hq := And.intro SP.out.b (nrow_below hHeld.2 hb)
            go_simp
            rw [← hZ28, ← hgx]
            refine hK.out _ _ hq (fun hHeld2 => ?_)
            clear hK hHeld
            have hHeld := hHeld2
            clear hHeld2
            clear hb hq hZ28 hgx
            refine take_call (i := 15) rfl (by kernel_rfl) (fun K2 hK => ?_)
            obtain ⟨i1, hi1, hy0, hy1, hy2⟩ := info_parts ninfo_fr
            have HO0 := Lib.hid SP.out.own
            have hsz := SP.out.ro.lt
            refine step_append_lies _ rfl (.tmp 70) (.tmp 83) 29 rfl (go + 1) 35 i1 (.agg #[.int .i64 0, .int .i64 0]) 2 16 Tryz.underlying29 hi1 hy0 hy1 hy2 rfl (by decide) v k _ rfl HO0.out ⟨gx, 0, none⟩ 1 1 [.int .i64 (Fq.tkv (Fq.sub x (n.W k, 1))).1, .int .i64 (Fq.tkv (Fq.sub x (n.W k, 1))).2] rfl rfl ?_ ?_ (by omega) (by unfold maxLen; omega) (by omega) (by omega) _ rfl ?_
            · intro j u hj
              match j, hj with
              | 0, hj => (simp at hj; subst hj; have := RX.out.cell (i := 0) (by omega); simpa [Addr.add, rowN] using this)
              | 1, hj => (simp at hj; subst hj; have := RX.out.cell (i := 1) (by omega); simpa [Addr.add, rowN] using this)
            · intro u hu
              simp at hu
              rcases hu with rfl | rfl <;> rfl
            intro g cap Z29 hown hgrow hat hlt3
            have hown2 : Z29.ownsRow (go + 1) 35 2 (.slice (some ⟨g, 0, none⟩) (k + 1) cap) (k + 1) (frVs (Nt.updF f k (Fq.tkv (Fq.sub x (n.W k, 1)))) (k + 1)) := by rw [frVs_succ, Nt.updF_same]; exact hown
            have SQ : Hid (Z29.rowIs go 31 3 (rowN [v, .int .i64 0, .int .i64 0]) ∧ SpR n la lk fa fk (some ⟨b, 0, none⟩) wk gc go (k + 1) (Nt.updF f k (Fq.tkv (Fq.sub x (n.W k, 1)))) (Fq.tkz (Fq.sub x (n.W k, 1)) z) (.slice (some ⟨g, 0, none⟩) (k + 1) cap) W1 w (Z29.setCell ⟨go, 0, none⟩ (.slice (some ⟨g, 0, none⟩) (k + 1) cap))) := ⟨SP.out.ro.of_block (hgrow.block _ SP.out.ro.lt (fun e => by have := (SP.out.own.lt _ e.symm).1; omega)), SP.out.grow hown2 hgrow⟩
            have hq := And.intro (SP.out.b.grown hgrow (by have := SP.out.rc.lt; omega) (fun q e => by have h1 := (SP.out.own.lt q e).1; have h2 := NUM.out; omega)) (hHeld.2.of_block (hgrow.block _ hHeld.2.lt (fun e => by have h1 := LO.out.2 _ e.symm; omega)))
            refine hK.out _ _ hq (fun hHeld2 => ?_)
            clear hK hHeld
            have hHeld := hHeld2
            clear hHeld2
            clear hq hown hown2 hgrow hat hlt3 SP HO0 hsz RX
            simp only [Act.put, List.setIfInBounds_toArray, List.set_cons_zero, List.set_cons_succ]
            refine take_do (i := 16) (v := (.pointer (some ⟨go, 0, none⟩))) rfl (by kernel_rfl) (by kernel_rfl) (by kernel_rfl) (fun _ _ _ h => h) (by rfl) ?_ (by assumption) ?_
            · intro w hSw
              skip
              go_simp
            simp only [Act.put, List.setIfInBounds_toArray, List.set_cons_zero, List.set_cons_succ]
            have RO := SQ.out.1
            have o0 := RO.cell (i := 0) (by omega)
            have z0 := RO.frozen 0
            have l0 := RO.lt
            obtain ⟨WZ, hWZ⟩ : ∃ WZ, WZ = Z29.setCell ⟨go, 0, none⟩ (.slice (some ⟨g, 0, none⟩) (k + 1) cap) := ⟨_, rfl⟩
            have SZ : Hid (SpR n la lk fa fk (some ⟨b, 0, none⟩) wk gc go (k + 1) (Nt.updF f k (Fq.tkv (Fq.sub x (n.W k, 1)))) (Fq.tkz (Fq.sub x (n.W k, 1)) z) (.slice (some ⟨g, 0, none⟩) (k + 1) cap) W1 w WZ) := by rw [hWZ]; exact SQ.out.2
            have hq : (fun V => Below gc W1 V ∧ V.rowIs gv 35 2 (rowN [.int .i64 x.1, .int .i64 x.2])) WZ := by rw [hWZ]; exact And.intro (hHeld.1.setCell (p := ⟨go, 0, none⟩) (by have h1 := NUM.out; show gc ≤ go; omega) _) (nrow_set hHeld.2 (p := ⟨go, 0, none⟩) (by have h1 := NUM.out; show gv ≠ go; omega) _)
            have HWZ := Lib.hid hWZ
            clear hWZ RO
            refine take_call (i := 17) rfl (by kernel_rfl) (fun K2 hK => ?_)
            go_simp
            rw [← HWZ.out]
            refine hK.out _ _ hq (fun hHeld2 => ?_)
            clear hK hHeld hHeld2 HWZ o0 z0 l0 SQ hq
            refine wpAnyH_done (by kernel_rfl) ?_ _
            go_wp2_with fail
            go_roundw
            case rel => exact ⟨k + 1, by omega, by go_num, _, _, _, SZ, AN⟩
            case measure => simp [intOf]; omega
          · obtain ⟨Z30, hZ30⟩ : ∃ Z30, Z30 = Z26.alloc (.cells #[.int .i64 (Fq.tkv (Fq.sub x (n.W k, 1))).1, .int .i64 (Fq.tkv (Fq.sub x (n.W k, 1))).2] 35) := ⟨_, rfl⟩
            have hb : Below Z26.heap.size Z26 Z30 := by rw [hZ30]; exact nbel_alloc _ _
            obtain ⟨gx, hgx⟩ : ∃ gx, gx = Z26.heap.size := ⟨_, rfl⟩
            have RX : Hid (Z30.rowIs gx 35 2 (rowN [.int .i64 (Fq.tkv (Fq.sub x (n.W k, 1))).1, .int .i64 (Fq.tkv (Fq.sub x (n.W k, 1))).2])) := by show World.rowIs _ _ _ _ _; rw [hZ30, hgx]; exact rowN_alloc _ _ _
            replace SP := Lib.hid (SP.out.below hb)
            have hq := And.intro SP.out.b (nrow_below hHeld.2 hb)
            go_simp
            rw [← hZ30, ← hgx]
            refine hK.out _ _ hq (fun hHeld2 => ?_)
            clear hK hHeld
            have hHeld := hHeld2
            clear hHeld2
            clear hb hq hZ30 hgx
            refine take_call (i := 1) rfl (by kernel_rfl) (fun K2 hK => ?_)
            have o0 := SP.out.ro.cell (i := 0) (by omega)
            simp only [rowN, List.getD_cons_zero] at o0
            go_simp
            refine hK.out _ _ hHeld (fun hHeld2 => ?_)
            clear hK hHeld
            have hHeld := hHeld2
            clear hHeld2
            clear o0
            refine take_call (i := 15) rfl (by kernel_rfl) (fun K2 hK => ?_)
            obtain ⟨i1, hi1, hy0, hy1, hy2⟩ := info_parts ninfo_fr
            have HO0 := Lib.hid SP.out.own
            have hsz := SP.out.ro.lt
            refine step_append_lies _ rfl (.tmp 70) (.tmp 83) 29 rfl (go + 1) 35 i1 (.agg #[.int .i64 0, .int .i64 0]) 2 16 Tryz.underlying29 hi1 hy0 hy1 hy2 rfl (by decide) v k _ rfl HO0.out ⟨gx, 0, none⟩ 1 1 [.int .i64 (Fq.tkv (Fq.sub x (n.W k, 1))).1, .int .i64 (Fq.tkv (Fq.sub x (n.W k, 1))).2] rfl rfl ?_ ?_ (by omega) (by unfold maxLen; omega) (by omega) (by omega) _ rfl ?_
            · intro j u hj
              match j, hj with
              | 0, hj => (simp at hj; subst hj; have := RX.out.cell (i := 0) (by omega); simpa [Addr.add, rowN] using this)
              | 1, hj => (simp at hj; subst hj; have := RX.out.cell (i := 1) (by omega); simpa [Addr.add, rowN] using this)
            · intro u hu
              simp at hu
              rcases hu with rfl | rfl <;> rfl
            intro g cap Z32 hown hgrow hat hlt3
            have hown2 : Z32.ownsRow (go + 1) 35 2 (.slice (some ⟨g, 0, none⟩) (k + 1) cap) (k + 1) (frVs (Nt.updF f k (Fq.tkv (Fq.sub x (n.W k, 1)))) (k + 1)) := by rw [frVs_succ, Nt.updF_same]; exact hown
            have SQ : Hid (Z32.rowIs go 31 3 (rowN [v, .int .i64 0, .int .i64 0]) ∧ SpR n la lk fa fk (some ⟨b, 0, none⟩) wk gc go (k + 1) (Nt.updF f k (Fq.tkv (Fq.sub x (n.W k, 1)))) (Fq.tkz (Fq.sub x (n.W k, 1)) z) (.slice (some ⟨g, 0, none⟩) (k + 1) cap) W1 w (Z32.setCell ⟨go, 0, none⟩ (.slice (some ⟨g, 0, none⟩) (k + 1) cap))) := ⟨SP.out.ro.of_block (hgrow.block _ SP.out.ro.lt (fun e => by have := (SP.out.own.lt _ e.symm).1; omega)), SP.out.grow hown2 hgrow⟩
            have hq := And.intro (SP.out.b.grown hgrow (by have := SP.out.rc.lt; omega) (fun q e => by have h1 := (SP.out.own.lt q e).1; have h2 := NUM.out; omega)) (hHeld.2.of_block (hgrow.block _ hHeld.2.lt (fun e => by have h1 := LO.out.2 _ e.symm; omega)))
            refine hK.out _ _ hq (fun hHeld2 => ?_)
            clear hK hHeld
            have hHeld := hHeld2
            clear hHeld2
            clear hq hown hown2 hgrow hat hlt3 SP HO0 hsz RX
            simp only [Act.put, List.setIfInBounds_toArray, List.set_cons_zero, List.set_cons_succ]
            refine take_do (i := 16) (v := (.pointer (some ⟨go, 0, none⟩))) rfl (by kernel_rfl) (by kernel_rfl) (by kernel_rfl) (fun _ _ _ h => h) (by rfl) ?_ (by assumption) ?_
            · intro w hSw
              skip
              go_simp
            simp only [Act.put, List.setIfInBounds_toArray, List.set_cons_zero, List.set_cons_succ]
            have RO := SQ.out.1
            have o0 := RO.cell (i := 0) (by omega)
            have z0 := RO.frozen 0
            have l0 := RO.lt
            obtain ⟨WZ, hWZ⟩ : ∃ WZ, WZ = Z32.setCell ⟨go, 0, none⟩ (.slice (some ⟨g, 0, none⟩) (k + 1) cap) := ⟨_, rfl⟩
            have SZ : Hid (SpR n la lk fa fk (some ⟨b, 0, none⟩) wk gc go (k + 1) (Nt.updF f k (Fq.tkv (Fq.sub x (n.W k, 1)))) (Fq.tkz (Fq.sub x (n.W k, 1)) z) (.slice (some ⟨g, 0, none⟩) (k + 1) cap) W1 w WZ) := by rw [hWZ]; exact SQ.out.2
            have hq : (fun V => Below gc W1 V ∧ V.rowIs gv 35 2 (rowN [.int .i64 x.1, .int .i64 x.2])) WZ := by rw [hWZ]; exact And.intro (hHeld.1.setCell (p := ⟨go, 0, none⟩) (by have h1 := NUM.out; show gc ≤ go; omega) _) (nrow_set hHeld.2 (p := ⟨go, 0, none⟩) (by have h1 := NUM.out; show gv ≠ go; omega) _)
            have HWZ := Lib.hid hWZ
            clear hWZ RO
            refine take_call (i := 17) rfl (by kernel_rfl) (fun K2 hK => ?_)
            go_simp
            rw [← HWZ.out]
            refine hK.out _ _ hq (fun hHeld2 => ?_)
            clear hK hHeld hHeld2 HWZ o0 z0 l0 SQ hq
            refine wpAnyH_done (by kernel_rfl) ?_ _
            go_wp2_with fail
            go_roundw
            case rel => exact ⟨k + 1, by omega, by go_num, _, _, _, SZ, AN⟩
            case measure => simp [intOf]; omega
end Go.Proofs.YtkaokfmaecdkiaaGreatDoor
namespace Go.Proofs.YtkaokfmaecdkiaaGreatDoor
open Go.RowKit Go.Deep

set_option maxRecDepth 100000 in
set_option maxHeartbeats 4000000 in
theorem rest1_any (n : Nt.Net) (la : Option Addr) (lk : Nat) (fa : Option Addr) (fk : Nat) (wa : Option Addr) (wk : Nat) (ha : Option Addr) (hn hk : Nat) (hf : Nat → Int) (gn gh : Nat) (w : World) (h : NtAt n la fa wa w) (hs : NtSmall n) (hh : IsAt ha (hn * 2) hf w) (hb0 : NBd hf) (hm : hn ≤ 1048576) (hg : NEt w) (r1 : w.rowIs gn 27 4 (rowN (ntL n la lk fa fk wa wk))) (r2 : w.rowIs gh 29 1 (rowN [.slice ha hn hk])) :
    Calls Tryz.prog 35 #[.pointer (some ⟨gn, 0, none⟩), .pointer (some ⟨gh, 0, none⟩)] w fun e w' => Reck w.heap.size (Nt.reCode n hn hf) (Nt.nn n) (Nt.cells2 (Nt.rev n hf)) e w' ∧ Below w.heap.size w w' := by
  obtain ⟨⟨c0, c1, c2, c3⟩, _⟩ := rowN4 r1
  have d0 := r2.cell (i := 0) (by omega)
  simp only [rowN, List.getD_cons_zero] at d0
  have HX := Lib.hid (netRest_any n la lk fa fk wa wk ha hn hk hf w h hs hh hb0 hm hg)
  clear r1 r2 h hs hh hb0 hm hg
  go_enter Tryz.func35, Tryz.ntmps35
  go_wp2_with fail
  refine HX.out.mono ?_
  rintro e w1 ⟨hR, hb⟩
  rcases hR with ⟨hc, g, k, rfl, hg, hk⟩ | ⟨hc, s, rfl⟩
  · have HR : Hid (Reck w.heap.size (Nt.reCode n hn hf) (Nt.nn n) (Nt.cells2 (Nt.rev n hf)) (.returned (.slice (some ⟨g, 0, none⟩) (Nt.nn n) k)) w1) := Or.inl ⟨hc, g, k, rfl, hg, hk⟩
    have HB := Lib.hid hb
    clear hc hk hg hb
    go_wp2_with fail
    go_ret
    exact ⟨HR.out, HB.out⟩
  · have HR : Hid (Reck w.heap.size (Nt.reCode n hn hf) (Nt.nn n) (Nt.cells2 (Nt.rev n hf)) (thrown s (Nt.reCode n hn hf)) w1) := Or.inr ⟨hc, s, rfl⟩
    have HB := Lib.hid hb
    clear hc hb
    go_wp2_with fail
    exact ⟨rfl, HR.out, HB.out⟩
set_option maxRecDepth 100000 in
set_option maxHeartbeats 4000000 in
theorem implNetRest_any (n : Nt.Net) (la : Option Addr) (lk : Nat) (fa : Option Addr) (fk : Nat) (wa : Option Addr) (wk : Nat) (ha : Option Addr) (hn hk : Nat) (hf : Nat → Int) (w : World) (h : NtAt n la fa wa w) (hs : NtSmall n) (hh : IsAt ha (hn * 2) hf w) (hb0 : NBd hf) (hm : hn ≤ 1048576) (hg : NEt w) :
    Calls Tryz.prog 11 #[ntV n la lk fa fk wa wk, .slice ha hn hk] w fun e w' => AnsF w.heap.size (Nt.reCode n hn hf) (Nt.nn n) (Nt.cells2 (Nt.rev n hf)) e w' ∧ Below w.heap.size w w' := by
  have hmf : ∀ (fn : Fn) (first cap : Array Value) (w : World), (Instr.makeFunc fn first cap).run Tryz.prog w = .ok (.func fn first cap) w := fun _ _ _ _ => rfl
  obtain ⟨W, hW⟩ : ∃ W, W = ((w.alloc (.cells #[.int .i64 n.nodes, .slice la n.ln lk, .slice fa n.fn fk, .slice wa n.wn wk] 27)).alloc (.cells #[.slice ha hn hk] 29)).alloc (.cells #[.slice none 0 0, .int .i64 0, .int .i64 0] 31) := ⟨_, rfl⟩
  have B0 : Below w.heap.size w W := by rw [hW]; exact (((Below.refl _ _).alloc (Nat.le_refl _) _).alloc (by simp) _).alloc (by simp; omega) _
  have R1 : W.rowIs w.heap.size 27 4 (rowN (ntL n la lk fa fk wa wk)) := by rw [hW]; exact nrow_below (nrow_below (rowN_alloc w _ _) (nbel_alloc _ _)) (nbel_alloc _ _)
  have R2 : W.rowIs (w.heap.size + 1) 29 1 (rowN [.slice ha hn hk]) := by rw [hW]; exact nrow_below (rowN_alloc' (by simp) _ _) (nbel_alloc _ _)
  have R3 : Hid (W.rowIs (w.heap.size + 1 + 1) 31 3 (rowN (noL none 0 0 0 0))) := by rw [hW]; exact rowN_alloc' (by simp) _ _
  have HCT := Lib.hid (catchNetRest_any #[.pointer (some ⟨w.heap.size, 0, none⟩), .pointer (some ⟨w.heap.size + 1, 0, none⟩)] (Nt.reCode n hn hf) (Nt.nn n) (Nt.cells2 (Nt.rev n hf)) W (hg.below B0) (fun V hV => rest1_any n la lk fa fk wa wk ha hn hk hf _ _ V ((h.below B0).below hV) hs ((hh.below B0).below hV) hb0 hm ((hg.below B0).below hV) (nrow_below R1 hV) (nrow_below R2 hV)))
  have HB0 := Lib.hid B0
  have HW := Lib.hid hW
  have hWs : W.heap.size = w.heap.size + 3 := by rw [hW]; simp
  have HWS := Lib.hid hWs
  clear hW h hs hh hb0 hm hg B0 R1 R2 hWs
  go_enter Tryz.func11, Tryz.ntmps11
  go_wp2_with fail
  rw [← HW.out]
  refine HCT.out.mono ?_
  rintro e w1 ⟨hT, hb⟩
  have B1 : Hid (Below w.heap.size w w1) := HB0.out.trans (hb.mono HB0.out.size)
  have R4 := Lib.hid (nrow_below R3.out hb)
  clear hb HCT
  obtain ⟨⟨o0, o1, o2⟩, z0, z1, z2⟩ := rowN3 R4.out
  have l0 := R4.out.lt
  rcases hT with ⟨hc, g, k, rfl, hg, hk⟩ | ⟨hc, rfl⟩
  · have hne : g ≠ w.heap.size + 1 + 1 := by have := HWS.out; omega
    have HNE := Lib.hid hne
    have HK := Lib.hid hk
    have HC := Lib.hid hc
    have HG := Lib.hid hg
    clear hne hk hc hg
    go_wp2_with fail
    obtain ⟨⟨x0, x1, x2⟩, _⟩ := rowN3 (rowN_put (rowN_put (rowN_put R4.out 0 (.slice (some ⟨g, 0, none⟩) (Nt.nn n) k) (by simp)) 1 (.int .i64 0) (by simp)) 2 (.int .i64 0) (by simp))
    refine bodyPost_ret (v := noV (some ⟨g, 0, none⟩) (Nt.nn n) k 0 0) (by simp [results, Tryz.results11, go_sem, x0, x1, x2]) rfl ⟨⟨_, k, by rw [HC.out, if_pos rfl], ?_⟩, ?_⟩
    · rw [HC.out, if_pos rfl]
      refine Or.inr ⟨g, rfl, Nat.le_trans HB0.out.size HG.out, HK.out.block ?_⟩
      exact (Below.heap_setCell _ ⟨w.heap.size + 1 + 1, 2, none⟩ _ _ HNE.out).trans ((Below.heap_setCell _ ⟨w.heap.size + 1 + 1, 1, none⟩ _ _ HNE.out).trans (Below.heap_setCell _ ⟨w.heap.size + 1 + 1, 0, none⟩ _ _ HNE.out))
    · exact ((B1.out.setCell (p := ⟨w.heap.size + 1 + 1, 0, none⟩) (by show w.heap.size ≤ w.heap.size + 1 + 1; omega) _).setCell (p := ⟨w.heap.size + 1 + 1, 1, none⟩) (by show w.heap.size ≤ w.heap.size + 1 + 1; omega) _).setCell (p := ⟨w.heap.size + 1 + 1, 2, none⟩) (by show w.heap.size ≤ w.heap.size + 1 + 1; omega) _
  · have HC := Lib.hid hc
    clear hc
    go_wp2_with fail
    obtain ⟨⟨x0, x1, x2⟩, _⟩ := rowN3 (rowN_put (rowN_put (rowN_put R4.out 0 (.slice none 0 0) (by simp)) 1 (.int .i64 0) (by simp)) 2 (.int .i64 (Nt.reCode n hn hf)) (by simp))
    exact bodyPost_ret (v := noV none 0 0 0 (Nt.reCode n hn hf)) (by simp [results, Tryz.results11, go_sem, x0, x1, x2]) rfl ⟨AnsF.bad HC.out, ((B1.out.setCell (p := ⟨w.heap.size + 1 + 1, 0, none⟩) (by show w.heap.size ≤ w.heap.size + 1 + 1; omega) _).setCell (p := ⟨w.heap.size + 1 + 1, 1, none⟩) (by show w.heap.size ≤ w.heap.size + 1 + 1; omega) _).setCell (p := ⟨w.heap.size + 1 + 1, 2, none⟩) (by show w.heap.size ≤ w.heap.size + 1 + 1; omega) _⟩
end Go.Proofs.YtkaokfmaecdkiaaGreatDoor
