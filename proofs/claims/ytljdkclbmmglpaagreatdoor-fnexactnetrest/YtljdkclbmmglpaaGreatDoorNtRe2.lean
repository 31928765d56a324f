/-
  What the program tells to be left at the nodes of a net.
-/
import Derived.Test.YtljdkclbmmglpaaGreatDoorNtFl2
import Derived.Test.YtljdkclbmmglpaaGreatDoorNtReM
namespace Go.Proofs.YtljdkclbmmglpaaGreatDoor
open Go.RowKit Go.Deep

/-- What stands from link to link, from node to node. -/
structure ReS (n : Nt.Net) (la : Option Addr) (lk : Nat) (fa : Option Addr) (fk : Nat) (wa : Option Addr) (wk gF g : Nat) (f r : Nat → Int × Int) (w W : World) : Prop where
  row : W.rowIs w.heap.size 27 4 (rowN (ntL n la lk fa fk wa wk))
  old : Below w.heap.size w W
  fl : IsBlk 35 gF (n.ln * 2) (Nt.cells2 f) W
  re : IsBlk 35 g (Nt.nn n * 2) (Nt.cells2 r) W
  lo : w.heap.size < gF ∧ gF < g
section
variable {n : Nt.Net} {la : Option Addr} {lk : Nat} {fa : Option Addr} {fk : Nat} {wa : Option Addr} {wk gF g : Nat} {f r : Nat → Int × Int} {w W W' : World}
theorem ReS.below (h : ReS n la lk fa fk wa wk gF g f r w W) (hb : Below W.heap.size W W') : ReS n la lk fa fk wa wk gF g f r w W' :=
  ⟨nrow_below h.row hb, h.old.trans (hb.mono h.old.size), h.fl.below hb, h.re.below hb, h.lo⟩
theorem ReS.set (h : ReS n la lk fa fk wa wk gF g f r w W) (a : Nat) (x : Int × Int) : ReS n la lk fa fk wa wk gF g f (Nt.updF r a x) w ((W.setCell ⟨g, a * 2, none⟩ (.int .i64 x.1)).setCell ⟨g, a * 2 + 1, none⟩ (.int .i64 x.2)) :=
  have lo := h.lo
  have same : ∀ k, k ≠ g → ((W.setCell ⟨g, a * 2, none⟩ (.int .i64 x.1)).setCell ⟨g, a * 2 + 1, none⟩ (.int .i64 x.2)).heap[k]? = W.heap[k]? := fun k hk => (Below.heap_setCell _ ⟨g, a * 2 + 1, none⟩ _ _ hk).trans (Below.heap_setCell _ ⟨g, a * 2, none⟩ _ _ hk)
  ⟨h.row.of_block (same _ (by omega)), (h.old.setCell (p := ⟨g, a * 2, none⟩) (by show w.heap.size ≤ g; omega) _).setCell (p := ⟨g, a * 2 + 1, none⟩) (by show w.heap.size ≤ g; omega) _, h.fl.block (same _ (by omega)), h.re.set2 a x, h.lo⟩
end
/-- What a step reads that it does not write: the link and the flows. -/
def RdS (n : Nt.Net) (gF gl : Nat) (L : List Value) (f : Nat → Int × Int) (V : World) : Prop := IsBlk 35 gF (n.ln * 2) (Nt.cells2 f) V ∧ V.rowIs gl 74 3 (rowN L)
theorem RdS.below {n : Nt.Net} {gF gl : Nat} {L : List Value} {f : Nat → Int × Int} {V V' : World} (h : RdS n gF gl L f V) (hb : Below V.heap.size V V') : RdS n gF gl L f V' := ⟨h.1.below hb, nrow_below h.2 hb⟩
set_option maxRecDepth 100000 in
set_option maxHeartbeats 16000000 in
theorem netRest_any (n : Nt.Net) (la : Option Addr) (lk : Nat) (fa : Option Addr) (fk : Nat) (wa : Option Addr) (wk : Nat) (ha : Option Addr) (hn hk : Nat) (hf : Nat → Int) (w : World) (h : NtAt n la fa wa w) (hs : NtSmall n) (hh : IsAt ha (hn * 2) hf w) (hb0 : NBd hf) (hm : hn ≤ 1048576) (hg : NEt w) :
    Calls Tryz.prog 41 #[ntV n la lk fa fk wa wk, .slice ha hn hk] w fun e w' => Reck w.heap.size (Nt.reCode n hn hf) (Nt.nn n) (Nt.cells2 (Nt.rev n hf)) e w' ∧ Below w.heap.size w w' := by
  have HA := Lib.hid h
  have HG := Lib.hid hg
  obtain ⟨W, hW⟩ : ∃ W, W = w.alloc (.cells #[.int .i64 n.nodes, .slice la n.ln lk, .slice fa n.fn fk, .slice wa n.wn wk] 27) := ⟨_, rfl⟩
  have S0 : Hid (NtS 27 n la lk fa fk wa wk w W) := by rw [hW]; exact NtS.new _ h
  have HX := Lib.hid (netFlows_any n la lk fa fk wa wk ha hn hk hf W S0.out.at_ hs (hh.below S0.out.old) hb0 hm (hg.below S0.out.old))
  have HW := Lib.hid hW
  clear h hh hb0 hg hs hW
  go_enter Tryz.func41, Tryz.ntmps41
  go_wp2_with fail
  rw [← HW.out]
  refine HX.out.mono ?_
  rintro e w1 ⟨hR, hb⟩
  have S1 := Lib.hid (S0.out.below hb)
  have HSZ := Lib.hid S0.out.row.lt
  clear hb S0 HX
  rcases hR with ⟨hc, gF, kF, rfl, hgF, hkF⟩ | ⟨hc, s, rfl⟩
  case inr =>
    have HC := Lib.hid (Nt.reCode_bad hc)
    have HN := Lib.hid hc
    clear hc
    go_wp2_with fail
    exact ⟨rfl, Or.inr ⟨by rw [HC.out]; exact HN.out, s, by rw [HC.out]⟩, S1.out.old⟩
  have HC0 := Lib.hid hc
  have RF := Lib.hid (Nt.reFit hc)
  have KF := Lib.hid hkF
  have LF : Hid (w.heap.size < gF) := Nat.lt_of_lt_of_le HSZ.out hgF
  clear hc hkF hgF
  have hln := RF.out.f.r.ln
  obtain ⟨hnn, hn1, hn2⟩ := RF.out.f.r.nn
  have hmk := nmk_Frac (Nt.nn n) (by omega)
  rw [← hnn] at hmk
  have hwn : Hid (n.wn = Nt.nn n) := by have := RF.out.f.r.wn; show _ = _; omega
  have HNN := Lib.hid hnn
  clear hnn
  obtain ⟨⟨r0, r1, r2, r3⟩, _⟩ := rowN4 S1.out.row
  have zw : w.heap.size < w1.heap.size := S1.out.row.lt
  have P0 : Hid (IsPart 35 w1.heap.size (Nt.nn n * 2) (0 * 2) (Nt.cells2 (fun _ => (0, 1))) (w1.alloc (.cells (madeCells #[.int .i64 0, .int .i64 0] (Nt.nn n * 2)) 35)) ∧ Below w1.heap.size w1 (w1.alloc (.cells (madeCells #[.int .i64 0, .int .i64 0] (Nt.nn n * 2)) 35))) :=
    ⟨⟨_, made_is _ _ w1 _ (by intro i hi; simp at hi; have : i = 0 ∨ i = 1 := (by omega); rcases this with rfl | rfl <;> rfl) (by simp), fun j hj => absurd hj (by omega)⟩, nbel_alloc _ _⟩
  go_wp2_with fail
  clear hmk r0 r1 r2 r3
  go_loopw [20] (fun iv wr => ∃ (i : Nat), i ≤ Nt.nn n ∧ iv = .int .i64 i ∧ Hid (IsPart 35 w1.heap.size (Nt.nn n * 2) (i * 2) (Nt.cells2 (fun _ => (0, 1))) wr ∧ Below w1.heap.size w1 wr)) (fun iv _ => Nt.nn n - (intOf iv).toNat)
  case atStart => exact ⟨0, Nat.zero_le _, rfl, P0⟩
  case round =>
  obtain ⟨i, hi, rfl, hP⟩ := hrel
  clear P0
  by_cases hlt : i < Nt.nn n
  · have hltz : (i : Int) < (Nt.nn n : Int) := by omega
    go_wp2_with fail
    refine (whole_any 0 _ (by omega) (by omega) ((HG.out.below S1.out.old).below hP.out.2)).mono ?_
    rintro e w2 ⟨rfl, hb⟩
    have P2 := hP.out.1.block (hb.block _ hP.out.1.lt)
    have B2 : Hid (Below w1.heap.size w1 w2) := hP.out.2.trans (hb.mono hP.out.2.size)
    obtain ⟨v0, y0⟩ := P2.cell (j := i * 2) (by omega)
    obtain ⟨v1, y1⟩ := P2.cell (j := i * 2 + 1) (by omega)
    have z0 := P2.frozen (i * 2)
    have z1 := P2.frozen (i * 2 + 1)
    have lz := P2.lt
    have P3 := Lib.hid ((P2.put 0 (Nt.cells2_0 (fun _ => (0, 1)) i).symm).put 1 (Nt.cells2_1 (fun _ => (0, 1)) i).symm)
    clear hb hP P2
    go_wp2_with fail
    go_roundw
    case rel => exact ⟨i + 1, by omega, by go_num, by rw [Nat.succ_mul]; exact P3.out, (B2.out.setCell (p := ⟨w1.heap.size, i * 2, none⟩) (Nat.le_refl _) _).setCell (p := ⟨w1.heap.size, i * 2 + 1, none⟩) (Nat.le_refl _) _⟩
    case measure => simp [intOf]; omega
  obtain rfl : i = Nt.nn n := by omega
  have S2 : Hid (ReS n la lk fa fk wa wk gF w1.heap.size (Nt.flv n hf) (fun _ => (0, 1)) w wr) := ⟨nrow_below S1.out.row hP.out.2, S1.out.old.trans (hP.out.2.mono S1.out.old.size), KF.out.below hP.out.2, hP.out.1.full (Nat.le_refl _), LF.out, KF.out.lt⟩
  clear hP S1 KF LF HSZ
  obtain ⟨⟨r0, r1, r2, r3⟩, _⟩ := rowN4 S2.out.row
  go_wp2_with fail
  clear r0 r1 r2 r3 zw
  generalize w1.heap.size = g at *
  go_loopw [31] (fun iv wr => ∃ (i : Nat), i ≤ n.ln ∧ iv = .int .i64 i ∧ ∃ r, Hid (ReS n la lk fa fk wa wk gF g (Nt.flv n hf) r w wr) ∧ Hid (∀ k, k < Nt.nn n → Nt.ra n hf k i = some (r k))) (fun iv _ => n.ln - (intOf iv).toNat)
  case atStart => exact ⟨0, Nat.zero_le _, rfl, _, S2, fun k _ => rfl⟩
  case round =>
  obtain ⟨i, hi, rfl, r, hS, hP⟩ := hrel
  clear S2
  by_cases hlt : i < n.ln
  case pos =>
    have hltz : (i : Int) < (n.ln : Int) := by omega
    obtain ⟨b, e, c0, c1, c2⟩ := (HA.out.below hS.out.old).l.at3 hlt
    obtain ⟨ef, hfr⟩ := RF.out.f.r.fr hlt
    obtain ⟨et, htt⟩ := RF.out.f.r.tt hlt
    have hne := RF.out.f.r.frtt hlt
    rw [ef] at c0
    rw [et] at c1
    have zb : b < wr.heap.size := World.block_lt_of_cell? _ _ c0
    subst e
    clear ef et
    obtain ⟨W0, hW0⟩ : ∃ W0, W0 = wr.alloc (.cells #[.int .i64 (Nt.fr n i : Nat), .int .i64 (Nt.tt n i : Nat), .int .i64 (n.L (i * 3 + 2))] 74) := ⟨_, rfl⟩
    have SV : Hid (ReS n (some ⟨b, 0, none⟩) lk fa fk wa wk gF g (Nt.flv n hf) r w W0) := by rw [hW0]; exact hS.out.below (nbel_alloc _ _)
    have RL : Hid (W0.rowIs wr.heap.size 74 3 (rowN [.int .i64 (Nt.fr n i : Nat), .int .i64 (Nt.tt n i : Nat), .int .i64 (n.L (i * 3 + 2))])) := by rw [hW0]; exact rowN_alloc wr _ _
    have NE : Hid (g < wr.heap.size ∧ gF < g) := ⟨hS.out.re.lt, hS.out.lo.2⟩
    have HW0 := Lib.hid hW0
    have hfz : (Nt.fr n i : Int) < (Nt.nn n : Int) := by omega
    have htz : (Nt.tt n i : Int) < (Nt.nn n : Int) := by omega
    have RA := Lib.hid (Nt.ra_right RF.out (Nat.le_of_lt hlt) (hP.out _ hfr))
    have RB := Lib.hid (Nt.ra_right RF.out (Nat.le_of_lt hlt) (hP.out _ htt))
    have RFL := Lib.hid (RF.out.fl hlt)
    have HNE := Lib.hid hne
    clear hW0 hS hne
    go_wp2_with fail
    rw [← HW0.out]
    clear c0 c1 c2 zb
    generalize wr.heap.size = gl at *
    refine wp_region_held_drew (S := RdS n gF gl [.int .i64 (Nt.fr n i : Nat), .int .i64 (Nt.tt n i : Nat), .int .i64 (n.L (i * 3 + 2))] (Nt.flv n hf)) (by kernel_rfl) ⟨(SV.out.below (Below.refl _ _).drew).fl, nrow_below RL.out (Below.refl _ _).drew⟩ (fun hHeld => ?_)
    obtain ⟨Z, hZ⟩ : ∃ Z, Z = W0.drew := ⟨_, rfl⟩
    have SVZa : Hid (ReS n (some ⟨b, 0, none⟩) lk fa fk wa wk gF g (Nt.flv n hf) r w Z) := by rw [hZ]; exact SV.out.below (Below.refl _ _).drew
    rw [← hZ] at hHeld ⊢
    clear hZ SV
    refine take_do (i := 0) (v := (.slice (some ⟨g, 0, none⟩) (Nt.nn n) (Nt.nn n))) rfl (by kernel_rfl) (by kernel_rfl) (by kernel_rfl) (fun _ _ _ h => h) (by rfl) ?_ (by assumption) ?_
    · intro w hSw
      skip
      go_simp
    simp only [Act.put, List.setIfInBounds_toArray, List.set_cons_zero, List.set_cons_succ]
    refine take_do (i := 1) (v := (.pointer (some ⟨gl, 0, none⟩))) rfl (by kernel_rfl) (by kernel_rfl) (by kernel_rfl) (fun _ _ _ h => h) (by rfl) ?_ (by assumption) ?_
    · intro w hSw
      skip
      go_simp
    simp only [Act.put, List.setIfInBounds_toArray, List.set_cons_zero, List.set_cons_succ]
    refine take_do (i := 2) (v := (.int .i64 (Nt.fr n i : Nat))) rfl (by kernel_rfl) (by kernel_rfl) (by kernel_rfl) (fun _ _ _ h => h) (by rfl) ?_ (by assumption) ?_
    · intro w hSw
      obtain ⟨⟨x0, x1, x2⟩, _⟩ := rowN3 hSw.2
      go_simp
    simp only [Act.put, List.setIfInBounds_toArray, List.set_cons_zero, List.set_cons_succ]
    refine take_do (i := 3) (v := (.slice (some ⟨g, 0, none⟩) (Nt.nn n) (Nt.nn n))) rfl (by kernel_rfl) (by kernel_rfl) (by kernel_rfl) (fun _ _ _ h => h) (by rfl) ?_ (by assumption) ?_
    · intro w hSw
      skip
      go_simp
    simp only [Act.put, List.setIfInBounds_toArray, List.set_cons_zero, List.set_cons_succ]
    refine take_do (i := 4) (v := (.pointer (some ⟨gl, 0, none⟩))) rfl (by kernel_rfl) (by kernel_rfl) (by kernel_rfl) (fun _ _ _ h => h) (by rfl) ?_ (by assumption) ?_
    · intro w hSw
      skip
      go_simp
    simp only [Act.put, List.setIfInBounds_toArray, List.set_cons_zero, List.set_cons_succ]
    refine take_do (i := 5) (v := (.int .i64 (Nt.fr n i : Nat))) rfl (by kernel_rfl) (by kernel_rfl) (by kernel_rfl) (fun _ _ _ h => h) (by rfl) ?_ (by assumption) ?_
    · intro w hSw
      obtain ⟨⟨x0, x1, x2⟩, _⟩ := rowN3 hSw.2
      go_simp
    simp only [Act.put, List.setIfInBounds_toArray, List.set_cons_zero, List.set_cons_succ]
    refine take_do (i := 6) (v := (.pointer (some ⟨g, Nt.fr n i * 2, none⟩))) rfl (by kernel_rfl) (by kernel_rfl) (by kernel_rfl) (fun _ _ _ h => h) (by rfl) ?_ (by assumption) ?_
    · intro w hSw
      skip
      go_simp
    simp only [Act.put, List.setIfInBounds_toArray, List.set_cons_zero, List.set_cons_succ]
    refine take_do (i := 8) (v := (.slice (some ⟨gF, 0, none⟩) n.ln kF)) rfl (by kernel_rfl) (by kernel_rfl) (by kernel_rfl) (fun _ _ _ h => h) (by rfl) ?_ (by assumption) ?_
    · intro w hSw
      skip
      go_simp
    simp only [Act.put, List.setIfInBounds_toArray, List.set_cons_zero, List.set_cons_succ]
    refine take_do (i := 9) (v := (.int .i64 i)) rfl (by kernel_rfl) (by kernel_rfl) (by kernel_rfl) (fun _ _ _ h => h) (by rfl) ?_ (by assumption) ?_
    · intro w hSw
      skip
      go_simp
    simp only [Act.put, List.setIfInBounds_toArray, List.set_cons_zero, List.set_cons_succ]
    refine take_do (i := 10) (v := (.pointer (some ⟨gF, i * 2, none⟩))) rfl (by kernel_rfl) (by kernel_rfl) (by kernel_rfl) (fun _ _ _ h => h) (by rfl) ?_ (by assumption) ?_
    · intro w hSw
      skip
      go_simp
    simp only [Act.put, List.setIfInBounds_toArray, List.set_cons_zero, List.set_cons_succ]
    refine take_do (i := 11) (v := (frV (Nt.flv n hf i))) rfl (by kernel_rfl) (by kernel_rfl) (by kernel_rfl) (fun _ _ _ h => h) (by rfl) ?_ (by assumption) ?_
    · intro w hSw
      obtain ⟨y0, y1⟩ := hSw.1.fr hlt
      go_simp
    simp only [Act.put, List.setIfInBounds_toArray, List.set_cons_zero, List.set_cons_succ]
    obtain ⟨t0, t1⟩ := SVZa.out.re.fr (k := Nt.fr n i) (by omega)
    refine take_call (i := 7) rfl (by kernel_rfl) (fun K2 hK => ?_)
    go_simp
    refine hK.out _ _ hHeld (fun hHeld2 => ?_)
    clear hK hHeld t0 t1
    have hHeld := hHeld2
    clear hHeld2
    refine take_call (i := 12) rfl (by kernel_rfl) (fun K2 hK => ?_)
    go_simp
    refine (nimplSub (r (Nt.fr n i)) (Nt.flv n hf i) _ RA.out RFL.out (HG.out.below SVZa.out.old)).mono ?_
    rintro e Q1 ⟨rfl, hb⟩
    have SV1 := Lib.hid (SVZa.out.below hb)
    go_wp2_with fail
    refine hK.out _ _ (hHeld.below hb) (fun hHeld2 => ?_)
    clear hK hHeld hb SVZa
    have hHeld := hHeld2
    clear hHeld2
    by_cases hq : Fq.code (Fq.sub (r (Nt.fr n i)) (Nt.flv n hf i)) = 0
    case neg =>
      have HC := Lib.hid (Nt.reCode_5 HC0.out (k := Nt.fr n i) (by omega) (Nt.fin_none (j := i + 1) (by rw [Nt.ra_fr (hP.out _ hfr) (Ne.symm HNE.out) rfl]; exact Nt.okv_bad hq) (by omega)))
      have h5 := (Fq.code_or (Fq.sub_fit RA.out RFL.out).1).resolve_left hq
      have HQ := Lib.hid hq
      have H5 := Lib.hid h5
      clear hq h5
      refine take_call (i := 13) rfl (by kernel_rfl) (fun K2 hK => ?_)
      go_simp
      refine (sure_bad _ _ _ HQ.out _).mono ?_
      rintro e Q2 ⟨⟨s, rfl⟩, hb⟩
      go_wp2_with fail
      exact ⟨rfl, Or.inr ⟨by rw [HC.out]; decide, s, by rw [HC.out, H5.out]⟩, SV1.out.old.trans (hb.mono SV1.out.old.size)⟩
    case pos =>
      have HQa := Lib.hid hq
      clear hq
      refine take_call (i := 13) rfl (by kernel_rfl) (fun K2 hK => ?_)
      go_simp
      have HV := Lib.hid (sure_ok (Fq.val (Fq.sub (r (Nt.fr n i)) (Nt.flv n hf i))).1 (Fq.val (Fq.sub (r (Nt.fr n i)) (Nt.flv n hf i))).2)
      rw [← HQa.out] at HV
      refine (HV.out _).mono ?_
      rintro e Q2 ⟨rfl, hb⟩
      clear HV
      have SV2 := Lib.hid (SV1.out.below hb)
      go_wp2_with fail
      refine hK.out _ _ (hHeld.below hb) (fun hHeld2 => ?_)
      clear hK hHeld hb SV1
      have hHeld := hHeld2
      clear hHeld2
      refine take_do (i := 14) (v := (.pointer (some ⟨g, Nt.fr n i * 2, none⟩))) rfl (by kernel_rfl) (by kernel_rfl) (by kernel_rfl) (fun _ _ _ h => h) (by rfl) ?_ (by assumption) ?_
      · intro w hSw
        skip
        go_simp
      simp only [Act.put, List.setIfInBounds_toArray, List.set_cons_zero, List.set_cons_succ]
      have o0 := SV2.out.re.cell (i := Nt.fr n i * 2) (by omega)
      have o1 := SV2.out.re.cell (i := Nt.fr n i * 2 + 1) (by omega)
      have z0 := SV2.out.re.frozen (Nt.fr n i * 2)
      have z1 := SV2.out.re.frozen (Nt.fr n i * 2 + 1)
      have l0 := SV2.out.re.lt
      obtain ⟨WZa, hWZa⟩ : ∃ WZa, WZa = (Q2.setCell ⟨g, Nt.fr n i * 2, none⟩ (.int .i64 (Fq.val (Fq.sub (r (Nt.fr n i)) (Nt.flv n hf i))).1)).setCell ⟨g, Nt.fr n i * 2 + 1, none⟩ (.int .i64 (Fq.val (Fq.sub (r (Nt.fr n i)) (Nt.flv n hf i))).2) := ⟨_, rfl⟩
      have SYa : Hid (ReS n (some ⟨b, 0, none⟩) lk fa fk wa wk gF g (Nt.flv n hf) (Nt.updF r (Nt.fr n i) (Fq.val (Fq.sub (r (Nt.fr n i)) (Nt.flv n hf i)))) w WZa) := by rw [hWZa]; exact SV2.out.set (Nt.fr n i) (Fq.val (Fq.sub (r (Nt.fr n i)) (Nt.flv n hf i)))
      have RYa : Hid (WZa.rowIs gl 74 3 (rowN [.int .i64 (Nt.fr n i : Nat), .int .i64 (Nt.tt n i : Nat), .int .i64 (n.L (i * 3 + 2))])) := by
        rw [hWZa]
        have h1 := NE.out
        exact nrow_set (nrow_set hHeld.2 (p := ⟨g, Nt.fr n i * 2, none⟩) (by show gl ≠ g; omega) _) (p := ⟨g, Nt.fr n i * 2 + 1, none⟩) (by show gl ≠ g; omega) _
      have HWZa := Lib.hid hWZa
      clear hWZa
      refine take_call (i := 15) rfl (by kernel_rfl) (fun K2 hK => ?_)
      go_simp
      rw [← HWZa.out]
      refine hK.out _ _ ⟨SYa.out.fl, RYa.out⟩ (fun hHeld2 => ?_)
      clear hK hHeld hHeld2 HWZa o0 o1 z0 z1 l0 SV2
      refine wpAnyH_done (by kernel_rfl) ?_ _
      go_wp2_with fail
      refine wp_region_held_drew (S := RdS n gF gl [.int .i64 (Nt.fr n i : Nat), .int .i64 (Nt.tt n i : Nat), .int .i64 (n.L (i * 3 + 2))] (Nt.flv n hf)) (by kernel_rfl) ⟨(SYa.out.below (Below.refl _ _).drew).fl, nrow_below RYa.out (Below.refl _ _).drew⟩ (fun hHeld => ?_)
      obtain ⟨Z, hZ⟩ : ∃ Z, Z = WZa.drew := ⟨_, rfl⟩
      have SVZb : Hid (ReS n (some ⟨b, 0, none⟩) lk fa fk wa wk gF g (Nt.flv n hf) (Nt.updF r (Nt.fr n i) (Fq.val (Fq.sub (r (Nt.fr n i)) (Nt.flv n hf i)))) w Z) := by rw [hZ]; exact SYa.out.below (Below.refl _ _).drew
      rw [← hZ] at hHeld ⊢
      clear hZ SYa
      refine take_do (i := 0) (v := (.slice (some ⟨g, 0, none⟩) (Nt.nn n) (Nt.nn n))) rfl (by kernel_rfl) (by kernel_rfl) (by kernel_rfl) (fun _ _ _ h => h) (by rfl) ?_ (by assumption) ?_
      · intro w hSw
        skip
        go_simp
      simp only [Act.put, List.setIfInBounds_toArray, List.set_cons_zero, List.set_cons_succ]
      refine take_do (i := 1) (v := (.pointer (some ⟨gl, 1, none⟩))) rfl (by kernel_rfl) (by kernel_rfl) (by kernel_rfl) (fun _ _ _ h => h) (by rfl) ?_ (by assumption) ?_
      · intro w hSw
        skip
        go_simp
      simp only [Act.put, List.setIfInBounds_toArray, List.set_cons_zero, List.set_cons_succ]
      refine take_do (i := 2) (v := (.int .i64 (Nt.tt n i : Nat))) rfl (by kernel_rfl) (by kernel_rfl) (by kernel_rfl) (fun _ _ _ h => h) (by rfl) ?_ (by assumption) ?_
      · intro w hSw
        obtain ⟨⟨x0, x1, x2⟩, _⟩ := rowN3 hSw.2
        go_simp
      simp only [Act.put, List.setIfInBounds_toArray, List.set_cons_zero, List.set_cons_succ]
      refine take_do (i := 3) (v := (.slice (some ⟨g, 0, none⟩) (Nt.nn n) (Nt.nn n))) rfl (by kernel_rfl) (by kernel_rfl) (by kernel_rfl) (fun _ _ _ h => h) (by rfl) ?_ (by assumption) ?_
      · intro w hSw
        skip
        go_simp
      simp only [Act.put, List.setIfInBounds_toArray, List.set_cons_zero, List.set_cons_succ]
      refine take_do (i := 4) (v := (.pointer (some ⟨gl, 1, none⟩))) rfl (by kernel_rfl) (by kernel_rfl) (by kernel_rfl) (fun _ _ _ h => h) (by rfl) ?_ (by assumption) ?_
      · intro w hSw
        skip
        go_simp
      simp only [Act.put, List.setIfInBounds_toArray, List.set_cons_zero, List.set_cons_succ]
      refine take_do (i := 5) (v := (.int .i64 (Nt.tt n i : Nat))) rfl (by kernel_rfl) (by kernel_rfl) (by kernel_rfl) (fun _ _ _ h => h) (by rfl) ?_ (by assumption) ?_
      · intro w hSw
        obtain ⟨⟨x0, x1, x2⟩, _⟩ := rowN3 hSw.2
        go_simp
      simp only [Act.put, List.setIfInBounds_toArray, List.set_cons_zero, List.set_cons_succ]
      refine take_do (i := 6) (v := (.pointer (some ⟨g, Nt.tt n i * 2, none⟩))) rfl (by kernel_rfl) (by kernel_rfl) (by kernel_rfl) (fun _ _ _ h => h) (by rfl) ?_ (by assumption) ?_
      · intro w hSw
        skip
        go_simp
      simp only [Act.put, List.setIfInBounds_toArray, List.set_cons_zero, List.set_cons_succ]
      refine take_do (i := 8) (v := (.slice (some ⟨gF, 0, none⟩) n.ln kF)) rfl (by kernel_rfl) (by kernel_rfl) (by kernel_rfl) (fun _ _ _ h => h) (by rfl) ?_ (by assumption) ?_
      · intro w hSw
        skip
        go_simp
      simp only [Act.put, List.setIfInBounds_toArray, List.set_cons_zero, List.set_cons_succ]
      refine take_do (i := 9) (v := (.int .i64 i)) rfl (by kernel_rfl) (by kernel_rfl) (by kernel_rfl) (fun _ _ _ h => h) (by rfl) ?_ (by assumption) ?_
      · intro w hSw
        skip
        go_simp
      simp only [Act.put, List.setIfInBounds_toArray, List.set_cons_zero, List.set_cons_succ]
      refine take_do (i := 10) (v := (.pointer (some ⟨gF, i * 2, none⟩))) rfl (by kernel_rfl) (by kernel_rfl) (by kernel_rfl) (fun _ _ _ h => h) (by rfl) ?_ (by assumption) ?_
      · intro w hSw
        skip
        go_simp
      simp only [Act.put, List.setIfInBounds_toArray, List.set_cons_zero, List.set_cons_succ]
      refine take_do (i := 11) (v := (frV (Nt.flv n hf i))) rfl (by kernel_rfl) (by kernel_rfl) (by kernel_rfl) (fun _ _ _ h => h) (by rfl) ?_ (by assumption) ?_
      · intro w hSw
        obtain ⟨y0, y1⟩ := hSw.1.fr hlt
        go_simp
      simp only [Act.put, List.setIfInBounds_toArray, List.set_cons_zero, List.set_cons_succ]
      obtain ⟨t0, t1⟩ := SVZb.out.re.fr (k := Nt.tt n i) (by omega)
      rw [Nt.updF_ne (Ne.symm HNE.out)] at t0 t1
      refine take_call (i := 7) rfl (by kernel_rfl) (fun K2 hK => ?_)
      go_simp
      refine hK.out _ _ hHeld (fun hHeld2 => ?_)
      clear hK hHeld t0 t1
      have hHeld := hHeld2
      clear hHeld2
      refine take_call (i := 12) rfl (by kernel_rfl) (fun K2 hK => ?_)
      go_simp
      refine (nimplAdd (r (Nt.tt n i)) (Nt.flv n hf i) _ RB.out RFL.out (HG.out.below SVZb.out.old)).mono ?_
      rintro e Q1 ⟨rfl, hb⟩
      have SV1 := Lib.hid (SVZb.out.below hb)
      go_wp2_with fail
      refine hK.out _ _ (hHeld.below hb) (fun hHeld2 => ?_)
      clear hK hHeld hb SVZb
      have hHeld := hHeld2
      clear hHeld2
      by_cases hq : Fq.code (Fq.add (r (Nt.tt n i)) (Nt.flv n hf i)) = 0
      case neg =>
        have HC := Lib.hid (Nt.reCode_5 HC0.out (k := Nt.tt n i) (by omega) (Nt.fin_none (j := i + 1) (by rw [Nt.ra_tt (hP.out _ htt) rfl]; exact Nt.okv_bad hq) (by omega)))
        have h5 := (Fq.code_or (Fq.add_fit RB.out RFL.out).1).resolve_left hq
        have HQ := Lib.hid hq
        have H5 := Lib.hid h5
        clear hq h5
        refine take_call (i := 13) rfl (by kernel_rfl) (fun K2 hK => ?_)
        go_simp
        refine (sure_bad _ _ _ HQ.out _).mono ?_
        rintro e Q2 ⟨⟨s, rfl⟩, hb⟩
        go_wp2_with fail
        exact ⟨rfl, Or.inr ⟨by rw [HC.out]; decide, s, by rw [HC.out, H5.out]⟩, SV1.out.old.trans (hb.mono SV1.out.old.size)⟩
      case pos =>
      have HQb := Lib.hid hq
      clear hq
      refine take_call (i := 13) rfl (by kernel_rfl) (fun K2 hK => ?_)
      go_simp
      have HV := Lib.hid (sure_ok (Fq.val (Fq.add (r (Nt.tt n i)) (Nt.flv n hf i))).1 (Fq.val (Fq.add (r (Nt.tt n i)) (Nt.flv n hf i))).2)
      rw [← HQb.out] at HV
      refine (HV.out _).mono ?_
      rintro e Q2 ⟨rfl, hb⟩
      clear HV
      have SV2 := Lib.hid (SV1.out.below hb)
      go_wp2_with fail
      refine hK.out _ _ (hHeld.below hb) (fun hHeld2 => ?_)
      clear hK hHeld hb SV1
      have hHeld := hHeld2
      clear hHeld2
      refine take_do (i := 14) (v := (.pointer (some ⟨g, Nt.tt n i * 2, none⟩))) rfl (by kernel_rfl) (by kernel_rfl) (by kernel_rfl) (fun _ _ _ h => h) (by rfl) ?_ (by assumption) ?_
      · intro w hSw
        skip
        go_simp
      simp only [Act.put, List.setIfInBounds_toArray, List.set_cons_zero, List.set_cons_succ]
      have o0 := SV2.out.re.cell (i := Nt.tt n i * 2) (by omega)
      have o1 := SV2.out.re.cell (i := Nt.tt n i * 2 + 1) (by omega)
      have z0 := SV2.out.re.frozen (Nt.tt n i * 2)
      have z1 := SV2.out.re.frozen (Nt.tt n i * 2 + 1)
      have l0 := SV2.out.re.lt
      obtain ⟨WZb, hWZb⟩ : ∃ WZb, WZb = (Q2.setCell ⟨g, Nt.tt n i * 2, none⟩ (.int .i64 (Fq.val (Fq.add (r (Nt.tt n i)) (Nt.flv n hf i))).1)).setCell ⟨g, Nt.tt n i * 2 + 1, none⟩ (.int .i64 (Fq.val (Fq.add (r (Nt.tt n i)) (Nt.flv n hf i))).2) := ⟨_, rfl⟩
      have SYb : Hid (ReS n (some ⟨b, 0, none⟩) lk fa fk wa wk gF g (Nt.flv n hf) (Nt.updF (Nt.updF r (Nt.fr n i) (Fq.val (Fq.sub (r (Nt.fr n i)) (Nt.flv n hf i)))) (Nt.tt n i) (Fq.val (Fq.add (r (Nt.tt n i)) (Nt.flv n hf i)))) w WZb) := by rw [hWZb]; exact SV2.out.set (Nt.tt n i) (Fq.val (Fq.add (r (Nt.tt n i)) (Nt.flv n hf i)))
      have RYb : Hid (WZb.rowIs gl 74 3 (rowN [.int .i64 (Nt.fr n i : Nat), .int .i64 (Nt.tt n i : Nat), .int .i64 (n.L (i * 3 + 2))])) := by
        rw [hWZb]
        have h1 := NE.out
        exact nrow_set (nrow_set hHeld.2 (p := ⟨g, Nt.tt n i * 2, none⟩) (by show gl ≠ g; omega) _) (p := ⟨g, Nt.tt n i * 2 + 1, none⟩) (by show gl ≠ g; omega) _
      have HWZb := Lib.hid hWZb
      clear hWZb
      refine take_call (i := 15) rfl (by kernel_rfl) (fun K2 hK => ?_)
      go_simp
      rw [← HWZb.out]
      refine hK.out _ _ ⟨SYb.out.fl, RYb.out⟩ (fun hHeld2 => ?_)
      clear hK hHeld hHeld2 HWZb o0 o1 z0 z1 l0 SV2
      refine wpAnyH_done (by kernel_rfl) ?_ _

      go_wp2_with fail
      go_roundw
      case rel =>
        refine ⟨i + 1, by omega, by go_num, _, SYb, fun k hk => ?_⟩
        by_cases e1 : Nt.tt n i = k
        · subst e1
          rw [Nt.updF_same, Nt.ra_tt (hP.out _ hk) rfl]; exact Nt.okv_ok HQb.out
        · rw [Nt.updF_ne (Ne.symm e1)]
          by_cases e2 : Nt.fr n i = k
          · subst e2
            rw [Nt.updF_same, Nt.ra_fr (hP.out _ hk) e1 rfl]; exact Nt.okv_ok HQa.out
          · rw [Nt.updF_ne (Ne.symm e2), Nt.ra_no (hP.out k hk) e1 e2]
      case measure => simp [intOf]; omega
  obtain rfl : i = n.ln := by omega
  obtain ⟨⟨r0, r1, r2, r3⟩, _⟩ := rowN4 hS.out.row
  rw [hwn.out] at r3
  go_wp2_with fail
  clear r0 r1 r2 r3
  go_loopw [70] (fun iv wr => ∃ (i : Nat), i ≤ Nt.nn n ∧ iv = .int .i64 i ∧ ∃ r, Hid (ReS n la lk fa fk wa wk gF g (Nt.flv n hf) r w wr) ∧ Hid (∀ k, k < Nt.nn n → (k < i → Nt.fin n hf k = some (r k)) ∧ (i ≤ k → Nt.ra n hf k n.ln = some (r k)))) (fun iv _ => Nt.nn n - (intOf iv).toNat)
  case atStart => exact ⟨0, Nat.zero_le _, rfl, r, hS, fun k hk => ⟨fun h => absurd h (Nat.not_lt_zero _), fun _ => hP.out k hk⟩⟩
  case round =>
  obtain ⟨i, hi, rfl, r, hS, hP⟩ := hrel
  by_cases hlt : i < Nt.nn n
  case pos =>
    have hltz : (i : Int) < (Nt.nn n : Int) := by omega
    obtain ⟨b, e, c0⟩ := (HA.out.below hS.out.old).w.at1 (i := i) (by rw [hwn.out]; exact hlt)
    subst e
    have RA := Lib.hid (Nt.ra_right RF.out (Nat.le_refl _) ((hP.out i hlt).2 (Nat.le_refl _)))
    have RW := Lib.hid (Nt.want_right RF.out.f.r hlt)
    have WB := Lib.hid (RF.out.f.r.w i (by rw [hwn.out]; exact hlt))
    go_wp2_with fail
    clear c0
    refine wp_region_held_drew (S := fun V => Below w.heap.size w V) (by kernel_rfl) hS.out.old.drew (fun hHeld => ?_)
    obtain ⟨Z, hZ⟩ : ∃ Z, Z = wr.drew := ⟨_, rfl⟩
    have SVZ : Hid (ReS n la lk fa fk (some ⟨b, 0, none⟩) wk gF g (Nt.flv n hf) r w Z) := by rw [hZ]; exact hS.out.below (Below.refl _ _).drew
    rw [← hZ] at hHeld ⊢
    clear hZ hS
    refine take_do (i := 0) (v := (.slice (some ⟨g, 0, none⟩) (Nt.nn n) (Nt.nn n))) rfl (by kernel_rfl) (by kernel_rfl) (by kernel_rfl) (fun _ _ _ h => h) (by rfl) ?_ (by assumption) ?_
    · intro w hSw
      skip
      go_simp
    simp only [Act.put, List.setIfInBounds_toArray, List.set_cons_zero, List.set_cons_succ]
    refine take_do (i := 1) (v := (.int .i64 i)) rfl (by kernel_rfl) (by kernel_rfl) (by kernel_rfl) (fun _ _ _ h => h) (by rfl) ?_ (by assumption) ?_
    · intro w hSw
      skip
      go_simp
    simp only [Act.put, List.setIfInBounds_toArray, List.set_cons_zero, List.set_cons_succ]
    refine take_do (i := 2) (v := (.slice (some ⟨g, 0, none⟩) (Nt.nn n) (Nt.nn n))) rfl (by kernel_rfl) (by kernel_rfl) (by kernel_rfl) (fun _ _ _ h => h) (by rfl) ?_ (by assumption) ?_
    · intro w hSw
      skip
      go_simp
    simp only [Act.put, List.setIfInBounds_toArray, List.set_cons_zero, List.set_cons_succ]
    refine take_do (i := 3) (v := (.int .i64 i)) rfl (by kernel_rfl) (by kernel_rfl) (by kernel_rfl) (fun _ _ _ h => h) (by rfl) ?_ (by assumption) ?_
    · intro w hSw
      skip
      go_simp
    simp only [Act.put, List.setIfInBounds_toArray, List.set_cons_zero, List.set_cons_succ]
    refine take_do (i := 4) (v := (.pointer (some ⟨g, i * 2, none⟩))) rfl (by kernel_rfl) (by kernel_rfl) (by kernel_rfl) (fun _ _ _ h => h) (by rfl) ?_ (by assumption) ?_
    · intro w hSw
      skip
      go_simp
    simp only [Act.put, List.setIfInBounds_toArray, List.set_cons_zero, List.set_cons_succ]
    refine take_do (i := 6) (v := (.int .i64 (n.W i))) rfl (by kernel_rfl) (by kernel_rfl) (by kernel_rfl) (fun _ _ _ h => h) (by rfl) ?_ (by assumption) ?_
    · intro w hSw
      skip
      go_simp
    simp only [Act.put, List.setIfInBounds_toArray, List.set_cons_zero, List.set_cons_succ]
    obtain ⟨t0, t1⟩ := SVZ.out.re.fr hlt
    refine wpAnyH_ready (rs := [5, 7]) (by kernel_rfl) (by simp) (AllReadyH.cons (at_drop (i := 5) rfl) (fun K2 hK => ?_) (AllReadyH.cons (at_drop (i := 7) rfl) (fun K2 hK => ?_) (AllReadyH.nil)))
    · go_simp
      refine hK.out _ _ hHeld (fun hHeld2 => ?_)
      clear hK hHeld
      have hHeld := hHeld2
      clear hHeld2
      refine take_call (i := 7) rfl (by kernel_rfl) (fun K2 hK => ?_)
      go_simp
      refine (whole_any (n.W i) _ (by have := WB.out; unfold Nt.wantOk at this; omega) (by have := WB.out; unfold Nt.wantOk at this; omega) (HG.out.below SVZ.out.old)).mono ?_
      rintro e Q0 ⟨rfl, hb⟩
      replace SVZ := Lib.hid (SVZ.out.below hb)
      go_wp2_with fail
      refine hK.out _ _ SVZ.out.old (fun hHeld2 => ?_)
      clear hK hHeld hb t0 t1
      have hHeld := hHeld2
      clear hHeld2
      refine take_call (i := 8) rfl (by kernel_rfl) (fun K2 hK => ?_)
      go_simp
      refine (nimplSub (r i) (n.W i, 1) _ RA.out RW.out (HG.out.below SVZ.out.old)).mono ?_
      rintro e Q1 ⟨rfl, hb⟩
      have SV1 := Lib.hid (SVZ.out.below hb)
      go_wp2_with fail
      refine hK.out _ _ SV1.out.old (fun hHeld2 => ?_)
      clear hK hHeld hb SVZ
      have hHeld := hHeld2
      clear hHeld2
      by_cases hq : Fq.code (Fq.sub (r i) (n.W i, 1)) = 0
      case neg =>
        have HC := Lib.hid (Nt.reCode_5 HC0.out (k := i) hlt (by unfold Nt.fin; rw [(hP.out i hlt).2 (Nat.le_refl _)]; exact Nt.okv_bad hq))
        have h5 := (Fq.code_or (Fq.sub_fit RA.out RW.out).1).resolve_left hq
        have HQ := Lib.hid hq
        have H5 := Lib.hid h5
        clear hq h5
        refine take_call (i := 9) rfl (by kernel_rfl) (fun K2 hK => ?_)
        go_simp
        refine (sure_bad _ _ _ HQ.out _).mono ?_
        rintro e Q2 ⟨⟨s, rfl⟩, hb⟩
        go_wp2_with fail
        exact ⟨rfl, Or.inr ⟨by rw [HC.out]; decide, s, by rw [HC.out, H5.out]⟩, SV1.out.old.trans (hb.mono SV1.out.old.size)⟩
      case pos =>
        have HQ := Lib.hid hq
        clear hq
        refine take_call (i := 9) rfl (by kernel_rfl) (fun K2 hK => ?_)
        go_simp
        have HV := Lib.hid (sure_ok (Fq.val (Fq.sub (r i) (n.W i, 1))).1 (Fq.val (Fq.sub (r i) (n.W i, 1))).2)
        rw [← HQ.out] at HV
        refine (HV.out _).mono ?_
        rintro e Q2 ⟨rfl, hb⟩
        clear HV
        have SV2 := Lib.hid (SV1.out.below hb)
        go_wp2_with fail
        refine hK.out _ _ SV2.out.old (fun hHeld2 => ?_)
        clear hK hHeld hb SV1
        have hHeld := hHeld2
        clear hHeld2
        refine take_do (i := 10) (v := (.pointer (some ⟨g, i * 2, none⟩))) rfl (by kernel_rfl) (by kernel_rfl) (by kernel_rfl) (fun _ _ _ h => h) (by rfl) ?_ (by assumption) ?_
        · intro w hSw
          skip
          go_simp
        simp only [Act.put, List.setIfInBounds_toArray, List.set_cons_zero, List.set_cons_succ]
        have o0 := SV2.out.re.cell (i := i * 2) (by omega)
        have o1 := SV2.out.re.cell (i := i * 2 + 1) (by omega)
        have z0 := SV2.out.re.frozen (i * 2)
        have z1 := SV2.out.re.frozen (i * 2 + 1)
        have l0 := SV2.out.re.lt
        obtain ⟨WZ, hWZ⟩ : ∃ WZ, WZ = (Q2.setCell ⟨g, i * 2, none⟩ (.int .i64 (Fq.val (Fq.sub (r i) (n.W i, 1))).1)).setCell ⟨g, i * 2 + 1, none⟩ (.int .i64 (Fq.val (Fq.sub (r i) (n.W i, 1))).2) := ⟨_, rfl⟩
        have SY : Hid (ReS n la lk fa fk (some ⟨b, 0, none⟩) wk gF g (Nt.flv n hf) (Nt.updF r i (Fq.val (Fq.sub (r i) (n.W i, 1)))) w WZ) := by rw [hWZ]; exact SV2.out.set i (Fq.val (Fq.sub (r i) (n.W i, 1)))
        have HWZ := Lib.hid hWZ
        clear hWZ
        refine take_call (i := 11) rfl (by kernel_rfl) (fun K2 hK => ?_)
        go_simp
        rw [← HWZ.out]
        refine hK.out _ _ SY.out.old (fun hHeld2 => ?_)
        clear hK hHeld hHeld2 HWZ o0 o1 z0 z1 l0 SV2
        refine wpAnyH_done (by kernel_rfl) ?_ _
        go_wp2_with fail
        go_roundw
        case rel =>
          refine ⟨i + 1, by omega, by go_num, _, SY, fun k hk => ?_⟩
          by_cases ek : k = i
          · subst ek
            rw [Nt.updF_same]
            exact ⟨fun _ => by unfold Nt.fin; rw [(hP.out k hk).2 (Nat.le_refl _)]; exact Nt.okv_ok HQ.out, fun h => absurd h (by omega)⟩
          · rw [Nt.updF_ne ek]
            exact ⟨fun h => (hP.out k hk).1 (by omega), fun h => (hP.out k hk).2 (by omega)⟩
        case measure => simp [intOf]; omega
    · go_simp
      refine (whole_any (n.W i) _ (by have := WB.out; unfold Nt.wantOk at this; omega) (by have := WB.out; unfold Nt.wantOk at this; omega) (HG.out.below SVZ.out.old)).mono ?_
      rintro e Q0 ⟨rfl, hb⟩
      replace SVZ := Lib.hid (SVZ.out.below hb)
      go_wp2_with fail
      refine hK.out _ _ SVZ.out.old (fun hHeld2 => ?_)
      clear hK hHeld hb t0 t1
      have hHeld := hHeld2
      clear hHeld2
      obtain ⟨t0, t1⟩ := SVZ.out.re.fr hlt
      refine take_call (i := 5) rfl (by kernel_rfl) (fun K2 hK => ?_)
      go_simp
      refine hK.out _ _ hHeld (fun hHeld2 => ?_)
      clear hK hHeld
      have hHeld := hHeld2
      clear hHeld2
      clear t0 t1
      refine take_call (i := 8) rfl (by kernel_rfl) (fun K2 hK => ?_)
      go_simp
      refine (nimplSub (r i) (n.W i, 1) _ RA.out RW.out (HG.out.below SVZ.out.old)).mono ?_
      rintro e Q1 ⟨rfl, hb⟩
      have SV1 := Lib.hid (SVZ.out.below hb)
      go_wp2_with fail
      refine hK.out _ _ SV1.out.old (fun hHeld2 => ?_)
      clear hK hHeld hb SVZ
      have hHeld := hHeld2
      clear hHeld2
      by_cases hq : Fq.code (Fq.sub (r i) (n.W i, 1)) = 0
      case neg =>
        have HC := Lib.hid (Nt.reCode_5 HC0.out (k := i) hlt (by unfold Nt.fin; rw [(hP.out i hlt).2 (Nat.le_refl _)]; exact Nt.okv_bad hq))
        have h5 := (Fq.code_or (Fq.sub_fit RA.out RW.out).1).resolve_left hq
        have HQ := Lib.hid hq
        have H5 := Lib.hid h5
        clear hq h5
        refine take_call (i := 9) rfl (by kernel_rfl) (fun K2 hK => ?_)
        go_simp
        refine (sure_bad _ _ _ HQ.out _).mono ?_
        rintro e Q2 ⟨⟨s, rfl⟩, hb⟩
        go_wp2_with fail
        exact ⟨rfl, Or.inr ⟨by rw [HC.out]; decide, s, by rw [HC.out, H5.out]⟩, SV1.out.old.trans (hb.mono SV1.out.old.size)⟩
      case pos =>
        have HQ := Lib.hid hq
        clear hq
        refine take_call (i := 9) rfl (by kernel_rfl) (fun K2 hK => ?_)
        go_simp
        have HV := Lib.hid (sure_ok (Fq.val (Fq.sub (r i) (n.W i, 1))).1 (Fq.val (Fq.sub (r i) (n.W i, 1))).2)
        rw [← HQ.out] at HV
        refine (HV.out _).mono ?_
        rintro e Q2 ⟨rfl, hb⟩
        clear HV
        have SV2 := Lib.hid (SV1.out.below hb)
        go_wp2_with fail
        refine hK.out _ _ SV2.out.old (fun hHeld2 => ?_)
        clear hK hHeld hb SV1
        have hHeld := hHeld2
        clear hHeld2
        refine take_do (i := 10) (v := (.pointer (some ⟨g, i * 2, none⟩))) rfl (by kernel_rfl) (by kernel_rfl) (by kernel_rfl) (fun _ _ _ h => h) (by rfl) ?_ (by assumption) ?_
        · intro w hSw
          skip
          go_simp
        simp only [Act.put, List.setIfInBounds_toArray, List.set_cons_zero, List.set_cons_succ]
        have o0 := SV2.out.re.cell (i := i * 2) (by omega)
        have o1 := SV2.out.re.cell (i := i * 2 + 1) (by omega)
        have z0 := SV2.out.re.frozen (i * 2)
        have z1 := SV2.out.re.frozen (i * 2 + 1)
        have l0 := SV2.out.re.lt
        obtain ⟨WZ, hWZ⟩ : ∃ WZ, WZ = (Q2.setCell ⟨g, i * 2, none⟩ (.int .i64 (Fq.val (Fq.sub (r i) (n.W i, 1))).1)).setCell ⟨g, i * 2 + 1, none⟩ (.int .i64 (Fq.val (Fq.sub (r i) (n.W i, 1))).2) := ⟨_, rfl⟩
        have SY : Hid (ReS n la lk fa fk (some ⟨b, 0, none⟩) wk gF g (Nt.flv n hf) (Nt.updF r i (Fq.val (Fq.sub (r i) (n.W i, 1)))) w WZ) := by rw [hWZ]; exact SV2.out.set i (Fq.val (Fq.sub (r i) (n.W i, 1)))
        have HWZ := Lib.hid hWZ
        clear hWZ
        refine take_call (i := 11) rfl (by kernel_rfl) (fun K2 hK => ?_)
        go_simp
        rw [← HWZ.out]
        refine hK.out _ _ SY.out.old (fun hHeld2 => ?_)
        clear hK hHeld hHeld2 HWZ o0 o1 z0 z1 l0 SV2
        refine wpAnyH_done (by kernel_rfl) ?_ _
        go_wp2_with fail
        go_roundw
        case rel =>
          refine ⟨i + 1, by omega, by go_num, _, SY, fun k hk => ?_⟩
          by_cases ek : k = i
          · subst ek
            rw [Nt.updF_same]
            exact ⟨fun _ => by unfold Nt.fin; rw [(hP.out k hk).2 (Nat.le_refl _)]; exact Nt.okv_ok HQ.out, fun h => absurd h (by omega)⟩
          · rw [Nt.updF_ne ek]
            exact ⟨fun h => (hP.out k hk).1 (by omega), fun h => (hP.out k hk).2 (by omega)⟩
        case measure => simp [intOf]; omega
  obtain rfl : i = Nt.nn n := by omega
  have HC := Lib.hid (Nt.reCode_0 HC0.out (fun k hk => by rw [(hP.out k hk).1 hk]; rfl))
  have HE : Hid (∀ k, k < Nt.nn n → r k = Nt.rev n hf k) := fun k hk => by unfold Nt.rev; rw [(hP.out k hk).1 hk]; rfl
  go_wp2_with fail
  go_ret
  refine ⟨Or.inl ⟨HC.out, g, _, rfl, by have := hS.out.lo; omega, hS.out.re.congr (fun j hj => ?_)⟩, hS.out.old⟩
  unfold Nt.cells2
  rw [HE.out (j / 2) (by omega)]
end Go.Proofs.YtljdkclbmmglpaaGreatDoor
