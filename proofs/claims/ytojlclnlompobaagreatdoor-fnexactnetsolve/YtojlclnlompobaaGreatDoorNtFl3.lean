/-
  The model's flows of a net.
-/
import Derived.Test.YtojlclnlompobaaGreatDoorNtSp
import Derived.Test.YtojlclnlompobaaGreatDoorNtS1
import Derived.Deep.AppendLies
namespace Go.Proofs.YtojlclnlompobaaGreatDoor
open Go.RowKit Go.Deep

namespace Nt
def smq (n : Net) (hf : Nat → Int) (i : Nat) : Int × Int := Fq.mul (gq n i) (Fq.tkv (dq n hf i))
def sfl (n : Net) (hf : Nat → Int) (i : Nat) : Int × Int := Fq.tkv (smq n hf i)
def zAt (n : Net) (hf : Nat → Int) : Nat → Int
  | 0 => 0
  | i + 1 => Fq.tkz (smq n hf i) (Fq.tkz (dq n hf i) (zAt n hf i))
theorem smq_ok {n : Net} {hf : Nat → Int} {i : Nat} (h : Fq.code (dq n hf i) = 0) : smq n hf i = mq n hf i := by unfold smq mq; rw [Fq.tkv_ok h]
theorem zAt_ok {n : Net} {hf : Nat → Int} : ∀ i, (∀ j, j < i → flOk n hf j) → zAt n hf i = 0
  | 0, _ => rfl
  | i + 1, h => by
    have h1 := h i (by omega)
    rw [zAt, zAt_ok i (fun j hj => h j (by omega)), Fq.tkz_ok h1.1, Fq.tkz_ok (by rw [smq_ok h1.1]; exact h1.2)]
theorem zAt_bad {n : Net} {hf : Nat → Int} : ∀ i j, j < i → ¬ flOk n hf j → zAt n hf i = 5
  | 0, j, h, _ => absurd h (by omega)
  | i + 1, j, h, hk => by
    rw [zAt]
    by_cases e : j = i
    · subst e
      by_cases h1 : Fq.code (dq n hf j) = 0
      · have h2 : ¬ Fq.code (smq n hf j) = 0 := fun h2 => hk ⟨h1, by rw [← smq_ok h1]; exact h2⟩
        exact if_neg h2
      · have : Fq.tkz (dq n hf j) (zAt n hf j) = 5 := if_neg h1
        rw [this, Fq.tkz_five]
    · rw [zAt_bad i j (by omega) hk, Fq.tkz_five, Fq.tkz_five]
theorem sfl_ok {n : Net} {hf : Nat → Int} {i : Nat} (h : flOk n hf i) : sfl n hf i = flv n hf i := by
  unfold sfl flv
  rw [smq_ok h.1, Fq.tkv_ok h.2]
end Nt
theorem take_of (gc : Nat) (g z : Int) (w : World) (h1 : -2147483647 ≤ g) (h2 : g ≤ 2147483647) (h : w.rowIs gc 59 1 (rowN [.int .i64 z])) :
    Calls Tryz.prog 25 #[.pointer (some ⟨gc, 0, none⟩), .agg #[.int .i64 (M.oN g 1), .int .i64 (M.oD g 1), .int .i64 (M.codeF g 1)]] w fun e w' => e = .returned (frV (g, 1)) ∧ (w'.rowIs gc 59 1 (rowN [.int .i64 z]) ∧ Only gc w w') := by
  have k := Fq.whole_ok h1 h2
  have := take_any gc (g, 1) z w h
  have hc : Fq.code (g, 1) = 0 := k.1
  rw [Fq.tkv_ok hc, Fq.tkz_ok hc] at this
  have hv : Fq.val (g, 1) = (g, 1) := by unfold Fq.val; simp only; rw [k.2.1, k.2.2.1]
  rw [hv] at this
  unfold foV at this
  rw [hv, hc] at this
  rw [k.1, k.2.1, k.2.2.1]
  exact this
theorem SpS.belowG {n : Nt.Net} {la : Option Addr} {lk : Nat} {fa : Option Addr} {fk : Nat} {wa : Option Addr} {wk gc go i : Nat} {f : Nat → Int × Int} {z : Int} {v : Value} {w W W' : World} {gl : Nat} (h : SpS n la lk fa fk wa wk gc go i f z v w W) (hb : Below gl W W') (hl : go < gl ∧ ∀ k, v.ownBlock = some k → k < gl) : SpS n la lk fa fk wa wk gc go i f z v w W' :=
  have hn := h.num
  ⟨h.row.of_block (hb.block _ (by omega)), h.res.of_block (hb.block _ (by omega)), h.old.trans (hb.mono (by omega)), h.rc.of_block (hb.block _ (by omega)), h.ro.of_block (hb.block _ (by omega)), nown_block h.own (fun k hk => hb.block k (hl.2 k hk)), h.num⟩
/-- What a model tells of a net: a list of its own, or a code. -/
def AnsF (B : Nat) (code : Int) (N : Nat) (f : Nat → Int) (e : Ending) (w : World) : Prop := ∃ a k, e = .returned (noV a (if code = 0 then N else 0) k 0 code) ∧ LsOwn 46 2 B (if code = 0 then N else 0) a k f w
theorem AnsF.bad {B : Nat} {code : Int} {N : Nat} {f : Nat → Int} {w : World} (h : code ≠ 0) : AnsF B code N f (.returned (noV none 0 0 0 code)) w := ⟨none, 0, by rw [if_neg h], by rw [if_neg h]; exact Or.inl ⟨rfl, rfl, rfl⟩⟩
set_option maxRecDepth 100000 in
set_option maxHeartbeats 16000000 in
theorem specFlows_any (n : Nt.Net) (la : Option Addr) (lk : Nat) (fa : Option Addr) (fk : Nat) (wa : Option Addr) (wk : Nat) (ha : Option Addr) (hn hk : Nat) (hf : Nat → Int) (w : World) (h : NtAt n la fa wa w) (hs : NtSmall n) (hh : IsAt ha (hn * 2) hf w) (hm : hn ≤ 1048576) :
    Calls Tryz.prog 49 #[ntV n la lk fa fk wa wk, .slice ha hn hk] w fun e w' => AnsF w.heap.size (Nt.flCode n hn hf) n.ln (Nt.cells2 (Nt.flv n hf)) e w' ∧ Below w.heap.size w w' := by
  have HA := Lib.hid h
  have HH := Lib.hid hh
  have HSM := Lib.hid hs
  obtain ⟨W, hW⟩ : ∃ W, W = (w.alloc (.cells #[.int .i64 n.nodes, .slice la n.ln lk, .slice fa n.fn fk, .slice wa n.wn wk] 35)).alloc (.cells #[.slice none 0 0, .int .i64 0, .int .i64 0] 30) := ⟨_, rfl⟩
  have B0 : Hid (Below w.heap.size w W) := by rw [hW]; exact ((Below.refl _ _).alloc (Nat.le_refl _) _).alloc (by simp) _
  have R0 : Hid (W.rowIs w.heap.size 35 4 (rowN (ntL n la lk fa fk wa wk))) := by rw [hW]; exact nrow_below (rowN_alloc w _ _) (nbel_alloc _ _)
  have O0 : Hid (W.rowIs (w.heap.size + 1) 30 3 (rowN (noL none 0 0 0 0))) := by rw [hW]; exact rowN_alloc' (by simp) _ _
  have HW := Lib.hid hW
  clear h hh hs hW
  by_cases h4 : 400 < hn
  · have h4z : (400 : Int) < (hn : Int) := by omega
    have HC := Lib.hid (Nt.flCode_2 (n := n) (hf := hf) h4)
    go_enter Tryz.func49, Tryz.ntmps49
    go_wp2_with fail
    exact bodyPost_ret (v := noV none 0 0 0 2) (by simp [results, Tryz.results49, go_sem]) rfl ⟨by rw [HC.out]; exact AnsF.bad (by decide), ((Below.refl _ _).alloc (Nat.le_refl _) _).alloc (by simp) _⟩
  have h4z : ¬ (400 : Int) < (hn : Int) := by omega
  go_enter Tryz.func49, Tryz.ntmps49
  go_wp2_with fail
  rw [← HW.out]
  refine (specNet_any n la lk fa fk wa wk _ (HA.out.below B0.out) HSM.out).mono ?_
  rintro e w1 ⟨⟨b1, rfl, hb1⟩, hb⟩
  have B1 : Hid (Below w.heap.size w w1) := B0.out.trans (hb.mono B0.out.size)
  have R1 := Lib.hid (nrow_below R0.out hb)
  have O1 := Lib.hid (nrow_below O0.out hb)
  have E1 := Lib.hid hb1
  clear hb hb1 B0 R0 O0
  obtain ⟨⟨r0, r1, r2, r3⟩, _⟩ := rowN4 R1.out
  obtain ⟨⟨p0, p1, p2⟩, z0, z1, z2⟩ := rowN3 O1.out
  have lw : w.heap.size + 1 < w1.heap.size := O1.out.lt
  have OC : Hid (∀ (c : Int) (V : World), V.rowIs (w.heap.size + 1) 30 3 (rowN (noL none 0 0 0 0)) → (((V.setCell ⟨w.heap.size + 1, 0, none⟩ (.slice none 0 0)).setCell ⟨w.heap.size + 1, 1, none⟩ (.int .i64 0)).setCell ⟨w.heap.size + 1, 2, none⟩ (.int .i64 c)).rowIs (w.heap.size + 1) 30 3 (rowN (noL none 0 0 0 c))) := fun c V hV => rowN_put (rowN_put (rowN_put hV 0 _ (by simp)) 1 _ (by simp)) 2 _ (by simp)
  cases b1 with
  | false =>
    have HC := Lib.hid (Nt.flCode_1 (n := n) (hn := hn) (hf := hf) h4 (fun k => by have := E1.out.2 k.r; cases this))
    go_wp2_with fail
    obtain ⟨⟨x0, x1, x2⟩, _⟩ := rowN3 (OC.out 1 _ O1.out)
    exact bodyPost_ret (v := noV none 0 0 0 1) (by simp [results, Tryz.results49, go_sem, x0, x1, x2]) rfl ⟨by rw [HC.out]; exact AnsF.bad (by decide), ((B1.out.setCell (p := ⟨w.heap.size + 1, 0, none⟩) (Nat.le_succ _) _).setCell (p := ⟨w.heap.size + 1, 1, none⟩) (Nat.le_succ _) _).setCell (p := ⟨w.heap.size + 1, 2, none⟩) (Nat.le_succ _) _⟩
  | true =>
  have HR : Hid (Nt.Right n) := E1.out.1 (by trivial)
  by_cases hq : (hn : Int) = n.nodes
  case neg =>
    have hqz : ((hn : Int) != n.nodes) = true := by simp [hq]
    have HC := Lib.hid (Nt.flCode_1 (n := n) (hn := hn) (hf := hf) h4 (fun k => hq k.len))
    clear hq
    go_wp2_with fail
    obtain ⟨⟨x0, x1, x2⟩, _⟩ := rowN3 (OC.out 1 _ O1.out)
    exact bodyPost_ret (v := noV none 0 0 0 1) (by simp [results, Tryz.results49, go_sem, x0, x1, x2]) rfl ⟨by rw [HC.out]; exact AnsF.bad (by decide), ((B1.out.setCell (p := ⟨w.heap.size + 1, 0, none⟩) (Nat.le_succ _) _).setCell (p := ⟨w.heap.size + 1, 1, none⟩) (Nat.le_succ _) _).setCell (p := ⟨w.heap.size + 1, 2, none⟩) (Nat.le_succ _) _⟩
  case pos =>
  have hqz : ((hn : Int) != n.nodes) = false := by simp [hq]
  have HQ := Lib.hid hq
  clear hq E1
  go_wp2_with fail
  clear r0 r1 r2 r3 p0 p1 p2 z0 z1 z2
  go_loopw [5] (fun iv wr => ∃ (i : Nat), i ≤ hn ∧ iv = .int .i64 i ∧ Hid (Below w1.heap.size w1 wr) ∧ Hid (Nt.headsOk i hf)) (fun iv _ => hn - (intOf iv).toNat)
  case atStart => exact ⟨0, Nat.zero_le _, rfl, Below.refl _ _, fun j hj => absurd hj (Nat.not_lt_zero _)⟩
  case round =>
    obtain ⟨i, hi, rfl, hB, hP⟩ := hrel
    have BB : Hid (Below w.heap.size w wr) := B1.out.trans (hB.out.mono B1.out.size)
    by_cases hlt : i < hn
    · have hltz : (i : Int) < (hn : Int) := by omega
      obtain ⟨b, e, c0, c1⟩ := (HH.out.below BB.out).at2 hlt
      subst e
      go_wp2_with fail
      refine (specRight_any (hf (i * 2)) (hf (i * 2 + 1)) _).mono ?_
      rintro e w2 ⟨rfl, hb2⟩
      have B2 : Hid (Below w1.heap.size w1 w2) := hB.out.trans (hb2.mono hB.out.size)
      have BC : Hid (Below w.heap.size w w2) := BB.out.trans (hb2.mono BB.out.size)
      have O2 := nrow_below O1.out B2.out
      clear hb2 c0 c1
      cases hr : M.rightB (hf (i * 2)) (hf (i * 2 + 1)) with
      | false =>
        have HC := Lib.hid (Nt.flCode_1 (n := n) (hn := hn) (hf := hf) h4 (fun k => by have h1 := k.ok i hlt; unfold Fq.R Nt.hd at h1; simp only at h1; rw [hr] at h1; cases h1))
        obtain ⟨⟨p0, p1, p2⟩, z0, z1, z2⟩ := rowN3 O2
        have lw2 : w.heap.size + 1 < w2.heap.size := O2.lt
        have HO2 := Lib.hid O2
        clear hr O2
        go_wp2_with fail
        obtain ⟨⟨x0, x1, x2⟩, _⟩ := rowN3 (OC.out 1 _ HO2.out)
        exact bodyPost_ret (v := noV none 0 0 0 1) (by simp [results, Tryz.results49, go_sem, x0, x1, x2]) rfl ⟨by rw [HC.out]; exact AnsF.bad (by decide), ((BC.out.setCell (p := ⟨w.heap.size + 1, 0, none⟩) (Nat.le_succ _) _).setCell (p := ⟨w.heap.size + 1, 1, none⟩) (Nat.le_succ _) _).setCell (p := ⟨w.heap.size + 1, 2, none⟩) (Nat.le_succ _) _⟩
      | true =>
        have HX := Lib.hid hr
        clear hr O2
        go_wp2_with fail
        go_roundw
        case rel =>
          refine ⟨i + 1, by omega, by go_num, B2, fun j hj => ?_⟩
          by_cases ej : j = i
          · subst ej; exact HX.out
          · exact hP.out j (by omega)
        case measure => simp [intOf]; omega
    · obtain rfl : hn = i := by omega
      have HF : Hid (Nt.FlFit n hn hf) := ⟨HR.out, HQ.out, hP.out⟩
      have hln := HF.out.r.ln
      have RR := Lib.hid (nrow_below R1.out hB.out)
      have OO := Lib.hid (nrow_below O1.out hB.out)
      have S0 : Hid (SpS n la lk fa fk wa wk wr.heap.size (wr.heap.size + 1) 0 (Nt.sfl n hf) (Nt.zAt n hf 0) (.slice none 0 0) w ((wr.alloc (.cells #[.int .i64 0] 59)).alloc (.cells #[.slice none 0 0, .int .i64 0, .int .i64 0] 30))) :=
        ⟨nrow_below (nrow_below RR.out (nbel_alloc _ _)) (nbel_alloc _ _), nrow_below (nrow_below OO.out (nbel_alloc _ _)) (nbel_alloc _ _), (BB.out.alloc BB.out.size _).alloc (by have := BB.out.size; simp; omega) _, nrow_below (rowN_alloc _ _ _) (nbel_alloc _ _), rowN_alloc' (by simp) _ _, World.ownsRow_nil _ _ _ _, by have := OO.out.lt; omega⟩
      obtain ⟨⟨r0, r1, r2, r3⟩, _⟩ := rowN4 RR.out
      have lz : w.heap.size + 1 < wr.heap.size := OO.out.lt
      clear hB hP RR OO R1 O1 B1 HQ
      go_wp2_with fail
      clear r0 r1 r2 r3
      generalize hgc : wr.heap.size = gc at *
      obtain ⟨go, hgo⟩ : ∃ go, go = gc + 1 := ⟨_, rfl⟩
      rw [← hgo] at S0 ⊢
      clear hgo
      go_loopw [8] (fun iv wr => ∃ (i : Nat), i ≤ n.ln ∧ iv = .int .i64 i ∧ ∃ v, Hid (SpS n la lk fa fk wa wk gc go i (Nt.sfl n hf) (Nt.zAt n hf i) v w wr)) (fun iv _ => n.ln - (intOf iv).toNat)
      case atStart => exact ⟨0, Nat.zero_le _, rfl, _, S0⟩
      case round =>
      obtain ⟨i, hi, rfl, v, hS⟩ := hrel
      clear S0
      obtain ⟨⟨r0, r1, r2, r3⟩, _⟩ := rowN4 hS.out.row
      have zw : w.heap.size < wr.heap.size := hS.out.row.lt
      by_cases hlt : i < n.ln
      case neg =>
        obtain rfl : i = n.ln := by omega
        obtain ⟨⟨p0, p1, p2⟩, z0, z1, z2⟩ := rowN3 hS.out.res
        obtain ⟨⟨q0, q1, q2⟩, _⟩ := rowN3 hS.out.ro
        have hnum := hS.out.num
        have zr : w.heap.size + 1 < wr.heap.size := hS.out.res.lt
        have zo : go < wr.heap.size := hS.out.ro.lt
        have zc : gc < wr.heap.size := hS.out.rc.lt
        have rc0 := hS.out.rc.cell (i := 0) (by omega)
        simp only [rowN, List.getD_cons_zero] at rc0
        by_cases hall : ∀ j, j < n.ln → Nt.flOk n hf j
        · have S5 := Lib.hid (hS.out.congr (Nt.zAt_ok n.ln hall) (fun j hj => Nt.sfl_ok (hall j hj)))
          rw [Nt.zAt_ok n.ln hall] at rc0
          have HC := Lib.hid (Nt.flCode_0 h4 HF.out hall)
          clear hall hS
          obtain ⟨a, c, hv, hL⟩ := fr_own S5.out.own
          subst hv
          have HL := Lib.hid hL
          clear hL
          go_wp2_with fail
          obtain ⟨⟨x0, x1, x2⟩, _⟩ := rowN3 (rowN_put (rowN_put (rowN_put S5.out.res 0 (.slice a n.ln c) (by simp)) 1 (.int .i64 0) (by simp)) 2 (.int .i64 0) (by simp))
          refine bodyPost_ret (v := noV a n.ln c 0 0) (by simp [results, Tryz.results49, go_sem, x0, x1, x2]) rfl ⟨⟨a, c, by rw [HC.out, if_pos rfl], ?_⟩, ?_⟩
          · rw [HC.out, if_pos rfl]
            refine LsOwn.low (HL.out.same (fun k h1 h2 => ?_)) (by omega)
            have hne : k ≠ w.heap.size + 1 := by omega
            exact (Below.heap_setCell _ ⟨w.heap.size + 1, 2, none⟩ _ _ hne).trans ((Below.heap_setCell _ ⟨w.heap.size + 1, 1, none⟩ _ _ hne).trans (Below.heap_setCell _ ⟨w.heap.size + 1, 0, none⟩ _ _ hne))
          · exact ((S5.out.old.setCell (p := ⟨w.heap.size + 1, 0, none⟩) (Nat.le_succ _) _).setCell (p := ⟨w.heap.size + 1, 1, none⟩) (Nat.le_succ _) _).setCell (p := ⟨w.heap.size + 1, 2, none⟩) (Nat.le_succ _) _
        · obtain ⟨j, hj⟩ := Classical.not_forall.1 hall
          obtain ⟨hj1, hj2⟩ := Classical.not_imp.1 hj
          rw [Nt.zAt_bad n.ln j hj1 hj2] at rc0
          have HC := Lib.hid (Nt.flCode_5 h4 HF.out hj1 hj2)
          clear hall hj hj1 hj2
          go_wp2_with fail
          obtain ⟨⟨x0, x1, x2⟩, _⟩ := rowN3 (OC.out 5 _ hS.out.res)
          exact bodyPost_ret (v := noV none 0 0 0 5) (by simp [results, Tryz.results49, go_sem, x0, x1, x2]) rfl ⟨by rw [HC.out]; exact AnsF.bad (by decide), ((hS.out.old.setCell (p := ⟨w.heap.size + 1, 0, none⟩) (Nat.le_succ _) _).setCell (p := ⟨w.heap.size + 1, 1, none⟩) (Nat.le_succ _) _).setCell (p := ⟨w.heap.size + 1, 2, none⟩) (Nat.le_succ _) _⟩
      have hltz : (i : Int) < (n.ln : Int) := by omega
      obtain ⟨b, e, c0, c1, c2⟩ := (HA.out.below hS.out.old).l.at3 hlt
      obtain ⟨ef, hfr⟩ := HF.out.r.fr hlt
      obtain ⟨et, htt⟩ := HF.out.r.tt hlt
      have hnn := HF.out.nn
      rw [ef] at c0
      rw [et] at c1
      obtain ⟨hb, eh, d0, d1⟩ := HH.out.at2 (i := Nt.fr n i) (by omega)
      obtain ⟨hb', eh', d2, d3⟩ := HH.out.at2 (i := Nt.tt n i) (by omega)
      obtain rfl : hb' = hb := by rw [eh] at eh'; cases eh'; rfl
      have zb : b < wr.heap.size := World.block_lt_of_cell? _ _ c0
      have zh : hb' < w.heap.size := World.block_lt_of_cell? _ _ d0
      subst e eh
      clear eh' ef et
      have D : Hid (w.cell? ⟨hb', Nt.fr n i * 2, none⟩ = some (.int .i64 (Nt.hd hf (Nt.fr n i)).1) ∧ w.cell? ⟨hb', Nt.fr n i * 2 + 1, none⟩ = some (.int .i64 (Nt.hd hf (Nt.fr n i)).2) ∧ w.cell? ⟨hb', Nt.tt n i * 2, none⟩ = some (.int .i64 (Nt.hd hf (Nt.tt n i)).1) ∧ w.cell? ⟨hb', Nt.tt n i * 2 + 1, none⟩ = some (.int .i64 (Nt.hd hf (Nt.tt n i)).2) ∧ hb' < w.heap.size) := ⟨d0, d1, d2, d3, zh⟩
      obtain ⟨W0, hW0⟩ : ∃ W0, W0 = wr.alloc (.cells #[.int .i64 (Nt.fr n i : Nat), .int .i64 (Nt.tt n i : Nat), .int .i64 (n.L (i * 3 + 2))] 68) := ⟨_, rfl⟩
      have SP : Hid (SpS n (some ⟨b, 0, none⟩) lk fa fk wa wk gc go i (Nt.sfl n hf) (Nt.zAt n hf i) v w W0) := by rw [hW0]; exact hS.out.below (nbel_alloc _ _)
      have RL : Hid (W0.rowIs wr.heap.size 68 3 (rowN [.int .i64 (Nt.fr n i : Nat), .int .i64 (Nt.tt n i : Nat), .int .i64 (n.L (i * 3 + 2))])) := by rw [hW0]; exact rowN_alloc wr _ _
      have GCL : Hid (gc < wr.heap.size) := hS.out.rc.lt
      have LO : Hid (go < wr.heap.size ∧ ∀ k, v.ownBlock = some k → k < wr.heap.size) := ⟨hS.out.ro.lt, fun k hk => (hS.out.own.lt k hk).2⟩
      have NM := Lib.hid hS.out.num
      have HW0 := Lib.hid hW0
      have hfz : (Nt.fr n i : Int) < (hn : Int) := by omega
      have htz : (Nt.tt n i : Int) < (hn : Int) := by omega
      clear d0 d1 d2 d3 hW0 hS zh hnn
      go_wp2_with fail
      rw [← HW0.out]
      clear c0 c1 c2 r0 r1 r2 r3 zb
      generalize wr.heap.size = gl at *
      go_cut [10] (fun p V => ∃ gb, p = .pointer (some ⟨gb, 0, none⟩) ∧ Hid (SpS n (some ⟨b, 0, none⟩) lk fa fk wa wk gc go i (Nt.sfl n hf) (Fq.tkz (Nt.dq n hf i) (Nt.zAt n hf i)) v w V ∧ V.rowIs gl 68 3 (rowN [.int .i64 (Nt.fr n i : Nat), .int .i64 (Nt.tt n i : Nat), .int .i64 (n.L (i * 3 + 2))]) ∧ V.rowIs gb 46 2 (rowN [.int .i64 (Fq.tkv (Nt.dq n hf i)).1, .int .i64 (Fq.tkv (Nt.dq n hf i)).2]) ∧ gl < gb))
      case first =>
        refine wp_region_held_drew (S := fun V => Below w.heap.size w V ∧ V.rowIs gl 68 3 (rowN [.int .i64 (Nt.fr n i : Nat), .int .i64 (Nt.tt n i : Nat), .int .i64 (n.L (i * 3 + 2))])) (by kernel_rfl) ⟨SP.out.old.drew, nrow_below RL.out (Below.refl _ _).drew⟩ (fun hHeld => ?_)
        obtain ⟨Z, hZ⟩ : ∃ Z, Z = W0.drew := ⟨_, rfl⟩
        replace SP := Lib.hid (SP.out.below (Below.refl _ _).drew)
        rw [← hZ] at hHeld SP ⊢
        clear hZ
        refine take_do (i := 0) (v := (.pointer (some ⟨gc, 0, none⟩))) rfl (by kernel_rfl) (by kernel_rfl) (by kernel_rfl) (fun _ _ _ h => h) (by rfl) ?_ (by assumption) ?_
        · intro w hSw
          skip
          go_simp
        simp only [Act.put, List.setIfInBounds_toArray, List.set_cons_zero, List.set_cons_succ]
        refine take_do (i := 1) (v := (.slice (some ⟨hb', 0, none⟩) hn hk)) rfl (by kernel_rfl) (by kernel_rfl) (by kernel_rfl) (fun _ _ _ h => h) (by rfl) ?_ (by assumption) ?_
        · intro w hSw
          skip
          go_simp
        simp only [Act.put, List.setIfInBounds_toArray, List.set_cons_zero, List.set_cons_succ]
        refine take_do (i := 2) (v := (.pointer (some ⟨gl, 0, none⟩))) rfl (by kernel_rfl) (by kernel_rfl) (by kernel_rfl) (fun _ _ _ h => h) (by rfl) ?_ (by assumption) ?_
        · intro w hSw
          skip
          go_simp
        simp only [Act.put, List.setIfInBounds_toArray, List.set_cons_zero, List.set_cons_succ]
        refine take_do (i := 3) (v := (.int .i64 (Nt.fr n i : Nat))) rfl (by kernel_rfl) (by kernel_rfl) (by kernel_rfl) (fun _ _ _ h => h) (by rfl) ?_ (by assumption) ?_
        · intro w hSw
          obtain ⟨⟨x0, x1, x2⟩, _⟩ := rowN3 hSw.2
          go_simp
        simp only [Act.put, List.setIfInBounds_toArray, List.set_cons_zero, List.set_cons_succ]
        refine take_do (i := 4) (v := (.pointer (some ⟨hb', Nt.fr n i * 2, none⟩))) rfl (by kernel_rfl) (by kernel_rfl) (by kernel_rfl) (fun _ _ _ h => h) (by rfl) ?_ (by assumption) ?_
        · intro w hSw
          skip
          go_simp
        simp only [Act.put, List.setIfInBounds_toArray, List.set_cons_zero, List.set_cons_succ]
        refine take_do (i := 5) (v := (frV (Nt.hd hf (Nt.fr n i)))) rfl (by kernel_rfl) (by kernel_rfl) (by kernel_rfl) (fun _ _ _ h => h) (by rfl) ?_ (by assumption) ?_
        · intro w hSw
          have y0 := (hSw.1.cell (p := ⟨hb', Nt.fr n i * 2, none⟩) D.out.2.2.2.2).trans D.out.1; have y1 := (hSw.1.cell (p := ⟨hb', Nt.fr n i * 2 + 1, none⟩) D.out.2.2.2.2).trans D.out.2.1; have y2 := (hSw.1.cell (p := ⟨hb', Nt.tt n i * 2, none⟩) D.out.2.2.2.2).trans D.out.2.2.1; have y3 := (hSw.1.cell (p := ⟨hb', Nt.tt n i * 2 + 1, none⟩) D.out.2.2.2.2).trans D.out.2.2.2.1
          go_simp
        simp only [Act.put, List.setIfInBounds_toArray, List.set_cons_zero, List.set_cons_succ]
        refine take_do (i := 6) (v := (.slice (some ⟨hb', 0, none⟩) hn hk)) rfl (by kernel_rfl) (by kernel_rfl) (by kernel_rfl) (fun _ _ _ h => h) (by rfl) ?_ (by assumption) ?_
        · intro w hSw
          skip
          go_simp
        simp only [Act.put, List.setIfInBounds_toArray, List.set_cons_zero, List.set_cons_succ]
        refine take_do (i := 7) (v := (.pointer (some ⟨gl, 1, none⟩))) rfl (by kernel_rfl) (by kernel_rfl) (by kernel_rfl) (fun _ _ _ h => h) (by rfl) ?_ (by assumption) ?_
        · intro w hSw
          skip
          go_simp
        simp only [Act.put, List.setIfInBounds_toArray, List.set_cons_zero, List.set_cons_succ]
        refine take_do (i := 8) (v := (.int .i64 (Nt.tt n i : Nat))) rfl (by kernel_rfl) (by kernel_rfl) (by kernel_rfl) (fun _ _ _ h => h) (by rfl) ?_ (by assumption) ?_
        · intro w hSw
          obtain ⟨⟨x0, x1, x2⟩, _⟩ := rowN3 hSw.2
          go_simp
        simp only [Act.put, List.setIfInBounds_toArray, List.set_cons_zero, List.set_cons_succ]
        refine take_do (i := 9) (v := (.pointer (some ⟨hb', Nt.tt n i * 2, none⟩))) rfl (by kernel_rfl) (by kernel_rfl) (by kernel_rfl) (fun _ _ _ h => h) (by rfl) ?_ (by assumption) ?_
        · intro w hSw
          skip
          go_simp
        simp only [Act.put, List.setIfInBounds_toArray, List.set_cons_zero, List.set_cons_succ]
        refine take_do (i := 10) (v := (frV (Nt.hd hf (Nt.tt n i)))) rfl (by kernel_rfl) (by kernel_rfl) (by kernel_rfl) (fun _ _ _ h => h) (by rfl) ?_ (by assumption) ?_
        · intro w hSw
          have y0 := (hSw.1.cell (p := ⟨hb', Nt.fr n i * 2, none⟩) D.out.2.2.2.2).trans D.out.1; have y1 := (hSw.1.cell (p := ⟨hb', Nt.fr n i * 2 + 1, none⟩) D.out.2.2.2.2).trans D.out.2.1; have y2 := (hSw.1.cell (p := ⟨hb', Nt.tt n i * 2, none⟩) D.out.2.2.2.2).trans D.out.2.2.1; have y3 := (hSw.1.cell (p := ⟨hb', Nt.tt n i * 2 + 1, none⟩) D.out.2.2.2.2).trans D.out.2.2.2.1
          go_simp
        simp only [Act.put, List.setIfInBounds_toArray, List.set_cons_zero, List.set_cons_succ]
        refine wpAnyH_ready (rs := [11, 13]) (by kernel_rfl) (by simp) (AllReadyH.cons (at_drop (i := 11) rfl) (fun K2 hK => ?_) (AllReadyH.cons (at_drop (i := 13) rfl) (fun K2 hK => ?_) (AllReadyH.nil)))
        · go_simp
          refine (nspecSub _ _ _ (HF.out.fr hlt) (HF.out.tt hlt)).mono ?_
          rintro e Z1 ⟨rfl, hb⟩
          replace SP := Lib.hid (SP.out.below hb)
          have hq := nrow_below hHeld.2 hb
          go_wp2_with fail
          refine hK.out _ _ ⟨SP.out.old, hq⟩ (fun hHeld2 => ?_)
          clear hK hHeld
          have hHeld := hHeld2
          clear hHeld2
          clear hb hq
          refine wpAnyH_ready (rs := [12, 13]) (by kernel_rfl) (by simp) (AllReadyH.cons (at_drop (i := 12) rfl) (fun K2 hK => ?_) (AllReadyH.cons (at_drop (i := 13) rfl) (fun K2 hK => ?_) (AllReadyH.nil)))
          · go_simp
            refine (take_any gc (Nt.dq n hf i) _ _ SP.out.rc).mono ?_
            rintro e Z2 ⟨rfl, hr, ho⟩
            replace SP := Lib.hid (SP.out.take hr ho)
            have hq := hHeld.2.of_block (ho.block _ hHeld.2.lt (by have h2 := GCL.out; omega))
            go_wp2_with fail
            refine hK.out _ _ ⟨SP.out.old, hq⟩ (fun hHeld2 => ?_)
            clear hK hHeld
            have hHeld := hHeld2
            clear hHeld2
            clear hr ho hq
            refine take_call (i := 13) rfl (by kernel_rfl) (fun K2 hK => ?_)
            obtain ⟨Z3, hZ3⟩ : ∃ Z3, Z3 = Z2.alloc (.cells #[.int .i64 0, .int .i64 0] 46) := ⟨_, rfl⟩
            have hb : Below Z2.heap.size Z2 Z3 := by rw [hZ3]; exact nbel_alloc _ _
            obtain ⟨gb, hgb⟩ : ∃ gb, gb = Z2.heap.size := ⟨_, rfl⟩
            have RZ : Hid (Z3.rowIs gb 46 2 (rowN [.int .i64 0, .int .i64 0])) := by show World.rowIs _ _ _ _ _; rw [hZ3, hgb]; exact rowN_alloc _ _ _
            have HGB : Hid (gl < gb) := by show _ < _; rw [hgb]; exact hHeld.2.lt
            replace SP := Lib.hid (SP.out.below hb)
            have hq := nrow_below hHeld.2 hb
            go_simp
            rw [← hZ3, ← hgb]
            refine hK.out _ _ ⟨SP.out.old, hq⟩ (fun hHeld2 => ?_)
            clear hK hHeld
            have hHeld := hHeld2
            clear hHeld2
            clear hb hq hZ3 hgb
            have o0 := RZ.out.cell (i := 0) (by omega)
            have o1 := RZ.out.cell (i := 1) (by omega)
            have z0 := RZ.out.frozen 0
            have z1 := RZ.out.frozen 1
            have l0 := RZ.out.lt
            obtain ⟨WZ, hWZ⟩ : ∃ WZ, WZ = (Z3.setCell ⟨gb, 0, none⟩ (.int .i64 (Fq.tkv (Nt.dq n hf i)).1)).setCell ⟨gb, 1, none⟩ (.int .i64 (Fq.tkv (Nt.dq n hf i)).2) := ⟨_, rfl⟩
            have same : ∀ k, k ≠ gb → WZ.heap[k]? = Z3.heap[k]? := fun k hk => by rw [hWZ]; exact (Below.heap_setCell _ ⟨gb, 1, none⟩ _ _ hk).trans (Below.heap_setCell _ ⟨gb, 0, none⟩ _ _ hk)
            have hgx := HGB.out
            have hbz : Below gl Z3 WZ := by rw [hWZ]; exact ((Below.refl _ _).setCell (p := ⟨gb, 0, none⟩) (by show gl ≤ gb; omega) _).setCell (p := ⟨gb, 1, none⟩) (by show gl ≤ gb; omega) _
            have SZ := Lib.hid (SP.out.belowG hbz LO.out)
            have HFM : Hid (WZ.rowIs gb 46 2 (rowN [.int .i64 (Fq.tkv (Nt.dq n hf i)).1, .int .i64 (Fq.tkv (Nt.dq n hf i)).2])) := by show World.rowIs _ _ _ _ _; rw [hWZ]; exact rowN_put (rowN_put RZ.out 0 _ (by simp)) 1 _ (by simp)
            have SL : Hid (WZ.rowIs gl 68 3 (rowN [.int .i64 (Nt.fr n i : Nat), .int .i64 (Nt.tt n i : Nat), .int .i64 (n.L (i * 3 + 2))])) := hHeld.2.of_block (same _ (by omega))
            have HWZ := Lib.hid hWZ
            clear hWZ same hbz
            refine take_call (i := 14) rfl (by kernel_rfl) (fun K2 hK => ?_)
            go_simp
            rw [← HWZ.out]
            refine hK.out _ _ ⟨SZ.out.old, SL.out⟩ (fun hHeld2 => ?_)
            clear hK hHeld hHeld2 HWZ o0 o1 z0 z1 l0 SP RZ
            refine wpAnyH_done (by kernel_rfl) ?_ _
            go_wp2_with fail
            go_meet
            case rel => exact ⟨gb, rfl, SZ.out, SL.out, HFM.out, HGB.out⟩
          · obtain ⟨Z4, hZ4⟩ : ∃ Z4, Z4 = Z1.alloc (.cells #[.int .i64 0, .int .i64 0] 46) := ⟨_, rfl⟩
            have hb : Below Z1.heap.size Z1 Z4 := by rw [hZ4]; exact nbel_alloc _ _
            obtain ⟨gb, hgb⟩ : ∃ gb, gb = Z1.heap.size := ⟨_, rfl⟩
            have RZ : Hid (Z4.rowIs gb 46 2 (rowN [.int .i64 0, .int .i64 0])) := by show World.rowIs _ _ _ _ _; rw [hZ4, hgb]; exact rowN_alloc _ _ _
            have HGB : Hid (gl < gb) := by show _ < _; rw [hgb]; exact hHeld.2.lt
            replace SP := Lib.hid (SP.out.below hb)
            have hq := nrow_below hHeld.2 hb
            go_simp
            rw [← hZ4, ← hgb]
            refine hK.out _ _ ⟨SP.out.old, hq⟩ (fun hHeld2 => ?_)
            clear hK hHeld
            have hHeld := hHeld2
            clear hHeld2
            clear hb hq hZ4 hgb
            refine take_call (i := 12) rfl (by kernel_rfl) (fun K2 hK => ?_)
            go_simp
            refine (take_any gc (Nt.dq n hf i) _ _ SP.out.rc).mono ?_
            rintro e Z5 ⟨rfl, hr, ho⟩
            replace RZ := Lib.hid (RZ.out.of_block (ho.block _ RZ.out.lt (by have h1 := HGB.out; have h2 := GCL.out; omega)))
            replace SP := Lib.hid (SP.out.take hr ho)
            have hq := hHeld.2.of_block (ho.block _ hHeld.2.lt (by have h2 := GCL.out; omega))
            go_wp2_with fail
            refine hK.out _ _ ⟨SP.out.old, hq⟩ (fun hHeld2 => ?_)
            clear hK hHeld
            have hHeld := hHeld2
            clear hHeld2
            clear hr ho hq
            have o0 := RZ.out.cell (i := 0) (by omega)
            have o1 := RZ.out.cell (i := 1) (by omega)
            have z0 := RZ.out.frozen 0
            have z1 := RZ.out.frozen 1
            have l0 := RZ.out.lt
            obtain ⟨WZ, hWZ⟩ : ∃ WZ, WZ = (Z5.setCell ⟨gb, 0, none⟩ (.int .i64 (Fq.tkv (Nt.dq n hf i)).1)).setCell ⟨gb, 1, none⟩ (.int .i64 (Fq.tkv (Nt.dq n hf i)).2) := ⟨_, rfl⟩
            have same : ∀ k, k ≠ gb → WZ.heap[k]? = Z5.heap[k]? := fun k hk => by rw [hWZ]; exact (Below.heap_setCell _ ⟨gb, 1, none⟩ _ _ hk).trans (Below.heap_setCell _ ⟨gb, 0, none⟩ _ _ hk)
            have hgx := HGB.out
            have hbz : Below gl Z5 WZ := by rw [hWZ]; exact ((Below.refl _ _).setCell (p := ⟨gb, 0, none⟩) (by show gl ≤ gb; omega) _).setCell (p := ⟨gb, 1, none⟩) (by show gl ≤ gb; omega) _
            have SZ := Lib.hid (SP.out.belowG hbz LO.out)
            have HFM : Hid (WZ.rowIs gb 46 2 (rowN [.int .i64 (Fq.tkv (Nt.dq n hf i)).1, .int .i64 (Fq.tkv (Nt.dq n hf i)).2])) := by show World.rowIs _ _ _ _ _; rw [hWZ]; exact rowN_put (rowN_put RZ.out 0 _ (by simp)) 1 _ (by simp)
            have SL : Hid (WZ.rowIs gl 68 3 (rowN [.int .i64 (Nt.fr n i : Nat), .int .i64 (Nt.tt n i : Nat), .int .i64 (n.L (i * 3 + 2))])) := hHeld.2.of_block (same _ (by omega))
            have HWZ := Lib.hid hWZ
            clear hWZ same hbz
            refine take_call (i := 14) rfl (by kernel_rfl) (fun K2 hK => ?_)
            go_simp
            rw [← HWZ.out]
            refine hK.out _ _ ⟨SZ.out.old, SL.out⟩ (fun hHeld2 => ?_)
            clear hK hHeld hHeld2 HWZ o0 o1 z0 z1 l0 SP RZ
            refine wpAnyH_done (by kernel_rfl) ?_ _
            go_wp2_with fail
            go_meet
            case rel => exact ⟨gb, rfl, SZ.out, SL.out, HFM.out, HGB.out⟩
        · obtain ⟨Z6, hZ6⟩ : ∃ Z6, Z6 = Z.alloc (.cells #[.int .i64 0, .int .i64 0] 46) := ⟨_, rfl⟩
          have hb : Below Z.heap.size Z Z6 := by rw [hZ6]; exact nbel_alloc _ _
          obtain ⟨gb, hgb⟩ : ∃ gb, gb = Z.heap.size := ⟨_, rfl⟩
          have RZ : Hid (Z6.rowIs gb 46 2 (rowN [.int .i64 0, .int .i64 0])) := by show World.rowIs _ _ _ _ _; rw [hZ6, hgb]; exact rowN_alloc _ _ _
          have HGB : Hid (gl < gb) := by show _ < _; rw [hgb]; exact hHeld.2.lt
          replace SP := Lib.hid (SP.out.below hb)
          have hq := nrow_below hHeld.2 hb
          go_simp
          rw [← hZ6, ← hgb]
          refine hK.out _ _ ⟨SP.out.old, hq⟩ (fun hHeld2 => ?_)
          clear hK hHeld
          have hHeld := hHeld2
          clear hHeld2
          clear hb hq hZ6 hgb
          refine take_call (i := 11) rfl (by kernel_rfl) (fun K2 hK => ?_)
          go_simp
          refine (nspecSub _ _ _ (HF.out.fr hlt) (HF.out.tt hlt)).mono ?_
          rintro e Z7 ⟨rfl, hb⟩
          replace SP := Lib.hid (SP.out.below hb)
          replace RZ := Lib.hid (nrow_below RZ.out hb)
          have hq := nrow_below hHeld.2 hb
          go_wp2_with fail
          refine hK.out _ _ ⟨SP.out.old, hq⟩ (fun hHeld2 => ?_)
          clear hK hHeld
          have hHeld := hHeld2
          clear hHeld2
          clear hb hq
          refine take_call (i := 12) rfl (by kernel_rfl) (fun K2 hK => ?_)
          go_simp
          refine (take_any gc (Nt.dq n hf i) _ _ SP.out.rc).mono ?_
          rintro e Z8 ⟨rfl, hr, ho⟩
          replace RZ := Lib.hid (RZ.out.of_block (ho.block _ RZ.out.lt (by have h1 := HGB.out; have h2 := GCL.out; omega)))
          replace SP := Lib.hid (SP.out.take hr ho)
          have hq := hHeld.2.of_block (ho.block _ hHeld.2.lt (by have h2 := GCL.out; omega))
          go_wp2_with fail
          refine hK.out _ _ ⟨SP.out.old, hq⟩ (fun hHeld2 => ?_)
          clear hK hHeld
          have hHeld := hHeld2
          clear hHeld2
          clear hr ho hq
          have o0 := RZ.out.cell (i := 0) (by omega)
          have o1 := RZ.out.cell (i := 1) (by omega)
          have z0 := RZ.out.frozen 0
          have z1 := RZ.out.frozen 1
          have l0 := RZ.out.lt
          obtain ⟨WZ, hWZ⟩ : ∃ WZ, WZ = (Z8.setCell ⟨gb, 0, none⟩ (.int .i64 (Fq.tkv (Nt.dq n hf i)).1)).setCell ⟨gb, 1, none⟩ (.int .i64 (Fq.tkv (Nt.dq n hf i)).2) := ⟨_, rfl⟩
          have same : ∀ k, k ≠ gb → WZ.heap[k]? = Z8.heap[k]? := fun k hk => by rw [hWZ]; exact (Below.heap_setCell _ ⟨gb, 1, none⟩ _ _ hk).trans (Below.heap_setCell _ ⟨gb, 0, none⟩ _ _ hk)
          have hgx := HGB.out
          have hbz : Below gl Z8 WZ := by rw [hWZ]; exact ((Below.refl _ _).setCell (p := ⟨gb, 0, none⟩) (by show gl ≤ gb; omega) _).setCell (p := ⟨gb, 1, none⟩) (by show gl ≤ gb; omega) _
          have SZ := Lib.hid (SP.out.belowG hbz LO.out)
          have HFM : Hid (WZ.rowIs gb 46 2 (rowN [.int .i64 (Fq.tkv (Nt.dq n hf i)).1, .int .i64 (Fq.tkv (Nt.dq n hf i)).2])) := by show World.rowIs _ _ _ _ _; rw [hWZ]; exact rowN_put (rowN_put RZ.out 0 _ (by simp)) 1 _ (by simp)
          have SL : Hid (WZ.rowIs gl 68 3 (rowN [.int .i64 (Nt.fr n i : Nat), .int .i64 (Nt.tt n i : Nat), .int .i64 (n.L (i * 3 + 2))])) := hHeld.2.of_block (same _ (by omega))
          have HWZ := Lib.hid hWZ
          clear hWZ same hbz
          refine take_call (i := 14) rfl (by kernel_rfl) (fun K2 hK => ?_)
          go_simp
          rw [← HWZ.out]
          refine hK.out _ _ ⟨SZ.out.old, SL.out⟩ (fun hHeld2 => ?_)
          clear hK hHeld hHeld2 HWZ o0 o1 z0 z1 l0 SP RZ
          refine wpAnyH_done (by kernel_rfl) ?_ _
          go_wp2_with fail
          go_meet
          case rel => exact ⟨gb, rfl, SZ.out, SL.out, HFM.out, HGB.out⟩
      case rest =>
        obtain ⟨gb, rfl, hC⟩ := hcut
        obtain ⟨V0, hV0⟩ : ∃ V0, V0 = wc := ⟨_, rfl⟩
        rw [← hV0] at hC ⊢
        clear hV0
        replace SP := Lib.hid hC.out.1
        have RL2 := Lib.hid hC.out.2.1
        have RB := Lib.hid hC.out.2.2.1
        have NUM : Hid (gc < go ∧ go < gl ∧ gl < gb) := ⟨NM.out.2, LO.out.1, hC.out.2.2.2⟩
        have OWL : Hid (∀ k, v.ownBlock = some k → k < gl) := LO.out.2
        have RD := Lib.hid (Fq.tkv_right (Fq.sub_fit (HF.out.fr hlt) (HF.out.tt hlt)))
        have GZ := Lib.hid (HF.out.r.l i hlt).2.2.2
        clear hC RL D HW0 LO NM GCL
        go_wp2_with fail
        refine wp_region_held_drew (S := fun V => V.rowIs gl 68 3 (rowN [.int .i64 (Nt.fr n i : Nat), .int .i64 (Nt.tt n i : Nat), .int .i64 (n.L (i * 3 + 2))]) ∧ V.rowIs gb 46 2 (rowN [.int .i64 (Fq.tkv (Nt.dq n hf i)).1, .int .i64 (Fq.tkv (Nt.dq n hf i)).2])) (by kernel_rfl) ⟨nrow_below RL2.out (Below.refl _ _).drew, nrow_below RB.out (Below.refl _ _).drew⟩ (fun hHeld => ?_)
        obtain ⟨Z, hZ⟩ : ∃ Z, Z = V0.drew := ⟨_, rfl⟩
        replace SP := Lib.hid (SP.out.below (Below.refl _ _).drew)
        rw [← hZ] at hHeld SP ⊢
        clear hZ
        refine take_do (i := 0) (v := (.pointer (some ⟨go, 0, none⟩))) rfl (by kernel_rfl) (by kernel_rfl) (by kernel_rfl) (fun _ _ _ h => h) (by rfl) ?_ (by assumption) ?_
        · intro w hSw
          skip
          go_simp
        simp only [Act.put, List.setIfInBounds_toArray, List.set_cons_zero, List.set_cons_succ]
        refine take_do (i := 2) (v := (.pointer (some ⟨gc, 0, none⟩))) rfl (by kernel_rfl) (by kernel_rfl) (by kernel_rfl) (fun _ _ _ h => h) (by rfl) ?_ (by assumption) ?_
        · intro w hSw
          skip
          go_simp
        simp only [Act.put, List.setIfInBounds_toArray, List.set_cons_zero, List.set_cons_succ]
        refine take_do (i := 3) (v := (.pointer (some ⟨gc, 0, none⟩))) rfl (by kernel_rfl) (by kernel_rfl) (by kernel_rfl) (fun _ _ _ h => h) (by rfl) ?_ (by assumption) ?_
        · intro w hSw
          skip
          go_simp
        simp only [Act.put, List.setIfInBounds_toArray, List.set_cons_zero, List.set_cons_succ]
        refine take_do (i := 4) (v := (.pointer (some ⟨gl, 2, none⟩))) rfl (by kernel_rfl) (by kernel_rfl) (by kernel_rfl) (fun _ _ _ h => h) (by rfl) ?_ (by assumption) ?_
        · intro w hSw
          skip
          go_simp
        simp only [Act.put, List.setIfInBounds_toArray, List.set_cons_zero, List.set_cons_succ]
        refine take_do (i := 5) (v := (.int .i64 (n.L (i * 3 + 2)))) rfl (by kernel_rfl) (by kernel_rfl) (by kernel_rfl) (fun _ _ _ h => h) (by rfl) ?_ (by assumption) ?_
        · intro w hSw
          obtain ⟨⟨x0, x1, x2⟩, _⟩ := rowN3 hSw.1
          go_simp
        simp only [Act.put, List.setIfInBounds_toArray, List.set_cons_zero, List.set_cons_succ]
        refine take_do (i := 8) (v := (frV (Fq.tkv (Nt.dq n hf i)))) rfl (by kernel_rfl) (by kernel_rfl) (by kernel_rfl) (fun _ _ _ h => h) (by rfl) ?_ (by assumption) ?_
        · intro w hSw
          obtain ⟨⟨y0, y1⟩, _⟩ := rowN2 hSw.2
          go_simp
        simp only [Act.put, List.setIfInBounds_toArray, List.set_cons_zero, List.set_cons_succ]
        refine wpAnyH_ready (rs := [1, 6]) (by kernel_rfl) (by simp) (AllReadyH.cons (at_drop (i := 1) rfl) (fun K2 hK => ?_) (AllReadyH.cons (at_drop (i := 6) rfl) (fun K2 hK => ?_) (AllReadyH.nil)))
        · have o0 := SP.out.ro.cell (i := 0) (by omega)
          simp only [rowN, List.getD_cons_zero] at o0
          go_simp
          refine hK.out _ _ hHeld (fun hHeld2 => ?_)
          clear hK hHeld
          have hHeld := hHeld2
          clear hHeld2
          clear o0
          refine take_call (i := 6) rfl (by kernel_rfl) (fun K2 hK => ?_)
          go_simp
          refine (specOf_any (n.L (i * 3 + 2)) 1 _ (by have := GZ.out; omega) (by have := GZ.out; omega) (by omega) (by omega)).mono ?_
          rintro e Z10 ⟨rfl, hb⟩
          replace SP := Lib.hid (SP.out.below hb)
          have hq := And.intro (nrow_below hHeld.1 hb) (nrow_below hHeld.2 hb)
          go_wp2_with fail
          refine hK.out _ _ hq (fun hHeld2 => ?_)
          clear hK hHeld
          have hHeld := hHeld2
          clear hHeld2
          clear hb hq
          refine take_call (i := 7) rfl (by kernel_rfl) (fun K2 hK => ?_)
          go_simp
          refine (take_of gc _ _ _ (by have := GZ.out; omega) (by have := GZ.out; omega) SP.out.rc).mono ?_
          rintro e Z11 ⟨rfl, hr, ho⟩
          have hq := And.intro (hHeld.1.of_block (ho.block _ hHeld.1.lt (by have h1 := NUM.out; omega))) (hHeld.2.of_block (ho.block _ hHeld.2.lt (by have h1 := NUM.out; omega)))
          replace SP := Lib.hid (SP.out.take hr ho)
          go_wp2_with fail
          refine hK.out _ _ hq (fun hHeld2 => ?_)
          clear hK hHeld
          have hHeld := hHeld2
          clear hHeld2
          clear hr ho hq
          refine take_call (i := 9) rfl (by kernel_rfl) (fun K2 hK => ?_)
          go_simp
          refine (nspecMul (Nt.gq n i) _ _ (Nt.gq_right HF.out.r hlt) RD.out).mono ?_
          rintro e Z12 ⟨rfl, hb⟩
          replace SP := Lib.hid (SP.out.below hb)
          have hq := And.intro (nrow_below hHeld.1 hb) (nrow_below hHeld.2 hb)
          go_wp2_with fail
          refine hK.out _ _ hq (fun hHeld2 => ?_)
          clear hK hHeld
          have hHeld := hHeld2
          clear hHeld2
          clear hb hq
          refine take_call (i := 10) rfl (by kernel_rfl) (fun K2 hK => ?_)
          go_simp
          refine (take_any gc (Nt.smq n hf i) _ _ SP.out.rc).mono ?_
          rintro e Z13 ⟨rfl, hr, ho⟩
          have hq := And.intro (hHeld.1.of_block (ho.block _ hHeld.1.lt (by have h1 := NUM.out; omega))) (hHeld.2.of_block (ho.block _ hHeld.2.lt (by have h1 := NUM.out; omega)))
          replace SP := Lib.hid (SP.out.take hr ho)
          go_wp2_with fail
          refine hK.out _ _ hq (fun hHeld2 => ?_)
          clear hK hHeld
          have hHeld := hHeld2
          clear hHeld2
          clear hr ho hq
          refine take_call (i := 11) rfl (by kernel_rfl) (fun K2 hK => ?_)
          obtain ⟨Z14, hZ14⟩ : ∃ Z14, Z14 = Z13.alloc (.cells #[.int .i64 (Fq.tkv (Nt.smq n hf i)).1, .int .i64 (Fq.tkv (Nt.smq n hf i)).2] 46) := ⟨_, rfl⟩
          have hb : Below Z13.heap.size Z13 Z14 := by rw [hZ14]; exact nbel_alloc _ _
          obtain ⟨gx, hgx⟩ : ∃ gx, gx = Z13.heap.size := ⟨_, rfl⟩
          have RX : Hid (Z14.rowIs gx 46 2 (rowN [.int .i64 (Fq.tkv (Nt.smq n hf i)).1, .int .i64 (Fq.tkv (Nt.smq n hf i)).2])) := by show World.rowIs _ _ _ _ _; rw [hZ14, hgx]; exact rowN_alloc _ _ _
          replace SP := Lib.hid (SP.out.below hb)
          have hq := And.intro (nrow_below hHeld.1 hb) (nrow_below hHeld.2 hb)
          go_simp
          rw [← hZ14, ← hgx]
          refine hK.out _ _ hq (fun hHeld2 => ?_)
          clear hK hHeld
          have hHeld := hHeld2
          clear hHeld2
          clear hb hq hZ14 hgx
          refine take_call (i := 12) rfl (by kernel_rfl) (fun K2 hK => ?_)
          obtain ⟨i1, hi1, hy0, hy1, hy2⟩ := info_parts ninfo_fr
          have HO0 := Lib.hid SP.out.own
          have hsz := SP.out.ro.lt
          refine step_append_lies _ rfl (.tmp 68) (.tmp 78) 28 rfl (go + 1) 46 i1 (.agg #[.int .i64 0, .int .i64 0]) 2 16 Tryz.underlying28 hi1 hy0 hy1 hy2 rfl (by decide) v i _ rfl HO0.out ⟨gx, 0, none⟩ 1 1 [.int .i64 (Fq.tkv (Nt.smq n hf i)).1, .int .i64 (Fq.tkv (Nt.smq n hf i)).2] rfl rfl ?_ ?_ (by omega) (by unfold maxLen; omega) (by omega) (by omega) _ rfl ?_
          · intro j u hj
            match j, hj with
            | 0, hj => (simp at hj; subst hj; have := RX.out.cell (i := 0) (by omega); simpa [Addr.add, rowN] using this)
            | 1, hj => (simp at hj; subst hj; have := RX.out.cell (i := 1) (by omega); simpa [Addr.add, rowN] using this)
          · intro u hu
            simp at hu
            rcases hu with rfl | rfl <;> rfl
          intro g cap Z15 hown hgrow hat hlt3
          have hown2 : Z15.ownsRow (go + 1) 46 2 (.slice (some ⟨g, 0, none⟩) (i + 1) cap) (i + 1) (frVs (Nt.sfl n hf) (i + 1)) := by rw [frVs_succ]; exact hown
          have SQ : Hid (Z15.rowIs go 30 3 (rowN [v, .int .i64 0, .int .i64 0]) ∧ SpS n (some ⟨b, 0, none⟩) lk fa fk wa wk gc go (i + 1) (Nt.sfl n hf) (Fq.tkz (Nt.smq n hf i) (Fq.tkz (Nt.dq n hf i) (Nt.zAt n hf i))) (.slice (some ⟨g, 0, none⟩) (i + 1) cap) w (Z15.setCell ⟨go, 0, none⟩ (.slice (some ⟨g, 0, none⟩) (i + 1) cap))) := ⟨SP.out.ro.of_block (hgrow.block _ SP.out.ro.lt (fun e => by have := (SP.out.own.lt _ e.symm).1; omega)), SP.out.grow hown2 hgrow⟩
          have hq := And.intro (hHeld.1.of_block (hgrow.block _ hHeld.1.lt (fun e => by have h1 := OWL.out _ e.symm; omega))) (hHeld.2.of_block (hgrow.block _ hHeld.2.lt (fun e => by have h1 := OWL.out _ e.symm; have h2 := NUM.out; omega)))
          refine hK.out _ _ hq (fun hHeld2 => ?_)
          clear hK hHeld
          have hHeld := hHeld2
          clear hHeld2
          clear hq hown hown2 hgrow hat hlt3 SP HO0 hsz RX
          simp only [Act.put, List.setIfInBounds_toArray, List.set_cons_zero, List.set_cons_succ]
          refine take_do (i := 13) (v := (.pointer (some ⟨go, 0, none⟩))) rfl (by kernel_rfl) (by kernel_rfl) (by kernel_rfl) (fun _ _ _ h => h) (by rfl) ?_ (by assumption) ?_
          · intro w hSw
            skip
            go_simp
          simp only [Act.put, List.setIfInBounds_toArray, List.set_cons_zero, List.set_cons_succ]
          have RO := SQ.out.1
          have o0 := RO.cell (i := 0) (by omega)
          have z0 := RO.frozen 0
          have l0 := RO.lt
          obtain ⟨WZ, hWZ⟩ : ∃ WZ, WZ = Z15.setCell ⟨go, 0, none⟩ (.slice (some ⟨g, 0, none⟩) (i + 1) cap) := ⟨_, rfl⟩
          have SZ : Hid (SpS n (some ⟨b, 0, none⟩) lk fa fk wa wk gc go (i + 1) (Nt.sfl n hf) (Fq.tkz (Nt.smq n hf i) (Fq.tkz (Nt.dq n hf i) (Nt.zAt n hf i))) (.slice (some ⟨g, 0, none⟩) (i + 1) cap) w WZ) := by rw [hWZ]; exact SQ.out.2
          have hq : (fun V => V.rowIs gl 68 3 (rowN [.int .i64 (Nt.fr n i : Nat), .int .i64 (Nt.tt n i : Nat), .int .i64 (n.L (i * 3 + 2))]) ∧ V.rowIs gb 46 2 (rowN [.int .i64 (Fq.tkv (Nt.dq n hf i)).1, .int .i64 (Fq.tkv (Nt.dq n hf i)).2])) WZ := by rw [hWZ]; exact And.intro (nrow_set hHeld.1 (p := ⟨go, 0, none⟩) (by have h1 := NUM.out; show gl ≠ go; omega) _) (nrow_set hHeld.2 (p := ⟨go, 0, none⟩) (by have h1 := NUM.out; show gb ≠ go; omega) _)
          have HWZ := Lib.hid hWZ
          clear hWZ RO
          refine take_call (i := 14) rfl (by kernel_rfl) (fun K2 hK => ?_)
          go_simp
          rw [← HWZ.out]
          refine hK.out _ _ hq (fun hHeld2 => ?_)
          clear hK hHeld hHeld2 HWZ o0 z0 l0 SQ hq
          refine wpAnyH_done (by kernel_rfl) ?_ _
          go_wp2_with fail
          go_roundw
          case rel => exact ⟨i + 1, by omega, by go_num, _, SZ⟩
          case measure => simp [intOf]; omega
        · go_simp
          refine (specOf_any (n.L (i * 3 + 2)) 1 _ (by have := GZ.out; omega) (by have := GZ.out; omega) (by omega) (by omega)).mono ?_
          rintro e Z16 ⟨rfl, hb⟩
          replace SP := Lib.hid (SP.out.below hb)
          have hq := And.intro (nrow_below hHeld.1 hb) (nrow_below hHeld.2 hb)
          go_wp2_with fail
          refine hK.out _ _ hq (fun hHeld2 => ?_)
          clear hK hHeld
          have hHeld := hHeld2
          clear hHeld2
          clear hb hq
          refine wpAnyH_ready (rs := [1, 7]) (by kernel_rfl) (by simp) (AllReadyH.cons (at_drop (i := 1) rfl) (fun K2 hK => ?_) (AllReadyH.cons (at_drop (i := 7) rfl) (fun K2 hK => ?_) (AllReadyH.nil)))
          · have o0 := SP.out.ro.cell (i := 0) (by omega)
            simp only [rowN, List.getD_cons_zero] at o0
            go_simp
            refine hK.out _ _ hHeld (fun hHeld2 => ?_)
            clear hK hHeld
            have hHeld := hHeld2
            clear hHeld2
            clear o0
            refine take_call (i := 7) rfl (by kernel_rfl) (fun K2 hK => ?_)
            go_simp
            refine (take_of gc _ _ _ (by have := GZ.out; omega) (by have := GZ.out; omega) SP.out.rc).mono ?_
            rintro e Z18 ⟨rfl, hr, ho⟩
            have hq := And.intro (hHeld.1.of_block (ho.block _ hHeld.1.lt (by have h1 := NUM.out; omega))) (hHeld.2.of_block (ho.block _ hHeld.2.lt (by have h1 := NUM.out; omega)))
            replace SP := Lib.hid (SP.out.take hr ho)
            go_wp2_with fail
            refine hK.out _ _ hq (fun hHeld2 => ?_)
            clear hK hHeld
            have hHeld := hHeld2
            clear hHeld2
            clear hr ho hq
            refine take_call (i := 9) rfl (by kernel_rfl) (fun K2 hK => ?_)
            go_simp
            refine (nspecMul (Nt.gq n i) _ _ (Nt.gq_right HF.out.r hlt) RD.out).mono ?_
            rintro e Z19 ⟨rfl, hb⟩
            replace SP := Lib.hid (SP.out.below hb)
            have hq := And.intro (nrow_below hHeld.1 hb) (nrow_below hHeld.2 hb)
            go_wp2_with fail
            refine hK.out _ _ hq (fun hHeld2 => ?_)
            clear hK hHeld
            have hHeld := hHeld2
            clear hHeld2
            clear hb hq
            refine take_call (i := 10) rfl (by kernel_rfl) (fun K2 hK => ?_)
            go_simp
            refine (take_any gc (Nt.smq n hf i) _ _ SP.out.rc).mono ?_
            rintro e Z20 ⟨rfl, hr, ho⟩
            have hq := And.intro (hHeld.1.of_block (ho.block _ hHeld.1.lt (by have h1 := NUM.out; omega))) (hHeld.2.of_block (ho.block _ hHeld.2.lt (by have h1 := NUM.out; omega)))
            replace SP := Lib.hid (SP.out.take hr ho)
            go_wp2_with fail
            refine hK.out _ _ hq (fun hHeld2 => ?_)
            clear hK hHeld
            have hHeld := hHeld2
            clear hHeld2
            clear hr ho hq
            refine take_call (i := 11) rfl (by kernel_rfl) (fun K2 hK => ?_)
            obtain ⟨Z21, hZ21⟩ : ∃ Z21, Z21 = Z20.alloc (.cells #[.int .i64 (Fq.tkv (Nt.smq n hf i)).1, .int .i64 (Fq.tkv (Nt.smq n hf i)).2] 46) := ⟨_, rfl⟩
            have hb : Below Z20.heap.size Z20 Z21 := by rw [hZ21]; exact nbel_alloc _ _
            obtain ⟨gx, hgx⟩ : ∃ gx, gx = Z20.heap.size := ⟨_, rfl⟩
            have RX : Hid (Z21.rowIs gx 46 2 (rowN [.int .i64 (Fq.tkv (Nt.smq n hf i)).1, .int .i64 (Fq.tkv (Nt.smq n hf i)).2])) := by show World.rowIs _ _ _ _ _; rw [hZ21, hgx]; exact rowN_alloc _ _ _
            replace SP := Lib.hid (SP.out.below hb)
            have hq := And.intro (nrow_below hHeld.1 hb) (nrow_below hHeld.2 hb)
            go_simp
            rw [← hZ21, ← hgx]
            refine hK.out _ _ hq (fun hHeld2 => ?_)
            clear hK hHeld
            have hHeld := hHeld2
            clear hHeld2
            clear hb hq hZ21 hgx
            refine take_call (i := 12) rfl (by kernel_rfl) (fun K2 hK => ?_)
            obtain ⟨i1, hi1, hy0, hy1, hy2⟩ := info_parts ninfo_fr
            have HO0 := Lib.hid SP.out.own
            have hsz := SP.out.ro.lt
            refine step_append_lies _ rfl (.tmp 68) (.tmp 78) 28 rfl (go + 1) 46 i1 (.agg #[.int .i64 0, .int .i64 0]) 2 16 Tryz.underlying28 hi1 hy0 hy1 hy2 rfl (by decide) v i _ rfl HO0.out ⟨gx, 0, none⟩ 1 1 [.int .i64 (Fq.tkv (Nt.smq n hf i)).1, .int .i64 (Fq.tkv (Nt.smq n hf i)).2] rfl rfl ?_ ?_ (by omega) (by unfold maxLen; omega) (by omega) (by omega) _ rfl ?_
            · intro j u hj
              match j, hj with
              | 0, hj => (simp at hj; subst hj; have := RX.out.cell (i := 0) (by omega); simpa [Addr.add, rowN] using this)
              | 1, hj => (simp at hj; subst hj; have := RX.out.cell (i := 1) (by omega); simpa [Addr.add, rowN] using this)
            · intro u hu
              simp at hu
              rcases hu with rfl | rfl <;> rfl
            intro g cap Z22 hown hgrow hat hlt3
            have hown2 : Z22.ownsRow (go + 1) 46 2 (.slice (some ⟨g, 0, none⟩) (i + 1) cap) (i + 1) (frVs (Nt.sfl n hf) (i + 1)) := by rw [frVs_succ]; exact hown
            have SQ : Hid (Z22.rowIs go 30 3 (rowN [v, .int .i64 0, .int .i64 0]) ∧ SpS n (some ⟨b, 0, none⟩) lk fa fk wa wk gc go (i + 1) (Nt.sfl n hf) (Fq.tkz (Nt.smq n hf i) (Fq.tkz (Nt.dq n hf i) (Nt.zAt n hf i))) (.slice (some ⟨g, 0, none⟩) (i + 1) cap) w (Z22.setCell ⟨go, 0, none⟩ (.slice (some ⟨g, 0, none⟩) (i + 1) cap))) := ⟨SP.out.ro.of_block (hgrow.block _ SP.out.ro.lt (fun e => by have := (SP.out.own.lt _ e.symm).1; omega)), SP.out.grow hown2 hgrow⟩
            have hq := And.intro (hHeld.1.of_block (hgrow.block _ hHeld.1.lt (fun e => by have h1 := OWL.out _ e.symm; omega))) (hHeld.2.of_block (hgrow.block _ hHeld.2.lt (fun e => by have h1 := OWL.out _ e.symm; have h2 := NUM.out; omega)))
            refine hK.out _ _ hq (fun hHeld2 => ?_)
            clear hK hHeld
            have hHeld := hHeld2
            clear hHeld2
            clear hq hown hown2 hgrow hat hlt3 SP HO0 hsz RX
            simp only [Act.put, List.setIfInBounds_toArray, List.set_cons_zero, List.set_cons_succ]
            refine take_do (i := 13) (v := (.pointer (some ⟨go, 0, none⟩))) rfl (by kernel_rfl) (by kernel_rfl) (by kernel_rfl) (fun _ _ _ h => h) (by rfl) ?_ (by assumption) ?_
            · intro w hSw
              skip
              go_simp
            simp only [Act.put, List.setIfInBounds_toArray, List.set_cons_zero, List.set_cons_succ]
            have RO := SQ.out.1
            have o0 := RO.cell (i := 0) (by omega)
            have z0 := RO.frozen 0
            have l0 := RO.lt
            obtain ⟨WZ, hWZ⟩ : ∃ WZ, WZ = Z22.setCell ⟨go, 0, none⟩ (.slice (some ⟨g, 0, none⟩) (i + 1) cap) := ⟨_, rfl⟩
            have SZ : Hid (SpS n (some ⟨b, 0, none⟩) lk fa fk wa wk gc go (i + 1) (Nt.sfl n hf) (Fq.tkz (Nt.smq n hf i) (Fq.tkz (Nt.dq n hf i) (Nt.zAt n hf i))) (.slice (some ⟨g, 0, none⟩) (i + 1) cap) w WZ) := by rw [hWZ]; exact SQ.out.2
            have hq : (fun V => V.rowIs gl 68 3 (rowN [.int .i64 (Nt.fr n i : Nat), .int .i64 (Nt.tt n i : Nat), .int .i64 (n.L (i * 3 + 2))]) ∧ V.rowIs gb 46 2 (rowN [.int .i64 (Fq.tkv (Nt.dq n hf i)).1, .int .i64 (Fq.tkv (Nt.dq n hf i)).2])) WZ := by rw [hWZ]; exact And.intro (nrow_set hHeld.1 (p := ⟨go, 0, none⟩) (by have h1 := NUM.out; show gl ≠ go; omega) _) (nrow_set hHeld.2 (p := ⟨go, 0, none⟩) (by have h1 := NUM.out; show gb ≠ go; omega) _)
            have HWZ := Lib.hid hWZ
            clear hWZ RO
            refine take_call (i := 14) rfl (by kernel_rfl) (fun K2 hK => ?_)
            go_simp
            rw [← HWZ.out]
            refine hK.out _ _ hq (fun hHeld2 => ?_)
            clear hK hHeld hHeld2 HWZ o0 z0 l0 SQ hq
            refine wpAnyH_done (by kernel_rfl) ?_ _
            go_wp2_with fail
            go_roundw
            case rel => exact ⟨i + 1, by omega, by go_num, _, SZ⟩
            case measure => simp [intOf]; omega
          · go_simp
            refine (take_of gc _ _ _ (by have := GZ.out; omega) (by have := GZ.out; omega) SP.out.rc).mono ?_
            rintro e Z23 ⟨rfl, hr, ho⟩
            have hq := And.intro (hHeld.1.of_block (ho.block _ hHeld.1.lt (by have h1 := NUM.out; omega))) (hHeld.2.of_block (ho.block _ hHeld.2.lt (by have h1 := NUM.out; omega)))
            replace SP := Lib.hid (SP.out.take hr ho)
            go_wp2_with fail
            refine hK.out _ _ hq (fun hHeld2 => ?_)
            clear hK hHeld
            have hHeld := hHeld2
            clear hHeld2
            clear hr ho hq
            refine wpAnyH_ready (rs := [1, 9]) (by kernel_rfl) (by simp) (AllReadyH.cons (at_drop (i := 1) rfl) (fun K2 hK => ?_) (AllReadyH.cons (at_drop (i := 9) rfl) (fun K2 hK => ?_) (AllReadyH.nil)))
            · have o0 := SP.out.ro.cell (i := 0) (by omega)
              simp only [rowN, List.getD_cons_zero] at o0
              go_simp
              refine hK.out _ _ hHeld (fun hHeld2 => ?_)
              clear hK hHeld
              have hHeld := hHeld2
              clear hHeld2
              clear o0
              refine take_call (i := 9) rfl (by kernel_rfl) (fun K2 hK => ?_)
              go_simp
              refine (nspecMul (Nt.gq n i) _ _ (Nt.gq_right HF.out.r hlt) RD.out).mono ?_
              rintro e Z25 ⟨rfl, hb⟩
              replace SP := Lib.hid (SP.out.below hb)
              have hq := And.intro (nrow_below hHeld.1 hb) (nrow_below hHeld.2 hb)
              go_wp2_with fail
              refine hK.out _ _ hq (fun hHeld2 => ?_)
              clear hK hHeld
              have hHeld := hHeld2
              clear hHeld2
              clear hb hq
              refine take_call (i := 10) rfl (by kernel_rfl) (fun K2 hK => ?_)
              go_simp
              refine (take_any gc (Nt.smq n hf i) _ _ SP.out.rc).mono ?_
              rintro e Z26 ⟨rfl, hr, ho⟩
              have hq := And.intro (hHeld.1.of_block (ho.block _ hHeld.1.lt (by have h1 := NUM.out; omega))) (hHeld.2.of_block (ho.block _ hHeld.2.lt (by have h1 := NUM.out; omega)))
              replace SP := Lib.hid (SP.out.take hr ho)
              go_wp2_with fail
              refine hK.out _ _ hq (fun hHeld2 => ?_)
              clear hK hHeld
              have hHeld := hHeld2
              clear hHeld2
              clear hr ho hq
              refine take_call (i := 11) rfl (by kernel_rfl) (fun K2 hK => ?_)
              obtain ⟨Z27, hZ27⟩ : ∃ Z27, Z27 = Z26.alloc (.cells #[.int .i64 (Fq.tkv (Nt.smq n hf i)).1, .int .i64 (Fq.tkv (Nt.smq n hf i)).2] 46) := ⟨_, rfl⟩
              have hb : Below Z26.heap.size Z26 Z27 := by rw [hZ27]; exact nbel_alloc _ _
              obtain ⟨gx, hgx⟩ : ∃ gx, gx = Z26.heap.size := ⟨_, rfl⟩
              have RX : Hid (Z27.rowIs gx 46 2 (rowN [.int .i64 (Fq.tkv (Nt.smq n hf i)).1, .int .i64 (Fq.tkv (Nt.smq n hf i)).2])) := by show World.rowIs _ _ _ _ _; rw [hZ27, hgx]; exact rowN_alloc _ _ _
              replace SP := Lib.hid (SP.out.below hb)
              have hq := And.intro (nrow_below hHeld.1 hb) (nrow_below hHeld.2 hb)
              go_simp
              rw [← hZ27, ← hgx]
              refine hK.out _ _ hq (fun hHeld2 => ?_)
              clear hK hHeld
              have hHeld := hHeld2
              clear hHeld2
              clear hb hq hZ27 hgx
              refine take_call (i := 12) rfl (by kernel_rfl) (fun K2 hK => ?_)
              obtain ⟨i1, hi1, hy0, hy1, hy2⟩ := info_parts ninfo_fr
              have HO0 := Lib.hid SP.out.own
              have hsz := SP.out.ro.lt
              refine step_append_lies _ rfl (.tmp 68) (.tmp 78) 28 rfl (go + 1) 46 i1 (.agg #[.int .i64 0, .int .i64 0]) 2 16 Tryz.underlying28 hi1 hy0 hy1 hy2 rfl (by decide) v i _ rfl HO0.out ⟨gx, 0, none⟩ 1 1 [.int .i64 (Fq.tkv (Nt.smq n hf i)).1, .int .i64 (Fq.tkv (Nt.smq n hf i)).2] rfl rfl ?_ ?_ (by omega) (by unfold maxLen; omega) (by omega) (by omega) _ rfl ?_
              · intro j u hj
                match j, hj with
                | 0, hj => (simp at hj; subst hj; have := RX.out.cell (i := 0) (by omega); simpa [Addr.add, rowN] using this)
                | 1, hj => (simp at hj; subst hj; have := RX.out.cell (i := 1) (by omega); simpa [Addr.add, rowN] using this)
              · intro u hu
                simp at hu
                rcases hu with rfl | rfl <;> rfl
              intro g cap Z28 hown hgrow hat hlt3
              have hown2 : Z28.ownsRow (go + 1) 46 2 (.slice (some ⟨g, 0, none⟩) (i + 1) cap) (i + 1) (frVs (Nt.sfl n hf) (i + 1)) := by rw [frVs_succ]; exact hown
              have SQ : Hid (Z28.rowIs go 30 3 (rowN [v, .int .i64 0, .int .i64 0]) ∧ SpS n (some ⟨b, 0, none⟩) lk fa fk wa wk gc go (i + 1) (Nt.sfl n hf) (Fq.tkz (Nt.smq n hf i) (Fq.tkz (Nt.dq n hf i) (Nt.zAt n hf i))) (.slice (some ⟨g, 0, none⟩) (i + 1) cap) w (Z28.setCell ⟨go, 0, none⟩ (.slice (some ⟨g, 0, none⟩) (i + 1) cap))) := ⟨SP.out.ro.of_block (hgrow.block _ SP.out.ro.lt (fun e => by have := (SP.out.own.lt _ e.symm).1; omega)), SP.out.grow hown2 hgrow⟩
              have hq := And.intro (hHeld.1.of_block (hgrow.block _ hHeld.1.lt (fun e => by have h1 := OWL.out _ e.symm; omega))) (hHeld.2.of_block (hgrow.block _ hHeld.2.lt (fun e => by have h1 := OWL.out _ e.symm; have h2 := NUM.out; omega)))
              refine hK.out _ _ hq (fun hHeld2 => ?_)
              clear hK hHeld
              have hHeld := hHeld2
              clear hHeld2
              clear hq hown hown2 hgrow hat hlt3 SP HO0 hsz RX
              simp only [Act.put, List.setIfInBounds_toArray, List.set_cons_zero, List.set_cons_succ]
              refine take_do (i := 13) (v := (.pointer (some ⟨go, 0, none⟩))) rfl (by kernel_rfl) (by kernel_rfl) (by kernel_rfl) (fun _ _ _ h => h) (by rfl) ?_ (by assumption) ?_
              · intro w hSw
                skip
                go_simp
              simp only [Act.put, List.setIfInBounds_toArray, List.set_cons_zero, List.set_cons_succ]
              have RO := SQ.out.1
              have o0 := RO.cell (i := 0) (by omega)
              have z0 := RO.frozen 0
              have l0 := RO.lt
              obtain ⟨WZ, hWZ⟩ : ∃ WZ, WZ = Z28.setCell ⟨go, 0, none⟩ (.slice (some ⟨g, 0, none⟩) (i + 1) cap) := ⟨_, rfl⟩
              have SZ : Hid (SpS n (some ⟨b, 0, none⟩) lk fa fk wa wk gc go (i + 1) (Nt.sfl n hf) (Fq.tkz (Nt.smq n hf i) (Fq.tkz (Nt.dq n hf i) (Nt.zAt n hf i))) (.slice (some ⟨g, 0, none⟩) (i + 1) cap) w WZ) := by rw [hWZ]; exact SQ.out.2
              have hq : (fun V => V.rowIs gl 68 3 (rowN [.int .i64 (Nt.fr n i : Nat), .int .i64 (Nt.tt n i : Nat), .int .i64 (n.L (i * 3 + 2))]) ∧ V.rowIs gb 46 2 (rowN [.int .i64 (Fq.tkv (Nt.dq n hf i)).1, .int .i64 (Fq.tkv (Nt.dq n hf i)).2])) WZ := by rw [hWZ]; exact And.intro (nrow_set hHeld.1 (p := ⟨go, 0, none⟩) (by have h1 := NUM.out; show gl ≠ go; omega) _) (nrow_set hHeld.2 (p := ⟨go, 0, none⟩) (by have h1 := NUM.out; show gb ≠ go; omega) _)
              have HWZ := Lib.hid hWZ
              clear hWZ RO
              refine take_call (i := 14) rfl (by kernel_rfl) (fun K2 hK => ?_)
              go_simp
              rw [← HWZ.out]
              refine hK.out _ _ hq (fun hHeld2 => ?_)
              clear hK hHeld hHeld2 HWZ o0 z0 l0 SQ hq
              refine wpAnyH_done (by kernel_rfl) ?_ _
              go_wp2_with fail
              go_roundw
              case rel => exact ⟨i + 1, by omega, by go_num, _, SZ⟩
              case measure => simp [intOf]; omega
            · go_simp
              refine (nspecMul (Nt.gq n i) _ _ (Nt.gq_right HF.out.r hlt) RD.out).mono ?_
              rintro e Z29 ⟨rfl, hb⟩
              replace SP := Lib.hid (SP.out.below hb)
              have hq := And.intro (nrow_below hHeld.1 hb) (nrow_below hHeld.2 hb)
              go_wp2_with fail
              refine hK.out _ _ hq (fun hHeld2 => ?_)
              clear hK hHeld
              have hHeld := hHeld2
              clear hHeld2
              clear hb hq
              refine wpAnyH_ready (rs := [1, 10]) (by kernel_rfl) (by simp) (AllReadyH.cons (at_drop (i := 1) rfl) (fun K2 hK => ?_) (AllReadyH.cons (at_drop (i := 10) rfl) (fun K2 hK => ?_) (AllReadyH.nil)))
              · have o0 := SP.out.ro.cell (i := 0) (by omega)
                simp only [rowN, List.getD_cons_zero] at o0
                go_simp
                refine hK.out _ _ hHeld (fun hHeld2 => ?_)
                clear hK hHeld
                have hHeld := hHeld2
                clear hHeld2
                clear o0
                refine take_call (i := 10) rfl (by kernel_rfl) (fun K2 hK => ?_)
                go_simp
                refine (take_any gc (Nt.smq n hf i) _ _ SP.out.rc).mono ?_
                rintro e Z31 ⟨rfl, hr, ho⟩
                have hq := And.intro (hHeld.1.of_block (ho.block _ hHeld.1.lt (by have h1 := NUM.out; omega))) (hHeld.2.of_block (ho.block _ hHeld.2.lt (by have h1 := NUM.out; omega)))
                replace SP := Lib.hid (SP.out.take hr ho)
                go_wp2_with fail
                refine hK.out _ _ hq (fun hHeld2 => ?_)
                clear hK hHeld
                have hHeld := hHeld2
                clear hHeld2
                clear hr ho hq
                refine take_call (i := 11) rfl (by kernel_rfl) (fun K2 hK => ?_)
                obtain ⟨Z32, hZ32⟩ : ∃ Z32, Z32 = Z31.alloc (.cells #[.int .i64 (Fq.tkv (Nt.smq n hf i)).1, .int .i64 (Fq.tkv (Nt.smq n hf i)).2] 46) := ⟨_, rfl⟩
                have hb : Below Z31.heap.size Z31 Z32 := by rw [hZ32]; exact nbel_alloc _ _
                obtain ⟨gx, hgx⟩ : ∃ gx, gx = Z31.heap.size := ⟨_, rfl⟩
                have RX : Hid (Z32.rowIs gx 46 2 (rowN [.int .i64 (Fq.tkv (Nt.smq n hf i)).1, .int .i64 (Fq.tkv (Nt.smq n hf i)).2])) := by show World.rowIs _ _ _ _ _; rw [hZ32, hgx]; exact rowN_alloc _ _ _
                replace SP := Lib.hid (SP.out.below hb)
                have hq := And.intro (nrow_below hHeld.1 hb) (nrow_below hHeld.2 hb)
                go_simp
                rw [← hZ32, ← hgx]
                refine hK.out _ _ hq (fun hHeld2 => ?_)
                clear hK hHeld
                have hHeld := hHeld2
                clear hHeld2
                clear hb hq hZ32 hgx
                refine take_call (i := 12) rfl (by kernel_rfl) (fun K2 hK => ?_)
                obtain ⟨i1, hi1, hy0, hy1, hy2⟩ := info_parts ninfo_fr
                have HO0 := Lib.hid SP.out.own
                have hsz := SP.out.ro.lt
                refine step_append_lies _ rfl (.tmp 68) (.tmp 78) 28 rfl (go + 1) 46 i1 (.agg #[.int .i64 0, .int .i64 0]) 2 16 Tryz.underlying28 hi1 hy0 hy1 hy2 rfl (by decide) v i _ rfl HO0.out ⟨gx, 0, none⟩ 1 1 [.int .i64 (Fq.tkv (Nt.smq n hf i)).1, .int .i64 (Fq.tkv (Nt.smq n hf i)).2] rfl rfl ?_ ?_ (by omega) (by unfold maxLen; omega) (by omega) (by omega) _ rfl ?_
                · intro j u hj
                  match j, hj with
                  | 0, hj => (simp at hj; subst hj; have := RX.out.cell (i := 0) (by omega); simpa [Addr.add, rowN] using this)
                  | 1, hj => (simp at hj; subst hj; have := RX.out.cell (i := 1) (by omega); simpa [Addr.add, rowN] using this)
                · intro u hu
                  simp at hu
                  rcases hu with rfl | rfl <;> rfl
                intro g cap Z33 hown hgrow hat hlt3
                have hown2 : Z33.ownsRow (go + 1) 46 2 (.slice (some ⟨g, 0, none⟩) (i + 1) cap) (i + 1) (frVs (Nt.sfl n hf) (i + 1)) := by rw [frVs_succ]; exact hown
                have SQ : Hid (Z33.rowIs go 30 3 (rowN [v, .int .i64 0, .int .i64 0]) ∧ SpS n (some ⟨b, 0, none⟩) lk fa fk wa wk gc go (i + 1) (Nt.sfl n hf) (Fq.tkz (Nt.smq n hf i) (Fq.tkz (Nt.dq n hf i) (Nt.zAt n hf i))) (.slice (some ⟨g, 0, none⟩) (i + 1) cap) w (Z33.setCell ⟨go, 0, none⟩ (.slice (some ⟨g, 0, none⟩) (i + 1) cap))) := ⟨SP.out.ro.of_block (hgrow.block _ SP.out.ro.lt (fun e => by have := (SP.out.own.lt _ e.symm).1; omega)), SP.out.grow hown2 hgrow⟩
                have hq := And.intro (hHeld.1.of_block (hgrow.block _ hHeld.1.lt (fun e => by have h1 := OWL.out _ e.symm; omega))) (hHeld.2.of_block (hgrow.block _ hHeld.2.lt (fun e => by have h1 := OWL.out _ e.symm; have h2 := NUM.out; omega)))
                refine hK.out _ _ hq (fun hHeld2 => ?_)
                clear hK hHeld
                have hHeld := hHeld2
                clear hHeld2
                clear hq hown hown2 hgrow hat hlt3 SP HO0 hsz RX
                simp only [Act.put, List.setIfInBounds_toArray, List.set_cons_zero, List.set_cons_succ]
                refine take_do (i := 13) (v := (.pointer (some ⟨go, 0, none⟩))) rfl (by kernel_rfl) (by kernel_rfl) (by kernel_rfl) (fun _ _ _ h => h) (by rfl) ?_ (by assumption) ?_
                · intro w hSw
                  skip
                  go_simp
                simp only [Act.put, List.setIfInBounds_toArray, List.set_cons_zero, List.set_cons_succ]
                have RO := SQ.out.1
                have o0 := RO.cell (i := 0) (by omega)
                have z0 := RO.frozen 0
                have l0 := RO.lt
                obtain ⟨WZ, hWZ⟩ : ∃ WZ, WZ = Z33.setCell ⟨go, 0, none⟩ (.slice (some ⟨g, 0, none⟩) (i + 1) cap) := ⟨_, rfl⟩
                have SZ : Hid (SpS n (some ⟨b, 0, none⟩) lk fa fk wa wk gc go (i + 1) (Nt.sfl n hf) (Fq.tkz (Nt.smq n hf i) (Fq.tkz (Nt.dq n hf i) (Nt.zAt n hf i))) (.slice (some ⟨g, 0, none⟩) (i + 1) cap) w WZ) := by rw [hWZ]; exact SQ.out.2
                have hq : (fun V => V.rowIs gl 68 3 (rowN [.int .i64 (Nt.fr n i : Nat), .int .i64 (Nt.tt n i : Nat), .int .i64 (n.L (i * 3 + 2))]) ∧ V.rowIs gb 46 2 (rowN [.int .i64 (Fq.tkv (Nt.dq n hf i)).1, .int .i64 (Fq.tkv (Nt.dq n hf i)).2])) WZ := by rw [hWZ]; exact And.intro (nrow_set hHeld.1 (p := ⟨go, 0, none⟩) (by have h1 := NUM.out; show gl ≠ go; omega) _) (nrow_set hHeld.2 (p := ⟨go, 0, none⟩) (by have h1 := NUM.out; show gb ≠ go; omega) _)
                have HWZ := Lib.hid hWZ
                clear hWZ RO
                refine take_call (i := 14) rfl (by kernel_rfl) (fun K2 hK => ?_)
                go_simp
                rw [← HWZ.out]
                refine hK.out _ _ hq (fun hHeld2 => ?_)
                clear hK hHeld hHeld2 HWZ o0 z0 l0 SQ hq
                refine wpAnyH_done (by kernel_rfl) ?_ _
                go_wp2_with fail
                go_roundw
                case rel => exact ⟨i + 1, by omega, by go_num, _, SZ⟩
                case measure => simp [intOf]; omega
              · go_simp
                refine (take_any gc (Nt.smq n hf i) _ _ SP.out.rc).mono ?_
                rintro e Z34 ⟨rfl, hr, ho⟩
                have hq := And.intro (hHeld.1.of_block (ho.block _ hHeld.1.lt (by have h1 := NUM.out; omega))) (hHeld.2.of_block (ho.block _ hHeld.2.lt (by have h1 := NUM.out; omega)))
                replace SP := Lib.hid (SP.out.take hr ho)
                go_wp2_with fail
                refine hK.out _ _ hq (fun hHeld2 => ?_)
                clear hK hHeld
                have hHeld := hHeld2
                clear hHeld2
                clear hr ho hq
                refine wpAnyH_ready (rs := [1, 11]) (by kernel_rfl) (by simp) (AllReadyH.cons (at_drop (i := 1) rfl) (fun K2 hK => ?_) (AllReadyH.cons (at_drop (i := 11) rfl) (fun K2 hK => ?_) (AllReadyH.nil)))
                · have o0 := SP.out.ro.cell (i := 0) (by omega)
                  simp only [rowN, List.getD_cons_zero] at o0
                  go_simp
                  refine hK.out _ _ hHeld (fun hHeld2 => ?_)
                  clear hK hHeld
                  have hHeld := hHeld2
                  clear hHeld2
                  clear o0
                  refine take_call (i := 11) rfl (by kernel_rfl) (fun K2 hK => ?_)
                  obtain ⟨Z36, hZ36⟩ : ∃ Z36, Z36 = Z34.alloc (.cells #[.int .i64 (Fq.tkv (Nt.smq n hf i)).1, .int .i64 (Fq.tkv (Nt.smq n hf i)).2] 46) := ⟨_, rfl⟩
                  have hb : Below Z34.heap.size Z34 Z36 := by rw [hZ36]; exact nbel_alloc _ _
                  obtain ⟨gx, hgx⟩ : ∃ gx, gx = Z34.heap.size := ⟨_, rfl⟩
                  have RX : Hid (Z36.rowIs gx 46 2 (rowN [.int .i64 (Fq.tkv (Nt.smq n hf i)).1, .int .i64 (Fq.tkv (Nt.smq n hf i)).2])) := by show World.rowIs _ _ _ _ _; rw [hZ36, hgx]; exact rowN_alloc _ _ _
                  replace SP := Lib.hid (SP.out.below hb)
                  have hq := And.intro (nrow_below hHeld.1 hb) (nrow_below hHeld.2 hb)
                  go_simp
                  rw [← hZ36, ← hgx]
                  refine hK.out _ _ hq (fun hHeld2 => ?_)
                  clear hK hHeld
                  have hHeld := hHeld2
                  clear hHeld2
                  clear hb hq hZ36 hgx
                  refine take_call (i := 12) rfl (by kernel_rfl) (fun K2 hK => ?_)
                  obtain ⟨i1, hi1, hy0, hy1, hy2⟩ := info_parts ninfo_fr
                  have HO0 := Lib.hid SP.out.own
                  have hsz := SP.out.ro.lt
                  refine step_append_lies _ rfl (.tmp 68) (.tmp 78) 28 rfl (go + 1) 46 i1 (.agg #[.int .i64 0, .int .i64 0]) 2 16 Tryz.underlying28 hi1 hy0 hy1 hy2 rfl (by decide) v i _ rfl HO0.out ⟨gx, 0, none⟩ 1 1 [.int .i64 (Fq.tkv (Nt.smq n hf i)).1, .int .i64 (Fq.tkv (Nt.smq n hf i)).2] rfl rfl ?_ ?_ (by omega) (by unfold maxLen; omega) (by omega) (by omega) _ rfl ?_
                  · intro j u hj
                    match j, hj with
                    | 0, hj => (simp at hj; subst hj; have := RX.out.cell (i := 0) (by omega); simpa [Addr.add, rowN] using this)
                    | 1, hj => (simp at hj; subst hj; have := RX.out.cell (i := 1) (by omega); simpa [Addr.add, rowN] using this)
                  · intro u hu
                    simp at hu
                    rcases hu with rfl | rfl <;> rfl
                  intro g cap Z37 hown hgrow hat hlt3
                  have hown2 : Z37.ownsRow (go + 1) 46 2 (.slice (some ⟨g, 0, none⟩) (i + 1) cap) (i + 1) (frVs (Nt.sfl n hf) (i + 1)) := by rw [frVs_succ]; exact hown
                  have SQ : Hid (Z37.rowIs go 30 3 (rowN [v, .int .i64 0, .int .i64 0]) ∧ SpS n (some ⟨b, 0, none⟩) lk fa fk wa wk gc go (i + 1) (Nt.sfl n hf) (Fq.tkz (Nt.smq n hf i) (Fq.tkz (Nt.dq n hf i) (Nt.zAt n hf i))) (.slice (some ⟨g, 0, none⟩) (i + 1) cap) w (Z37.setCell ⟨go, 0, none⟩ (.slice (some ⟨g, 0, none⟩) (i + 1) cap))) := ⟨SP.out.ro.of_block (hgrow.block _ SP.out.ro.lt (fun e => by have := (SP.out.own.lt _ e.symm).1; omega)), SP.out.grow hown2 hgrow⟩
                  have hq := And.intro (hHeld.1.of_block (hgrow.block _ hHeld.1.lt (fun e => by have h1 := OWL.out _ e.symm; omega))) (hHeld.2.of_block (hgrow.block _ hHeld.2.lt (fun e => by have h1 := OWL.out _ e.symm; have h2 := NUM.out; omega)))
                  refine hK.out _ _ hq (fun hHeld2 => ?_)
                  clear hK hHeld
                  have hHeld := hHeld2
                  clear hHeld2
                  clear hq hown hown2 hgrow hat hlt3 SP HO0 hsz RX
                  simp only [Act.put, List.setIfInBounds_toArray, List.set_cons_zero, List.set_cons_succ]
                  refine take_do (i := 13) (v := (.pointer (some ⟨go, 0, none⟩))) rfl (by kernel_rfl) (by kernel_rfl) (by kernel_rfl) (fun _ _ _ h => h) (by rfl) ?_ (by assumption) ?_
                  · intro w hSw
                    skip
                    go_simp
                  simp only [Act.put, List.setIfInBounds_toArray, List.set_cons_zero, List.set_cons_succ]
                  have RO := SQ.out.1
                  have o0 := RO.cell (i := 0) (by omega)
                  have z0 := RO.frozen 0
                  have l0 := RO.lt
                  obtain ⟨WZ, hWZ⟩ : ∃ WZ, WZ = Z37.setCell ⟨go, 0, none⟩ (.slice (some ⟨g, 0, none⟩) (i + 1) cap) := ⟨_, rfl⟩
                  have SZ : Hid (SpS n (some ⟨b, 0, none⟩) lk fa fk wa wk gc go (i + 1) (Nt.sfl n hf) (Fq.tkz (Nt.smq n hf i) (Fq.tkz (Nt.dq n hf i) (Nt.zAt n hf i))) (.slice (some ⟨g, 0, none⟩) (i + 1) cap) w WZ) := by rw [hWZ]; exact SQ.out.2
                  have hq : (fun V => V.rowIs gl 68 3 (rowN [.int .i64 (Nt.fr n i : Nat), .int .i64 (Nt.tt n i : Nat), .int .i64 (n.L (i * 3 + 2))]) ∧ V.rowIs gb 46 2 (rowN [.int .i64 (Fq.tkv (Nt.dq n hf i)).1, .int .i64 (Fq.tkv (Nt.dq n hf i)).2])) WZ := by rw [hWZ]; exact And.intro (nrow_set hHeld.1 (p := ⟨go, 0, none⟩) (by have h1 := NUM.out; show gl ≠ go; omega) _) (nrow_set hHeld.2 (p := ⟨go, 0, none⟩) (by have h1 := NUM.out; show gb ≠ go; omega) _)
                  have HWZ := Lib.hid hWZ
                  clear hWZ RO
                  refine take_call (i := 14) rfl (by kernel_rfl) (fun K2 hK => ?_)
                  go_simp
                  rw [← HWZ.out]
                  refine hK.out _ _ hq (fun hHeld2 => ?_)
                  clear hK hHeld hHeld2 HWZ o0 z0 l0 SQ hq
                  refine wpAnyH_done (by kernel_rfl) ?_ _
                  go_wp2_with fail
                  go_roundw
                  case rel => exact ⟨i + 1, by omega, by go_num, _, SZ⟩
                  case measure => simp [intOf]; omega
                · obtain ⟨Z38, hZ38⟩ : ∃ Z38, Z38 = Z34.alloc (.cells #[.int .i64 (Fq.tkv (Nt.smq n hf i)).1, .int .i64 (Fq.tkv (Nt.smq n hf i)).2] 46) := ⟨_, rfl⟩
                  have hb : Below Z34.heap.size Z34 Z38 := by rw [hZ38]; exact nbel_alloc _ _
                  obtain ⟨gx, hgx⟩ : ∃ gx, gx = Z34.heap.size := ⟨_, rfl⟩
                  have RX : Hid (Z38.rowIs gx 46 2 (rowN [.int .i64 (Fq.tkv (Nt.smq n hf i)).1, .int .i64 (Fq.tkv (Nt.smq n hf i)).2])) := by show World.rowIs _ _ _ _ _; rw [hZ38, hgx]; exact rowN_alloc _ _ _
                  replace SP := Lib.hid (SP.out.below hb)
                  have hq := And.intro (nrow_below hHeld.1 hb) (nrow_below hHeld.2 hb)
                  go_simp
                  rw [← hZ38, ← hgx]
                  refine hK.out _ _ hq (fun hHeld2 => ?_)
                  clear hK hHeld
                  have hHeld := hHeld2
                  clear hHeld2
                  clear hb hq hZ38 hgx
                  refine take_call (i := 1) rfl (by kernel_rfl) (fun K2 hK => ?_)
                  have o0 := SP.out.ro.cell (i := 0) (by omega)
                  simp only [rowN, List.getD_cons_zero] at o0
                  go_simp
                  refine hK.out _ _ hHeld (fun hHeld2 => ?_)
                  clear hK hHeld
                  have hHeld := hHeld2
                  clear hHeld2
                  clear o0
                  refine take_call (i := 12) rfl (by kernel_rfl) (fun K2 hK => ?_)
                  obtain ⟨i1, hi1, hy0, hy1, hy2⟩ := info_parts ninfo_fr
                  have HO0 := Lib.hid SP.out.own
                  have hsz := SP.out.ro.lt
                  refine step_append_lies _ rfl (.tmp 68) (.tmp 78) 28 rfl (go + 1) 46 i1 (.agg #[.int .i64 0, .int .i64 0]) 2 16 Tryz.underlying28 hi1 hy0 hy1 hy2 rfl (by decide) v i _ rfl HO0.out ⟨gx, 0, none⟩ 1 1 [.int .i64 (Fq.tkv (Nt.smq n hf i)).1, .int .i64 (Fq.tkv (Nt.smq n hf i)).2] rfl rfl ?_ ?_ (by omega) (by unfold maxLen; omega) (by omega) (by omega) _ rfl ?_
                  · intro j u hj
                    match j, hj with
                    | 0, hj => (simp at hj; subst hj; have := RX.out.cell (i := 0) (by omega); simpa [Addr.add, rowN] using this)
                    | 1, hj => (simp at hj; subst hj; have := RX.out.cell (i := 1) (by omega); simpa [Addr.add, rowN] using this)
                  · intro u hu
                    simp at hu
                    rcases hu with rfl | rfl <;> rfl
                  intro g cap Z40 hown hgrow hat hlt3
                  have hown2 : Z40.ownsRow (go + 1) 46 2 (.slice (some ⟨g, 0, none⟩) (i + 1) cap) (i + 1) (frVs (Nt.sfl n hf) (i + 1)) := by rw [frVs_succ]; exact hown
                  have SQ : Hid (Z40.rowIs go 30 3 (rowN [v, .int .i64 0, .int .i64 0]) ∧ SpS n (some ⟨b, 0, none⟩) lk fa fk wa wk gc go (i + 1) (Nt.sfl n hf) (Fq.tkz (Nt.smq n hf i) (Fq.tkz (Nt.dq n hf i) (Nt.zAt n hf i))) (.slice (some ⟨g, 0, none⟩) (i + 1) cap) w (Z40.setCell ⟨go, 0, none⟩ (.slice (some ⟨g, 0, none⟩) (i + 1) cap))) := ⟨SP.out.ro.of_block (hgrow.block _ SP.out.ro.lt (fun e => by have := (SP.out.own.lt _ e.symm).1; omega)), SP.out.grow hown2 hgrow⟩
                  have hq := And.intro (hHeld.1.of_block (hgrow.block _ hHeld.1.lt (fun e => by have h1 := OWL.out _ e.symm; omega))) (hHeld.2.of_block (hgrow.block _ hHeld.2.lt (fun e => by have h1 := OWL.out _ e.symm; have h2 := NUM.out; omega)))
                  refine hK.out _ _ hq (fun hHeld2 => ?_)
                  clear hK hHeld
                  have hHeld := hHeld2
                  clear hHeld2
                  clear hq hown hown2 hgrow hat hlt3 SP HO0 hsz RX
                  simp only [Act.put, List.setIfInBounds_toArray, List.set_cons_zero, List.set_cons_succ]
                  refine take_do (i := 13) (v := (.pointer (some ⟨go, 0, none⟩))) rfl (by kernel_rfl) (by kernel_rfl) (by kernel_rfl) (fun _ _ _ h => h) (by rfl) ?_ (by assumption) ?_
                  · intro w hSw
                    skip
                    go_simp
                  simp only [Act.put, List.setIfInBounds_toArray, List.set_cons_zero, List.set_cons_succ]
                  have RO := SQ.out.1
                  have o0 := RO.cell (i := 0) (by omega)
                  have z0 := RO.frozen 0
                  have l0 := RO.lt
                  obtain ⟨WZ, hWZ⟩ : ∃ WZ, WZ = Z40.setCell ⟨go, 0, none⟩ (.slice (some ⟨g, 0, none⟩) (i + 1) cap) := ⟨_, rfl⟩
                  have SZ : Hid (SpS n (some ⟨b, 0, none⟩) lk fa fk wa wk gc go (i + 1) (Nt.sfl n hf) (Fq.tkz (Nt.smq n hf i) (Fq.tkz (Nt.dq n hf i) (Nt.zAt n hf i))) (.slice (some ⟨g, 0, none⟩) (i + 1) cap) w WZ) := by rw [hWZ]; exact SQ.out.2
                  have hq : (fun V => V.rowIs gl 68 3 (rowN [.int .i64 (Nt.fr n i : Nat), .int .i64 (Nt.tt n i : Nat), .int .i64 (n.L (i * 3 + 2))]) ∧ V.rowIs gb 46 2 (rowN [.int .i64 (Fq.tkv (Nt.dq n hf i)).1, .int .i64 (Fq.tkv (Nt.dq n hf i)).2])) WZ := by rw [hWZ]; exact And.intro (nrow_set hHeld.1 (p := ⟨go, 0, none⟩) (by have h1 := NUM.out; show gl ≠ go; omega) _) (nrow_set hHeld.2 (p := ⟨go, 0, none⟩) (by have h1 := NUM.out; show gb ≠ go; omega) _)
                  have HWZ := Lib.hid hWZ
                  clear hWZ RO
                  refine take_call (i := 14) rfl (by kernel_rfl) (fun K2 hK => ?_)
                  go_simp
                  rw [← HWZ.out]
                  refine hK.out _ _ hq (fun hHeld2 => ?_)
                  clear hK hHeld hHeld2 HWZ o0 z0 l0 SQ hq
                  refine wpAnyH_done (by kernel_rfl) ?_ _
                  go_wp2_with fail
                  go_roundw
                  case rel => exact ⟨i + 1, by omega, by go_num, _, SZ⟩
                  case measure => simp [intOf]; omega
end Go.Proofs.YtojlclnlompobaaGreatDoor
