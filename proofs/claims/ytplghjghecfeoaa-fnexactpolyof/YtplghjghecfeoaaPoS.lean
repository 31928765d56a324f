/-
  The model's PolyOf.
-/
import Derived.Test.YtplghjghecfeoaaPoI
namespace Go.Proofs.Ytplghjghecfeoaa
open Go.RowKit Go.Deep

attribute [local go_sem] lrun_store_float lrun_store_complex
theorem empty_own (B : Nat) (W V : World) (c : Nat → Nat × Nat) (hB : B ≤ W.heap.size) (hV : V = W.alloc (.cells #[] 25)) : OwnC B (.slice (some ⟨W.heap.size, 0, none⟩) 0 0) 0 c V := by
  show World.ownsRow _ _ _ _ _ _ _
  rw [hV]
  exact ⟨rfl, Or.inr ⟨_, 0, #[], rfl, hB, blk_alloc_new _ _, Nat.le_refl _, Nat.zero_le _, rfl, rfl⟩⟩
/-- What stands while the next list grows. -/
structure PsI (w : World) (B gl cl i : Nat) (r s : Nat → Nat) (nv : Value) (k : Nat) (W : World) : Prop where
  old : OwnC w.heap.size (.slice (some ⟨gl, 0, none⟩) (i + 1) cl) (i + 1) (Fl.pf r s i) W
  new : OwnC B nv k (Fl.pf r s (i + 1)) W
  lt : gl < B ∧ w.heap.size ≤ B
  bel : Below w.heap.size w W
theorem PsI.below {w : World} {B gl cl i : Nat} {r s : Nat → Nat} {nv : Value} {k : Nat} {W W' : World} (h : PsI w B gl cl i r s nv k W) (hb : Below W.heap.size W W') : PsI w B gl cl i r s nv k W' := ⟨h.old.below hb, h.new.below hb, h.lt, h.bel.trans (hb.mono h.bel.size)⟩
theorem PsI.push {w : World} {B gl cl i : Nat} {r s : Nat → Nat} {nv v' : Value} {k : Nat} {W W' : World} {o : Obj} (h : PsI w B gl cl i r s nv k W) (hg : (W.alloc o).grownBy W' nv.ownBlock) (hown : W'.ownsRow B 25 2 v' (k + 1) (cnl (Fl.pf r s (i + 1)) k ++ [.float .f64 (Fl.pf r s (i + 1) k).1, .float .f64 (Fl.pf r s (i + 1) k).2])) : PsI w B gl cl i r s v' (k + 1) W' := by
  have hlt := h.lt
  have hrow : ∀ q, nv.ownBlock = some q → B ≤ q := fun q e => (World.ownsRow.lt h.new q e).1
  refine ⟨?_, hown, h.lt, ?_⟩
  · refine World.ownsRow.kept (World.ownsRow.alloc h.old o) hg ?_
    right
    intro e
    have := hrow gl (by rw [← e]; rfl)
    omega
  · have hz := h.bel.size
    exact ⟨hg.os.trans h.bel.os, hg.tape.trans h.bel.tape, hg.output.trans h.bel.output, by have := hg.size; simp at this; omega, fun q hq => by
      rw [hg.block q (by simp; omega) (fun e => by have := hrow q e.symm; omega)]
      exact (blk_alloc_lt _ _ _ (by omega)).trans (h.bel.block q hq)⟩
theorem PsI.cell {w : World} {B gl cl i : Nat} {r s : Nat → Nat} {nv : Value} {k : Nat} {W : World} (h : PsI w B gl cl i r s nv k W) {j : Nat} (hj : j ≤ i) : W.cell? ⟨gl, j * 2, none⟩ = some (.float .f64 (Fl.pf r s i j).1) ∧ W.cell? ⟨gl, j * 2 + 1, none⟩ = some (.float .f64 (Fl.pf r s i j).2) := by
  obtain ⟨a, q, e, hA⟩ := h.old.sl
  injection e with e1 e2 e3
  subst e1
  obtain ⟨g, e4, h1, h2⟩ := hA.at_ (show j < i + 1 by omega)
  injection e4 with e4
  injection e4 with e4
  subst e4
  exact ⟨h1, h2⟩
theorem set2_row {W : World} {g : Nat} {t : TypeId} {x y u v : Value} (h : W.rowIs g t 2 (rowL [x, y])) : ((W.setCell ⟨g, 0, none⟩ u).setCell ⟨g, 1, none⟩ v).rowIs g t 2 (rowL [u, v]) := rowL_set (rowL_set h 0 u (by simp)) 1 v (by simp)
theorem set2_far {W : World} {g q : Nat} {t : TypeId} {m : Nat} {F : Nat → Value} {u v : Value} (h : W.rowIs q t m F) (hne : q ≠ g) : ((W.setCell ⟨g, 0, none⟩ u).setCell ⟨g, 1, none⟩ v).rowIs q t m F := (h.setOther (a := ⟨g, 0, none⟩) hne _).setOther (a := ⟨g, 1, none⟩) hne _
set_option maxRecDepth 100000 in
set_option maxHeartbeats 16000000 in
theorem specPof_any (a : Option Addr) (n cap : Nat) (r s : Nat → Nat) (w : World) (h : CnAt a n (fun i => (r i, s i)) w) (hn : n ≤ 4194304) :
    Calls Try.prog 26 #[.slice a n cap] w fun e w' => (∃ v, e = .returned v ∧ OwnC w.heap.size v (Fl.pofLen r s n) (Fl.pf r s n) w') ∧ Below w.heap.size w w' := by
  by_cases hbig : 15 < n
  · have hz : (15 : Int) < (n : Int) := by omega
    have HL := Lib.hid (pofLen_no (r := r) (s := s) (n := n) (fun h => by omega))
    clear h
    go_enter Try.func26, Try.ntmps26
    go_wp2_with fail
    go_ret
    exact ⟨⟨_, rfl, by rw [HL.out]; exact empty_own _ w _ _ (Nat.le_refl _) rfl⟩, bel_alloc _ _⟩
  have hz : ¬ (15 : Int) < (n : Int) := by omega
  have H := Lib.hid h
  obtain ⟨i0, hi0, hz0, hz1, hz2⟩ := info_parts linfo_cn
  clear h
  go_enter Try.func26, Try.ntmps26
  go_wp2_with fail
  go_loopw [3] (fun iv wr => ∃ i : Nat, i ≤ n ∧ iv = .int .i64 i ∧ Hid (Fl.rights r s i) ∧ Hid (Below w.heap.size w wr)) (fun iv _ => n - (intOf iv).toNat)
  case atStart => exact ⟨0, Nat.zero_le _, rfl, fun i hi => absurd hi (by omega), Below.refl _ _⟩
  case round =>
    obtain ⟨i, hi, rfl, HRT, HB⟩ := hrel
    by_cases hlt : i < n
    · have hltz : (i : Int) < (n : Int) := by omega
      have hi00 : (0 : Int) ≤ (i : Int) := by omega
      obtain ⟨ga, rfl, k0, k1⟩ := (H.out.below HB.out).at_ hlt
      go_wp2_with fail
      clear k0 k1
      refine (sRight_any _ _ _).mono ?_
      rintro e w3 ⟨rfl, hb⟩
      replace HB : Hid (Below w.heap.size w w3) := HB.out.trans (hb.mono HB.out.size)
      clear hb
      cases hr : Fl.rightB (r i) (s i)
      · have HL := Lib.hid (pofLen_no (r := r) (s := s) (n := n) (fun h => by have := h.2 i hlt; rw [hr] at this; cases this))
        go_wp2_with fail
        go_ret
        exact ⟨⟨_, rfl, by rw [HL.out]; exact empty_own _ w3 _ _ HB.out.size rfl⟩, HB.out.trans ((bel_alloc _ _).mono HB.out.size)⟩
      · go_wp2_with fail
        go_roundw
        case rel => exact ⟨i + 1, by omega, by go_num, (fun j hj => by
          by_cases e : j = i
          · subst e; exact hr
          · exact HRT.out j (by omega)), HB⟩
        case measure => simp [intOf]; omega
    · obtain rfl : i = n := by omega
      have hn15 : i ≤ 15 := by omega
      have HL := Lib.hid (pofLen_yes ⟨hn15, HRT.out⟩)
      obtain ⟨W1, hW1⟩ : ∃ W1, W1 = wr.alloc (.cells #[.float .f64 4607182418800017408, .float .f64 0] 25) := ⟨_, rfl⟩
      have hb1 : Below wr.heap.size wr W1 := by rw [hW1]; exact bel_alloc _ _
      have HQ0 : Hid (OwnC w.heap.size (.slice (some ⟨wr.heap.size, 0, none⟩) 1 1) 1 (Fl.pf r s 0) W1 ∧ Below w.heap.size w W1) := by
        refine ⟨rowC_of (cap := 1) (by rw [hW1]; exact rowL_alloc wr [.float .f64 4607182418800017408, .float .f64 0] _) (Nat.le_refl _) (by decide) HB.out.size (fun j hj => ?_), HB.out.trans (hb1.mono HB.out.size)⟩
        obtain rfl : j = 0 := by omega
        exact ⟨rfl, rfl⟩
      have HW1 := Lib.hid hW1
      obtain ⟨n, hnn⟩ : ∃ n, n = i := ⟨_, rfl⟩
      clear hW1 hb1
      go_wp2_with fail
      rw [← HW1.out]
      clear HW1 hnn
      go_loopw [4, 5] (fun lv iv wx => ∃ m gl cl : Nat, m ≤ i ∧ iv = .int .i64 m ∧ lv = .slice (some ⟨gl, 0, none⟩) (m + 1) cl ∧ Hid (OwnC w.heap.size (.slice (some ⟨gl, 0, none⟩) (m + 1) cl) (m + 1) (Fl.pf r s m) wx ∧ Below w.heap.size w wx)) (fun _ iv _ => i - (intOf iv).toNat)
      case atStart => exact ⟨0, wr.heap.size, 1, Nat.zero_le _, rfl, rfl, HQ0⟩
      case round =>
        clear HQ0 HB
        obtain ⟨m, gl, cl, hm, rfl, rfl, HQ⟩ := hrel
        by_cases hlt2 : m < i
        · have hltz2 : (m : Int) < (i : Int) := by omega
          have hm00 : (0 : Int) ≤ (m : Int) := by omega
          have HRM : Hid (Fl.rights r s (m + 1)) := fun j hj => HRT.out j (by omega)
          obtain ⟨W5, hW5⟩ : ∃ W5, W5 = wr.alloc (.cells #[] 25) := ⟨_, rfl⟩
          obtain ⟨B, hBd⟩ : ∃ B, B = wr.heap.size := ⟨_, rfl⟩
          have HP0 : Hid (PsI w B gl cl m r s (.slice (some ⟨B, 0, none⟩) 0 0) 0 W5) := by
            have hb5 : Below wr.heap.size wr W5 := by rw [hW5]; exact bel_alloc _ _
            have hgl := (World.ownsRow.lt HQ.out.1 gl rfl).2
            refine ⟨OwnC.below HQ.out.1 hb5, ?_, ⟨by omega, by rw [hBd]; exact HQ.out.2.size⟩, HQ.out.2.trans (hb5.mono HQ.out.2.size)⟩
            rw [hBd]
            exact empty_own _ wr _ _ (Nat.le_refl _) hW5
          have HW5 := Lib.hid hW5
          have HBD := Lib.hid hBd
          obtain ⟨N, hN⟩ : ∃ N, N = m + 1 := ⟨_, rfl⟩
          have HN := Lib.hid hN
          rw [← hN]
          have hN15 : N ≤ 15 := by omega
          have hN1 : 1 ≤ N := by omega
          clear hW5 hBd hN HQ
          go_wp2_with fail
          rw [← HW5.out]
          try rw [← HBD.out]
          clear HW5 HBD
          go_loopw [6, 7] (fun nv kv wx => ∃ k : Nat, k ≤ N + 1 ∧ kv = .int .i64 k ∧ (∃ b c, nv = .slice (some b) k c) ∧ Hid (PsI w B gl cl m r s nv k wx)) (fun _ kv _ => N + 1 - (intOf kv).toNat)
          case atStart => exact ⟨0, Nat.zero_le _, rfl, ⟨_, _, rfl⟩, HP0⟩
          case round =>
            clear HP0
            obtain ⟨k, hk, rfl, ⟨nb, nc, rfl⟩, HP⟩ := hrel
            by_cases hlt3 : k ≤ N
            · have hltz3 : (k : Int) ≤ (N : Int) := by omega
              have hk00 : (0 : Int) ≤ (k : Int) := by omega
              have hkB := (World.ownsRow.lt HP.out.new nb.block rfl).1
              obtain ⟨W6, hW6⟩ : ∃ W6, W6 = (wr.alloc (.cells #[.float .f64 0, .float .f64 0] 25)).alloc (.cells #[.float .f64 0, .float .f64 0] 25) := ⟨_, rfl⟩
              obtain ⟨g8, hg8⟩ : ∃ g8, g8 = wr.heap.size := ⟨_, rfl⟩
              have HB6 : Hid (Below wr.heap.size wr W6) := by show Below _ _ _; rw [hW6]; exact (bel_alloc _ _).alloc (by simp) _
              have R8 : Hid (W6.rowIs g8 25 2 (rowL (cnL 0 0))) := by show World.rowIs _ _ _ _ _; rw [hW6]; exact wrow_below (rowL_alloc' hg8.symm (cnL 0 0) _) (bel_alloc _ _)
              have R9 : Hid (W6.rowIs (g8 + 1) 25 2 (rowL (cnL 0 0))) := by show World.rowIs _ _ _ _ _; rw [hW6]; exact rowL_alloc' (by simp [hg8]) (cnL 0 0) _
              have HG8 : Hid (wr.heap.size ≤ g8) := by show _ ≤ _; omega
              have HW6 := Lib.hid hW6
              have HGE := Lib.hid hg8
              clear hW6 hg8
              go_upto_if 46 with fail
              rw [← HW6.out]
              try rw [← HGE.out]
              clear HW6 HGE
              by_cases hk0 : k = 0
              · have hpz : ¬ (0 : Int) < (k : Int) := by omega
                obtain ⟨W7, hW7⟩ : ∃ W7, W7 = W6 := ⟨_, rfl⟩
                have el : Fl.low r s m k = (0, 0) := by unfold Fl.low; rw [if_pos hk0]
                rw [← hW7] at R8 R9 HB6 ⊢
                have HB7 := HB6
                have hR8 : W7.rowIs g8 25 2 (rowL (cnL (Fl.low r s m k).1 (Fl.low r s m k).2)) := by rw [el]; exact R8.out
                clear hW7 el R8 HB6
                have R8 := Lib.hid hR8
                have hkN : k < N := by omega
                clear hR8 hk0
                go_upto_if 55 with fail
                obtain ⟨p0, p1⟩ := (HP.out.below HB7.out).cell (j := k) (by have := HN.out; omega)
                have hlk : (k : Int) < (N : Int) := by omega
                obtain ⟨o0, o1, z0, z1, l0⟩ := told2 R9.out
                obtain ⟨W8, hW8⟩ : ∃ W8, W8 = (W7.setCell ⟨g8 + 1, 0, none⟩ (.float .f64 (Fl.pf r s m k).1)).setCell ⟨g8 + 1, 1, none⟩ (.float .f64 (Fl.pf r s m k).2) := ⟨_, rfl⟩
                have hg8 := HG8.out
                have HB8 : Hid (Below wr.heap.size wr W8) := by show Below _ _ _; rw [hW8]; exact lbelow_set2 HB7.out (by omega) _ _
                have eo : Fl.own r s m k = Fl.pf r s m k := Fl.own_in (by have := HN.out; omega)
                have hR9 : W8.rowIs (g8 + 1) 25 2 (rowL (cnL (Fl.own r s m k).1 (Fl.own r s m k).2)) := by rw [hW8, eo]; exact set2_row R9.out
                have hR8 : W8.rowIs g8 25 2 (rowL (cnL (Fl.low r s m k).1 (Fl.low r s m k).2)) := by rw [hW8]; exact set2_far R8.out (by omega)
                have HW8 := Lib.hid hW8
                clear hW8 eo R8 R9
                have R8 := Lib.hid hR8
                have R9 := Lib.hid hR9
                clear hR8 hR9
                go_wp2_with fail
                rw [← HW8.out]
                clear HW8 p0 p1 o0 o1 z0 z1 l0 HB7
                have HBW := HB8
                obtain ⟨ga, ea, k0, k1⟩ := (H.out.below (HP.out.bel.trans (HBW.out.mono HP.out.bel.size))).at_ hlt2
                subst ea
                have hst := Fl.pf_step k HRM.out (by omega)
                have HST := Lib.hid hst
                obtain ⟨q, hmul⟩ := hst.mul
                have HMU := Lib.hid hmul
                clear hst hmul
                go_cut [10] (fun p V => ∃ gb, p = .pointer (some ⟨gb, 0, none⟩) ∧ Hid (V.rowIs gb 25 2 (rowL (cnL (Fl.cRe (Fl.own r s m k).1 (Fl.own r s m k).2 (r m) (s m)) (Fl.cIm (Fl.own r s m k).1 (Fl.own r s m k).2 (r m) (s m)))) ∧ Below W8.heap.size W8 V))
                case first =>
                  have HK0 := Lib.hid k0
                  have HK1 := Lib.hid k1
                  clear k0 k1
                  refine wp_region_held_drew (S := fun V => Below W8.heap.size W8 V) (by kernel_rfl) (Below.refl _ _).drew (fun hHeld => ?_)
                  obtain ⟨Z, hZ⟩ : ∃ Z, Z = W8.drew := ⟨_, rfl⟩
                  rw [← hZ] at hHeld ⊢
                  clear hZ
                  refine take_do (i := 0) (v := (cnV (Fl.own r s m k).1 (Fl.own r s m k).2)) rfl (by kernel_rfl) (by kernel_rfl) (by kernel_rfl) (fun _ _ _ h => h) (by rfl) ?_ (by assumption) ?_
                  · intro w hSw
                    obtain ⟨⟨q0, q1⟩, _⟩ := row2_cells (wrow_below R9.out hSw)
                    go_simp
                  simp only [Act.put, List.setIfInBounds_toArray, List.set_cons_zero, List.set_cons_succ]
                  refine take_do (i := 1) (v := (.slice (some ⟨ga, 0, none⟩) i cap)) rfl (by kernel_rfl) (by kernel_rfl) (by kernel_rfl) (fun _ _ _ h => h) (by rfl) ?_ (by assumption) ?_
                  · intro w hSw
                    skip
                    go_simp
                  simp only [Act.put, List.setIfInBounds_toArray, List.set_cons_zero, List.set_cons_succ]
                  refine take_do (i := 2) (v := (.int .i64 m)) rfl (by kernel_rfl) (by kernel_rfl) (by kernel_rfl) (fun _ _ _ h => h) (by rfl) ?_ (by assumption) ?_
                  · intro w hSw
                    skip
                    go_simp
                  simp only [Act.put, List.setIfInBounds_toArray, List.set_cons_zero, List.set_cons_succ]
                  refine take_do (i := 3) (v := (.pointer (some ⟨ga, m * 2, none⟩))) rfl (by kernel_rfl) (by kernel_rfl) (by kernel_rfl) (fun _ _ _ h => h) (by rfl) ?_ (by assumption) ?_
                  · intro w hSw
                    skip
                    go_simp
                  simp only [Act.put, List.setIfInBounds_toArray, List.set_cons_zero, List.set_cons_succ]
                  refine take_do (i := 4) (v := (cnV (r m) (s m))) rfl (by kernel_rfl) (by kernel_rfl) (by kernel_rfl) (fun _ _ _ h => h) (by rfl) ?_ (by assumption) ?_
                  · intro w hSw
                    have q0 := (hSw.cell (p := ⟨ga, m * 2, none⟩) (World.block_lt_of_cell? _ _ HK0.out)).trans HK0.out; have q1 := (hSw.cell (p := ⟨ga, m * 2 + 1, none⟩) (World.block_lt_of_cell? _ _ HK1.out)).trans HK1.out
                    go_simp
                  simp only [Act.put, List.setIfInBounds_toArray, List.set_cons_zero, List.set_cons_succ]
                  refine wpAnyH_ready (rs := [5, 6]) (by kernel_rfl) (by simp) (AllReadyH.cons (at_drop (i := 5) rfl) (fun K2 hK => ?_) (AllReadyH.cons (at_drop (i := 6) rfl) (fun K2 hK => ?_) AllReadyH.nil))
                  · go_simp
                    refine (sMulW_any _ _ _ _ _ _ HMU.out).mono ?_
                    rintro e Z1 ⟨rfl, hb⟩
                    go_wp2_with fail
                    refine hK.out _ _ (hHeld.trans (hb.mono hHeld.size)) (fun hHeld2 => ?_)
                    clear hK hb hHeld
                    obtain ⟨Z2, hZ2⟩ : ∃ Z2, Z2 = Z1.alloc (.cells #[.float .f64 0, .float .f64 0] 25) := ⟨_, rfl⟩
                    have hb : Below Z1.heap.size Z1 Z2 := by rw [hZ2]; exact bel_alloc _ _
                    obtain ⟨gb, hgb⟩ : ∃ gb, gb = Z1.heap.size := ⟨_, rfl⟩
                    have RZ : Hid (Z2.rowIs gb 25 2 (rowL (cnL 0 0))) := by show World.rowIs _ _ _ _ _; rw [hZ2]; exact rowL_alloc' hgb.symm (cnL 0 0) _
                    have HGB : Hid (W8.heap.size ≤ gb) := by show _ ≤ _; rw [hgb]; exact hHeld2.size
                    refine take_call (i := 6) rfl (by kernel_rfl) (fun K2 hK => ?_)
                    go_simp
                    rw [← hZ2, ← hgb]
                    refine hK.out _ _ (hHeld2.trans (hb.mono hHeld2.size)) (fun hHeld => ?_)
                    clear hK hb hHeld2 hZ2 hgb
                    obtain ⟨o0, o1, z0, z1, l0⟩ := told2 RZ.out
                    obtain ⟨WZ, hWZ⟩ : ∃ WZ, WZ = (Z2.setCell ⟨gb, 0, none⟩ (.float .f64 (Fl.cRe (Fl.own r s m k).1 (Fl.own r s m k).2 (r m) (s m)))).setCell ⟨gb, 1, none⟩ (.float .f64 (Fl.cIm (Fl.own r s m k).1 (Fl.own r s m k).2 (r m) (s m))) := ⟨_, rfl⟩
                    have hbZ : Below W8.heap.size W8 WZ := by rw [hWZ]; exact lbelow_set2 hHeld HGB.out _ _
                    have HFM : Hid (WZ.rowIs gb 25 2 (rowL (cnL (Fl.cRe (Fl.own r s m k).1 (Fl.own r s m k).2 (r m) (s m)) (Fl.cIm (Fl.own r s m k).1 (Fl.own r s m k).2 (r m) (s m))))) := by show World.rowIs _ _ _ _ _; rw [hWZ]; exact set2_row RZ.out
                    have HW2 := Lib.hid hWZ
                    have HBZ := Lib.hid hbZ
                    clear hWZ hbZ
                    refine take_call (i := 7) rfl (by kernel_rfl) (fun K2 hK => ?_)
                    go_simp
                    rw [← HW2.out]
                    refine hK.out _ _ HBZ.out (fun hHeld2 => ?_)
                    clear hK hHeld hHeld2 HW2 o0 o1 z0 z1 l0
                    refine wpAnyH_done (by kernel_rfl) ?_ _
                    go_wp2_with fail
                    go_meet
                    case rel => exact ⟨gb, rfl, HFM.out, HBZ.out⟩
                  · obtain ⟨Z2, hZ2⟩ : ∃ Z2, Z2 = Z.alloc (.cells #[.float .f64 0, .float .f64 0] 25) := ⟨_, rfl⟩
                    have hb : Below Z.heap.size Z Z2 := by rw [hZ2]; exact bel_alloc _ _
                    obtain ⟨gb, hgb⟩ : ∃ gb, gb = Z.heap.size := ⟨_, rfl⟩
                    have RZ : Hid (Z2.rowIs gb 25 2 (rowL (cnL 0 0))) := by show World.rowIs _ _ _ _ _; rw [hZ2]; exact rowL_alloc' hgb.symm (cnL 0 0) _
                    have HGB : Hid (W8.heap.size ≤ gb) := by show _ ≤ _; rw [hgb]; exact hHeld.size
                    go_simp
                    rw [← hZ2, ← hgb]
                    refine hK.out _ _ (hHeld.trans (hb.mono hHeld.size)) (fun hHeld2 => ?_)
                    clear hK hb hHeld hZ2 hgb
                    refine take_call (i := 5) rfl (by kernel_rfl) (fun K2 hK => ?_)
                    go_simp
                    refine (sMulW_any _ _ _ _ _ _ HMU.out).mono ?_
                    rintro e Z3 ⟨rfl, hb⟩
                    replace RZ := Lib.hid (wrow_below RZ.out hb)
                    go_wp2_with fail
                    refine hK.out _ _ (hHeld2.trans (hb.mono hHeld2.size)) (fun hHeld => ?_)
                    clear hK hb hHeld2
                    obtain ⟨o0, o1, z0, z1, l0⟩ := told2 RZ.out
                    obtain ⟨WZ, hWZ⟩ : ∃ WZ, WZ = (Z3.setCell ⟨gb, 0, none⟩ (.float .f64 (Fl.cRe (Fl.own r s m k).1 (Fl.own r s m k).2 (r m) (s m)))).setCell ⟨gb, 1, none⟩ (.float .f64 (Fl.cIm (Fl.own r s m k).1 (Fl.own r s m k).2 (r m) (s m))) := ⟨_, rfl⟩
                    have hbZ : Below W8.heap.size W8 WZ := by rw [hWZ]; exact lbelow_set2 hHeld HGB.out _ _
                    have HFM : Hid (WZ.rowIs gb 25 2 (rowL (cnL (Fl.cRe (Fl.own r s m k).1 (Fl.own r s m k).2 (r m) (s m)) (Fl.cIm (Fl.own r s m k).1 (Fl.own r s m k).2 (r m) (s m))))) := by show World.rowIs _ _ _ _ _; rw [hWZ]; exact set2_row RZ.out
                    have HW2 := Lib.hid hWZ
                    have HBZ := Lib.hid hbZ
                    clear hWZ hbZ
                    refine take_call (i := 7) rfl (by kernel_rfl) (fun K2 hK => ?_)
                    go_simp
                    rw [← HW2.out]
                    refine hK.out _ _ HBZ.out (fun hHeld2 => ?_)
                    clear hK hHeld hHeld2 HW2 o0 o1 z0 z1 l0
                    refine wpAnyH_done (by kernel_rfl) ?_ _
                    go_wp2_with fail
                    go_meet
                    case rel => exact ⟨gb, rfl, HFM.out, HBZ.out⟩
                case rest =>
                  obtain ⟨gb, rfl, hC⟩ := hcut
                  obtain ⟨W9, hW9⟩ : ∃ W9, W9 = wc := ⟨_, rfl⟩
                  rw [← hW9] at hC ⊢
                  clear hW9 k0 k1
                  replace R8 := Lib.hid (wrow_below R8.out hC.out.2)
                  have R10 := Lib.hid hC.out.1
                  replace HP := Lib.hid (HP.out.below (HBW.out.trans (hC.out.2.mono HBW.out.size)))
                  clear hC HBW HB8 R9
                  have q1 := fun (wx : World) => run_float_arith (P := Try.prog) (w := wx) .sub 23 .f64 _ _ _ HST.out.re
                  have q2 := fun (wx : World) => run_float_arith (P := Try.prog) (w := wx) .sub 23 .f64 _ _ _ HST.out.im
                  obtain ⟨⟨a0, a1⟩, _⟩ := row2_cells R8.out
                  obtain ⟨⟨b0, b1⟩, _⟩ := row2_cells R10.out
                  generalize Fl.cRe (Fl.own r s m k).1 (Fl.own r s m k).2 (r m) (s m) = X at *
                  generalize Fl.cIm (Fl.own r s m k).1 (Fl.own r s m k).2 (r m) (s m) = Y at *
                  go_wp2_with (at_builtin; refine wpList_append_own _ rfl _ _ 44 rfl B 25 i0 (.agg #[.float .f64 0, .float .f64 0]) 2 16 Try.underlying44 hi0 hz0 hz1 hz2 rfl (by decide) _ _ _ rfl (World.ownsRow.alloc HP.out.new _) ⟨W9.heap.size, 0, none⟩ 1 1 [.float .f64 (Fl.pf r s (m + 1) k).1, .float .f64 (Fl.pf r s (m + 1) k).2] rfl rfl ?T1 ?T2 ?T3 ?T4 ?T5 ?_)
                  case T1 =>
                    intro j u hj
                    match j, hj with
                    | 0, hj => simp at hj; subst hj; simp [Addr.add]
                    | 1, hj => simp at hj; subst hj; simp [Addr.add]
                  case T2 =>
                    intro u hu
                    simp at hu
                    rcases hu with rfl | rfl <;> rfl
                  case T3 => unfold maxLen; omega
                  case T4 => omega
                  case T5 => have h1 := HP.out.lt; have h2 := (World.ownsRow.lt HP.out.old gl rfl).2; have h3 := (World.ownsRow.lt HP.out.new nb.block rfl); simp; omega
                  intro v' wz hown hgrow hnil
                  have HP2 := Lib.hid (HP.out.push hgrow hown)
                  obtain ⟨a', k', e', hA⟩ := OwnC.sl HP2.out.new
                  have hb' : ∃ b, a' = some b := by
                    rcases hA with h0 | ⟨g', e1, _⟩
                    · omega
                    · exact ⟨_, e1⟩
                  obtain ⟨b', rfl⟩ := hb'
                  subst e'
                  clear hown hgrow hnil HP hA
                  go_wp2_with fail
                  go_roundw
                  case rel => exact ⟨k + 1, by omega, by go_num, ⟨_, _, rfl⟩, HP2⟩
                  case measure => simp [intOf]; omega
              have hpz : (0 : Int) < (k : Int) := by omega
              obtain ⟨K, hK⟩ : ∃ K : Nat, k = K + 1 := ⟨k - 1, by omega⟩
              obtain ⟨p0, p1⟩ := (HP.out.below HB6.out).cell (j := K) (by have := HN.out; omega)
              have ek : (k : Int) - 1 = (K : Int) := by omega
              have eK0 : (0 : Int) ≤ (K : Int) := by omega
              have eKN : (K : Int) < (N : Int) := by omega
              obtain ⟨o0, o1, z0, z1, l0⟩ := told2 R8.out
              obtain ⟨W7, hW7⟩ : ∃ W7, W7 = (W6.setCell ⟨g8, 0, none⟩ (.float .f64 (Fl.pf r s m K).1)).setCell ⟨g8, 1, none⟩ (.float .f64 (Fl.pf r s m K).2) := ⟨_, rfl⟩
              have hg8 := HG8.out
              have HB7 : Hid (Below wr.heap.size wr W7) := by show Below _ _ _; rw [hW7]; exact lbelow_set2 HB6.out (by omega) _ _
              have el : Fl.low r s m k = Fl.pf r s m K := by unfold Fl.low; rw [if_neg hk0, hK]; rfl
              have hR8 : W7.rowIs g8 25 2 (rowL (cnL (Fl.low r s m k).1 (Fl.low r s m k).2)) := by rw [hW7, el]; exact set2_row R8.out
              have hR9 : W7.rowIs (g8 + 1) 25 2 (rowL (cnL 0 0)) := by rw [hW7]; exact set2_far R9.out (by omega)
              have HW7 := Lib.hid hW7
              have HKK := Lib.hid hK
              clear hW7 el R8 R9 hK
              have R8 := Lib.hid hR8
              have R9 := Lib.hid hR9
              clear hR8 hR9
              go_upto_if 55 with fail
              rw [← HW7.out]
              clear HW7 p0 p1 o0 o1 z0 z1 l0 HB6 ek eK0 eKN
              by_cases hkn : k < N
              · obtain ⟨p0, p1⟩ := (HP.out.below HB7.out).cell (j := k) (by have := HN.out; omega)
                have hlk : (k : Int) < (N : Int) := by omega
                obtain ⟨o0, o1, z0, z1, l0⟩ := told2 R9.out
                obtain ⟨W8, hW8⟩ : ∃ W8, W8 = (W7.setCell ⟨g8 + 1, 0, none⟩ (.float .f64 (Fl.pf r s m k).1)).setCell ⟨g8 + 1, 1, none⟩ (.float .f64 (Fl.pf r s m k).2) := ⟨_, rfl⟩
                have HB8 : Hid (Below wr.heap.size wr W8) := by show Below _ _ _; rw [hW8]; exact lbelow_set2 HB7.out (by omega) _ _
                have eo : Fl.own r s m k = Fl.pf r s m k := Fl.own_in (by have := HN.out; omega)
                have hR9 : W8.rowIs (g8 + 1) 25 2 (rowL (cnL (Fl.own r s m k).1 (Fl.own r s m k).2)) := by rw [hW8, eo]; exact set2_row R9.out
                have hR8 : W8.rowIs g8 25 2 (rowL (cnL (Fl.low r s m k).1 (Fl.low r s m k).2)) := by rw [hW8]; exact set2_far R8.out (by omega)
                have HW8 := Lib.hid hW8
                clear hW8 eo R8 R9
                have R8 := Lib.hid hR8
                have R9 := Lib.hid hR9
                clear hR8 hR9
                go_wp2_with fail
                rw [← HW8.out]
                clear HW8 p0 p1 o0 o1 z0 z1 l0 HB7
                have HBW := HB8
                obtain ⟨ga, ea, k0, k1⟩ := (H.out.below (HP.out.bel.trans (HBW.out.mono HP.out.bel.size))).at_ hlt2
                subst ea
                have hst := Fl.pf_step k HRM.out (by omega)
                have HST := Lib.hid hst
                obtain ⟨q, hmul⟩ := hst.mul
                have HMU := Lib.hid hmul
                clear hst hmul
                go_cut [10] (fun p V => ∃ gb, p = .pointer (some ⟨gb, 0, none⟩) ∧ Hid (V.rowIs gb 25 2 (rowL (cnL (Fl.cRe (Fl.own r s m k).1 (Fl.own r s m k).2 (r m) (s m)) (Fl.cIm (Fl.own r s m k).1 (Fl.own r s m k).2 (r m) (s m)))) ∧ Below W8.heap.size W8 V))
                case first =>
                  have HK0 := Lib.hid k0
                  have HK1 := Lib.hid k1
                  clear k0 k1
                  refine wp_region_held_drew (S := fun V => Below W8.heap.size W8 V) (by kernel_rfl) (Below.refl _ _).drew (fun hHeld => ?_)
                  obtain ⟨Z, hZ⟩ : ∃ Z, Z = W8.drew := ⟨_, rfl⟩
                  rw [← hZ] at hHeld ⊢
                  clear hZ
                  refine take_do (i := 0) (v := (cnV (Fl.own r s m k).1 (Fl.own r s m k).2)) rfl (by kernel_rfl) (by kernel_rfl) (by kernel_rfl) (fun _ _ _ h => h) (by rfl) ?_ (by assumption) ?_
                  · intro w hSw
                    obtain ⟨⟨q0, q1⟩, _⟩ := row2_cells (wrow_below R9.out hSw)
                    go_simp
                  simp only [Act.put, List.setIfInBounds_toArray, List.set_cons_zero, List.set_cons_succ]
                  refine take_do (i := 1) (v := (.slice (some ⟨ga, 0, none⟩) i cap)) rfl (by kernel_rfl) (by kernel_rfl) (by kernel_rfl) (fun _ _ _ h => h) (by rfl) ?_ (by assumption) ?_
                  · intro w hSw
                    skip
                    go_simp
                  simp only [Act.put, List.setIfInBounds_toArray, List.set_cons_zero, List.set_cons_succ]
                  refine take_do (i := 2) (v := (.int .i64 m)) rfl (by kernel_rfl) (by kernel_rfl) (by kernel_rfl) (fun _ _ _ h => h) (by rfl) ?_ (by assumption) ?_
                  · intro w hSw
                    skip
                    go_simp
                  simp only [Act.put, List.setIfInBounds_toArray, List.set_cons_zero, List.set_cons_succ]
                  refine take_do (i := 3) (v := (.pointer (some ⟨ga, m * 2, none⟩))) rfl (by kernel_rfl) (by kernel_rfl) (by kernel_rfl) (fun _ _ _ h => h) (by rfl) ?_ (by assumption) ?_
                  · intro w hSw
                    skip
                    go_simp
                  simp only [Act.put, List.setIfInBounds_toArray, List.set_cons_zero, List.set_cons_succ]
                  refine take_do (i := 4) (v := (cnV (r m) (s m))) rfl (by kernel_rfl) (by kernel_rfl) (by kernel_rfl) (fun _ _ _ h => h) (by rfl) ?_ (by assumption) ?_
                  · intro w hSw
                    have q0 := (hSw.cell (p := ⟨ga, m * 2, none⟩) (World.block_lt_of_cell? _ _ HK0.out)).trans HK0.out; have q1 := (hSw.cell (p := ⟨ga, m * 2 + 1, none⟩) (World.block_lt_of_cell? _ _ HK1.out)).trans HK1.out
                    go_simp
                  simp only [Act.put, List.setIfInBounds_toArray, List.set_cons_zero, List.set_cons_succ]
                  refine wpAnyH_ready (rs := [5, 6]) (by kernel_rfl) (by simp) (AllReadyH.cons (at_drop (i := 5) rfl) (fun K2 hK => ?_) (AllReadyH.cons (at_drop (i := 6) rfl) (fun K2 hK => ?_) AllReadyH.nil))
                  · go_simp
                    refine (sMulW_any _ _ _ _ _ _ HMU.out).mono ?_
                    rintro e Z1 ⟨rfl, hb⟩
                    go_wp2_with fail
                    refine hK.out _ _ (hHeld.trans (hb.mono hHeld.size)) (fun hHeld2 => ?_)
                    clear hK hb hHeld
                    obtain ⟨Z2, hZ2⟩ : ∃ Z2, Z2 = Z1.alloc (.cells #[.float .f64 0, .float .f64 0] 25) := ⟨_, rfl⟩
                    have hb : Below Z1.heap.size Z1 Z2 := by rw [hZ2]; exact bel_alloc _ _
                    obtain ⟨gb, hgb⟩ : ∃ gb, gb = Z1.heap.size := ⟨_, rfl⟩
                    have RZ : Hid (Z2.rowIs gb 25 2 (rowL (cnL 0 0))) := by show World.rowIs _ _ _ _ _; rw [hZ2]; exact rowL_alloc' hgb.symm (cnL 0 0) _
                    have HGB : Hid (W8.heap.size ≤ gb) := by show _ ≤ _; rw [hgb]; exact hHeld2.size
                    refine take_call (i := 6) rfl (by kernel_rfl) (fun K2 hK => ?_)
                    go_simp
                    rw [← hZ2, ← hgb]
                    refine hK.out _ _ (hHeld2.trans (hb.mono hHeld2.size)) (fun hHeld => ?_)
                    clear hK hb hHeld2 hZ2 hgb
                    obtain ⟨o0, o1, z0, z1, l0⟩ := told2 RZ.out
                    obtain ⟨WZ, hWZ⟩ : ∃ WZ, WZ = (Z2.setCell ⟨gb, 0, none⟩ (.float .f64 (Fl.cRe (Fl.own r s m k).1 (Fl.own r s m k).2 (r m) (s m)))).setCell ⟨gb, 1, none⟩ (.float .f64 (Fl.cIm (Fl.own r s m k).1 (Fl.own r s m k).2 (r m) (s m))) := ⟨_, rfl⟩
                    have hbZ : Below W8.heap.size W8 WZ := by rw [hWZ]; exact lbelow_set2 hHeld HGB.out _ _
                    have HFM : Hid (WZ.rowIs gb 25 2 (rowL (cnL (Fl.cRe (Fl.own r s m k).1 (Fl.own r s m k).2 (r m) (s m)) (Fl.cIm (Fl.own r s m k).1 (Fl.own r s m k).2 (r m) (s m))))) := by show World.rowIs _ _ _ _ _; rw [hWZ]; exact set2_row RZ.out
                    have HW2 := Lib.hid hWZ
                    have HBZ := Lib.hid hbZ
                    clear hWZ hbZ
                    refine take_call (i := 7) rfl (by kernel_rfl) (fun K2 hK => ?_)
                    go_simp
                    rw [← HW2.out]
                    refine hK.out _ _ HBZ.out (fun hHeld2 => ?_)
                    clear hK hHeld hHeld2 HW2 o0 o1 z0 z1 l0
                    refine wpAnyH_done (by kernel_rfl) ?_ _
                    go_wp2_with fail
                    go_meet
                    case rel => exact ⟨gb, rfl, HFM.out, HBZ.out⟩
                  · obtain ⟨Z2, hZ2⟩ : ∃ Z2, Z2 = Z.alloc (.cells #[.float .f64 0, .float .f64 0] 25) := ⟨_, rfl⟩
                    have hb : Below Z.heap.size Z Z2 := by rw [hZ2]; exact bel_alloc _ _
                    obtain ⟨gb, hgb⟩ : ∃ gb, gb = Z.heap.size := ⟨_, rfl⟩
                    have RZ : Hid (Z2.rowIs gb 25 2 (rowL (cnL 0 0))) := by show World.rowIs _ _ _ _ _; rw [hZ2]; exact rowL_alloc' hgb.symm (cnL 0 0) _
                    have HGB : Hid (W8.heap.size ≤ gb) := by show _ ≤ _; rw [hgb]; exact hHeld.size
                    go_simp
                    rw [← hZ2, ← hgb]
                    refine hK.out _ _ (hHeld.trans (hb.mono hHeld.size)) (fun hHeld2 => ?_)
                    clear hK hb hHeld hZ2 hgb
                    refine take_call (i := 5) rfl (by kernel_rfl) (fun K2 hK => ?_)
                    go_simp
                    refine (sMulW_any _ _ _ _ _ _ HMU.out).mono ?_
                    rintro e Z3 ⟨rfl, hb⟩
                    replace RZ := Lib.hid (wrow_below RZ.out hb)
                    go_wp2_with fail
                    refine hK.out _ _ (hHeld2.trans (hb.mono hHeld2.size)) (fun hHeld => ?_)
                    clear hK hb hHeld2
                    obtain ⟨o0, o1, z0, z1, l0⟩ := told2 RZ.out
                    obtain ⟨WZ, hWZ⟩ : ∃ WZ, WZ = (Z3.setCell ⟨gb, 0, none⟩ (.float .f64 (Fl.cRe (Fl.own r s m k).1 (Fl.own r s m k).2 (r m) (s m)))).setCell ⟨gb, 1, none⟩ (.float .f64 (Fl.cIm (Fl.own r s m k).1 (Fl.own r s m k).2 (r m) (s m))) := ⟨_, rfl⟩
                    have hbZ : Below W8.heap.size W8 WZ := by rw [hWZ]; exact lbelow_set2 hHeld HGB.out _ _
                    have HFM : Hid (WZ.rowIs gb 25 2 (rowL (cnL (Fl.cRe (Fl.own r s m k).1 (Fl.own r s m k).2 (r m) (s m)) (Fl.cIm (Fl.own r s m k).1 (Fl.own r s m k).2 (r m) (s m))))) := by show World.rowIs _ _ _ _ _; rw [hWZ]; exact set2_row RZ.out
                    have HW2 := Lib.hid hWZ
                    have HBZ := Lib.hid hbZ
                    clear hWZ hbZ
                    refine take_call (i := 7) rfl (by kernel_rfl) (fun K2 hK => ?_)
                    go_simp
                    rw [← HW2.out]
                    refine hK.out _ _ HBZ.out (fun hHeld2 => ?_)
                    clear hK hHeld hHeld2 HW2 o0 o1 z0 z1 l0
                    refine wpAnyH_done (by kernel_rfl) ?_ _
                    go_wp2_with fail
                    go_meet
                    case rel => exact ⟨gb, rfl, HFM.out, HBZ.out⟩
                case rest =>
                  obtain ⟨gb, rfl, hC⟩ := hcut
                  obtain ⟨W9, hW9⟩ : ∃ W9, W9 = wc := ⟨_, rfl⟩
                  rw [← hW9] at hC ⊢
                  clear hW9 k0 k1
                  replace R8 := Lib.hid (wrow_below R8.out hC.out.2)
                  have R10 := Lib.hid hC.out.1
                  replace HP := Lib.hid (HP.out.below (HBW.out.trans (hC.out.2.mono HBW.out.size)))
                  clear hC HBW HB8 R9
                  have q1 := fun (wx : World) => run_float_arith (P := Try.prog) (w := wx) .sub 23 .f64 _ _ _ HST.out.re
                  have q2 := fun (wx : World) => run_float_arith (P := Try.prog) (w := wx) .sub 23 .f64 _ _ _ HST.out.im
                  obtain ⟨⟨a0, a1⟩, _⟩ := row2_cells R8.out
                  obtain ⟨⟨b0, b1⟩, _⟩ := row2_cells R10.out
                  generalize Fl.cRe (Fl.own r s m k).1 (Fl.own r s m k).2 (r m) (s m) = X at *
                  generalize Fl.cIm (Fl.own r s m k).1 (Fl.own r s m k).2 (r m) (s m) = Y at *
                  go_wp2_with (at_builtin; refine wpList_append_own _ rfl _ _ 44 rfl B 25 i0 (.agg #[.float .f64 0, .float .f64 0]) 2 16 Try.underlying44 hi0 hz0 hz1 hz2 rfl (by decide) _ _ _ rfl (World.ownsRow.alloc HP.out.new _) ⟨W9.heap.size, 0, none⟩ 1 1 [.float .f64 (Fl.pf r s (m + 1) k).1, .float .f64 (Fl.pf r s (m + 1) k).2] rfl rfl ?T1 ?T2 ?T3 ?T4 ?T5 ?_)
                  case T1 =>
                    intro j u hj
                    match j, hj with
                    | 0, hj => simp at hj; subst hj; simp [Addr.add]
                    | 1, hj => simp at hj; subst hj; simp [Addr.add]
                  case T2 =>
                    intro u hu
                    simp at hu
                    rcases hu with rfl | rfl <;> rfl
                  case T3 => unfold maxLen; omega
                  case T4 => omega
                  case T5 => have h1 := HP.out.lt; have h2 := (World.ownsRow.lt HP.out.old gl rfl).2; have h3 := (World.ownsRow.lt HP.out.new nb.block rfl); simp; omega
                  intro v' wz hown hgrow hnil
                  have HP2 := Lib.hid (HP.out.push hgrow hown)
                  obtain ⟨a', k', e', hA⟩ := OwnC.sl HP2.out.new
                  have hb' : ∃ b, a' = some b := by
                    rcases hA with h0 | ⟨g', e1, _⟩
                    · omega
                    · exact ⟨_, e1⟩
                  obtain ⟨b', rfl⟩ := hb'
                  subst e'
                  clear hown hgrow hnil HP hA
                  go_wp2_with fail
                  go_roundw
                  case rel => exact ⟨k + 1, by omega, by go_num, ⟨_, _, rfl⟩, HP2⟩
                  case measure => simp [intOf]; omega
              have hlk : ¬ (k : Int) < (N : Int) := by omega
              obtain ⟨W8, hW8⟩ : ∃ W8, W8 = W7 := ⟨_, rfl⟩
              have eo : Fl.own r s m k = (0, 0) := by unfold Fl.own; rw [if_neg (by have := HN.out; omega)]
              rw [← hW8] at R8 R9 HB7 ⊢
              have HB8 := HB7
              have hR9 : W8.rowIs (g8 + 1) 25 2 (rowL (cnL (Fl.own r s m k).1 (Fl.own r s m k).2)) := by rw [eo]; exact R9.out
              clear hW8 eo R9 HB7
              have R9 := Lib.hid hR9
              clear hR9
              go_wp2_with fail
              have HBW := HB8
              obtain ⟨ga, ea, k0, k1⟩ := (H.out.below (HP.out.bel.trans (HBW.out.mono HP.out.bel.size))).at_ hlt2
              subst ea
              have hst := Fl.pf_step k HRM.out (by omega)
              have HST := Lib.hid hst
              obtain ⟨q, hmul⟩ := hst.mul
              have HMU := Lib.hid hmul
              clear hst hmul
              go_cut [10] (fun p V => ∃ gb, p = .pointer (some ⟨gb, 0, none⟩) ∧ Hid (V.rowIs gb 25 2 (rowL (cnL (Fl.cRe (Fl.own r s m k).1 (Fl.own r s m k).2 (r m) (s m)) (Fl.cIm (Fl.own r s m k).1 (Fl.own r s m k).2 (r m) (s m)))) ∧ Below W8.heap.size W8 V))
              case first =>
                have HK0 := Lib.hid k0
                have HK1 := Lib.hid k1
                clear k0 k1
                refine wp_region_held_drew (S := fun V => Below W8.heap.size W8 V) (by kernel_rfl) (Below.refl _ _).drew (fun hHeld => ?_)
                obtain ⟨Z, hZ⟩ : ∃ Z, Z = W8.drew := ⟨_, rfl⟩
                rw [← hZ] at hHeld ⊢
                clear hZ
                refine take_do (i := 0) (v := (cnV (Fl.own r s m k).1 (Fl.own r s m k).2)) rfl (by kernel_rfl) (by kernel_rfl) (by kernel_rfl) (fun _ _ _ h => h) (by rfl) ?_ (by assumption) ?_
                · intro w hSw
                  obtain ⟨⟨q0, q1⟩, _⟩ := row2_cells (wrow_below R9.out hSw)
                  go_simp
                simp only [Act.put, List.setIfInBounds_toArray, List.set_cons_zero, List.set_cons_succ]
                refine take_do (i := 1) (v := (.slice (some ⟨ga, 0, none⟩) i cap)) rfl (by kernel_rfl) (by kernel_rfl) (by kernel_rfl) (fun _ _ _ h => h) (by rfl) ?_ (by assumption) ?_
                · intro w hSw
                  skip
                  go_simp
                simp only [Act.put, List.setIfInBounds_toArray, List.set_cons_zero, List.set_cons_succ]
                refine take_do (i := 2) (v := (.int .i64 m)) rfl (by kernel_rfl) (by kernel_rfl) (by kernel_rfl) (fun _ _ _ h => h) (by rfl) ?_ (by assumption) ?_
                · intro w hSw
                  skip
                  go_simp
                simp only [Act.put, List.setIfInBounds_toArray, List.set_cons_zero, List.set_cons_succ]
                refine take_do (i := 3) (v := (.pointer (some ⟨ga, m * 2, none⟩))) rfl (by kernel_rfl) (by kernel_rfl) (by kernel_rfl) (fun _ _ _ h => h) (by rfl) ?_ (by assumption) ?_
                · intro w hSw
                  skip
                  go_simp
                simp only [Act.put, List.setIfInBounds_toArray, List.set_cons_zero, List.set_cons_succ]
                refine take_do (i := 4) (v := (cnV (r m) (s m))) rfl (by kernel_rfl) (by kernel_rfl) (by kernel_rfl) (fun _ _ _ h => h) (by rfl) ?_ (by assumption) ?_
                · intro w hSw
                  have q0 := (hSw.cell (p := ⟨ga, m * 2, none⟩) (World.block_lt_of_cell? _ _ HK0.out)).trans HK0.out; have q1 := (hSw.cell (p := ⟨ga, m * 2 + 1, none⟩) (World.block_lt_of_cell? _ _ HK1.out)).trans HK1.out
                  go_simp
                simp only [Act.put, List.setIfInBounds_toArray, List.set_cons_zero, List.set_cons_succ]
                refine wpAnyH_ready (rs := [5, 6]) (by kernel_rfl) (by simp) (AllReadyH.cons (at_drop (i := 5) rfl) (fun K2 hK => ?_) (AllReadyH.cons (at_drop (i := 6) rfl) (fun K2 hK => ?_) AllReadyH.nil))
                · go_simp
                  refine (sMulW_any _ _ _ _ _ _ HMU.out).mono ?_
                  rintro e Z1 ⟨rfl, hb⟩
                  go_wp2_with fail
                  refine hK.out _ _ (hHeld.trans (hb.mono hHeld.size)) (fun hHeld2 => ?_)
                  clear hK hb hHeld
                  obtain ⟨Z2, hZ2⟩ : ∃ Z2, Z2 = Z1.alloc (.cells #[.float .f64 0, .float .f64 0] 25) := ⟨_, rfl⟩
                  have hb : Below Z1.heap.size Z1 Z2 := by rw [hZ2]; exact bel_alloc _ _
                  obtain ⟨gb, hgb⟩ : ∃ gb, gb = Z1.heap.size := ⟨_, rfl⟩
                  have RZ : Hid (Z2.rowIs gb 25 2 (rowL (cnL 0 0))) := by show World.rowIs _ _ _ _ _; rw [hZ2]; exact rowL_alloc' hgb.symm (cnL 0 0) _
                  have HGB : Hid (W8.heap.size ≤ gb) := by show _ ≤ _; rw [hgb]; exact hHeld2.size
                  refine take_call (i := 6) rfl (by kernel_rfl) (fun K2 hK => ?_)
                  go_simp
                  rw [← hZ2, ← hgb]
                  refine hK.out _ _ (hHeld2.trans (hb.mono hHeld2.size)) (fun hHeld => ?_)
                  clear hK hb hHeld2 hZ2 hgb
                  obtain ⟨o0, o1, z0, z1, l0⟩ := told2 RZ.out
                  obtain ⟨WZ, hWZ⟩ : ∃ WZ, WZ = (Z2.setCell ⟨gb, 0, none⟩ (.float .f64 (Fl.cRe (Fl.own r s m k).1 (Fl.own r s m k).2 (r m) (s m)))).setCell ⟨gb, 1, none⟩ (.float .f64 (Fl.cIm (Fl.own r s m k).1 (Fl.own r s m k).2 (r m) (s m))) := ⟨_, rfl⟩
                  have hbZ : Below W8.heap.size W8 WZ := by rw [hWZ]; exact lbelow_set2 hHeld HGB.out _ _
                  have HFM : Hid (WZ.rowIs gb 25 2 (rowL (cnL (Fl.cRe (Fl.own r s m k).1 (Fl.own r s m k).2 (r m) (s m)) (Fl.cIm (Fl.own r s m k).1 (Fl.own r s m k).2 (r m) (s m))))) := by show World.rowIs _ _ _ _ _; rw [hWZ]; exact set2_row RZ.out
                  have HW2 := Lib.hid hWZ
                  have HBZ := Lib.hid hbZ
                  clear hWZ hbZ
                  refine take_call (i := 7) rfl (by kernel_rfl) (fun K2 hK => ?_)
                  go_simp
                  rw [← HW2.out]
                  refine hK.out _ _ HBZ.out (fun hHeld2 => ?_)
                  clear hK hHeld hHeld2 HW2 o0 o1 z0 z1 l0
                  refine wpAnyH_done (by kernel_rfl) ?_ _
                  go_wp2_with fail
                  go_meet
                  case rel => exact ⟨gb, rfl, HFM.out, HBZ.out⟩
                · obtain ⟨Z2, hZ2⟩ : ∃ Z2, Z2 = Z.alloc (.cells #[.float .f64 0, .float .f64 0] 25) := ⟨_, rfl⟩
                  have hb : Below Z.heap.size Z Z2 := by rw [hZ2]; exact bel_alloc _ _
                  obtain ⟨gb, hgb⟩ : ∃ gb, gb = Z.heap.size := ⟨_, rfl⟩
                  have RZ : Hid (Z2.rowIs gb 25 2 (rowL (cnL 0 0))) := by show World.rowIs _ _ _ _ _; rw [hZ2]; exact rowL_alloc' hgb.symm (cnL 0 0) _
                  have HGB : Hid (W8.heap.size ≤ gb) := by show _ ≤ _; rw [hgb]; exact hHeld.size
                  go_simp
                  rw [← hZ2, ← hgb]
                  refine hK.out _ _ (hHeld.trans (hb.mono hHeld.size)) (fun hHeld2 => ?_)
                  clear hK hb hHeld hZ2 hgb
                  refine take_call (i := 5) rfl (by kernel_rfl) (fun K2 hK => ?_)
                  go_simp
                  refine (sMulW_any _ _ _ _ _ _ HMU.out).mono ?_
                  rintro e Z3 ⟨rfl, hb⟩
                  replace RZ := Lib.hid (wrow_below RZ.out hb)
                  go_wp2_with fail
                  refine hK.out _ _ (hHeld2.trans (hb.mono hHeld2.size)) (fun hHeld => ?_)
                  clear hK hb hHeld2
                  obtain ⟨o0, o1, z0, z1, l0⟩ := told2 RZ.out
                  obtain ⟨WZ, hWZ⟩ : ∃ WZ, WZ = (Z3.setCell ⟨gb, 0, none⟩ (.float .f64 (Fl.cRe (Fl.own r s m k).1 (Fl.own r s m k).2 (r m) (s m)))).setCell ⟨gb, 1, none⟩ (.float .f64 (Fl.cIm (Fl.own r s m k).1 (Fl.own r s m k).2 (r m) (s m))) := ⟨_, rfl⟩
                  have hbZ : Below W8.heap.size W8 WZ := by rw [hWZ]; exact lbelow_set2 hHeld HGB.out _ _
                  have HFM : Hid (WZ.rowIs gb 25 2 (rowL (cnL (Fl.cRe (Fl.own r s m k).1 (Fl.own r s m k).2 (r m) (s m)) (Fl.cIm (Fl.own r s m k).1 (Fl.own r s m k).2 (r m) (s m))))) := by show World.rowIs _ _ _ _ _; rw [hWZ]; exact set2_row RZ.out
                  have HW2 := Lib.hid hWZ
                  have HBZ := Lib.hid hbZ
                  clear hWZ hbZ
                  refine take_call (i := 7) rfl (by kernel_rfl) (fun K2 hK => ?_)
                  go_simp
                  rw [← HW2.out]
                  refine hK.out _ _ HBZ.out (fun hHeld2 => ?_)
                  clear hK hHeld hHeld2 HW2 o0 o1 z0 z1 l0
                  refine wpAnyH_done (by kernel_rfl) ?_ _
                  go_wp2_with fail
                  go_meet
                  case rel => exact ⟨gb, rfl, HFM.out, HBZ.out⟩
              case rest =>
                obtain ⟨gb, rfl, hC⟩ := hcut
                obtain ⟨W9, hW9⟩ : ∃ W9, W9 = wc := ⟨_, rfl⟩
                rw [← hW9] at hC ⊢
                clear hW9 k0 k1
                replace R8 := Lib.hid (wrow_below R8.out hC.out.2)
                have R10 := Lib.hid hC.out.1
                replace HP := Lib.hid (HP.out.below (HBW.out.trans (hC.out.2.mono HBW.out.size)))
                clear hC HBW HB8 R9
                have q1 := fun (wx : World) => run_float_arith (P := Try.prog) (w := wx) .sub 23 .f64 _ _ _ HST.out.re
                have q2 := fun (wx : World) => run_float_arith (P := Try.prog) (w := wx) .sub 23 .f64 _ _ _ HST.out.im
                obtain ⟨⟨a0, a1⟩, _⟩ := row2_cells R8.out
                obtain ⟨⟨b0, b1⟩, _⟩ := row2_cells R10.out
                generalize Fl.cRe (Fl.own r s m k).1 (Fl.own r s m k).2 (r m) (s m) = X at *
                generalize Fl.cIm (Fl.own r s m k).1 (Fl.own r s m k).2 (r m) (s m) = Y at *
                go_wp2_with (at_builtin; refine wpList_append_own _ rfl _ _ 44 rfl B 25 i0 (.agg #[.float .f64 0, .float .f64 0]) 2 16 Try.underlying44 hi0 hz0 hz1 hz2 rfl (by decide) _ _ _ rfl (World.ownsRow.alloc HP.out.new _) ⟨W9.heap.size, 0, none⟩ 1 1 [.float .f64 (Fl.pf r s (m + 1) k).1, .float .f64 (Fl.pf r s (m + 1) k).2] rfl rfl ?T1 ?T2 ?T3 ?T4 ?T5 ?_)
                case T1 =>
                  intro j u hj
                  match j, hj with
                  | 0, hj => simp at hj; subst hj; simp [Addr.add]
                  | 1, hj => simp at hj; subst hj; simp [Addr.add]
                case T2 =>
                  intro u hu
                  simp at hu
                  rcases hu with rfl | rfl <;> rfl
                case T3 => unfold maxLen; omega
                case T4 => omega
                case T5 => have h1 := HP.out.lt; have h2 := (World.ownsRow.lt HP.out.old gl rfl).2; have h3 := (World.ownsRow.lt HP.out.new nb.block rfl); simp; omega
                intro v' wz hown hgrow hnil
                have HP2 := Lib.hid (HP.out.push hgrow hown)
                obtain ⟨a', k', e', hA⟩ := OwnC.sl HP2.out.new
                have hb' : ∃ b, a' = some b := by
                  rcases hA with h0 | ⟨g', e1, _⟩
                  · omega
                  · exact ⟨_, e1⟩
                obtain ⟨b', rfl⟩ := hb'
                subst e'
                clear hown hgrow hnil HP hA
                go_wp2_with fail
                go_roundw
                case rel => exact ⟨k + 1, by omega, by go_num, ⟨_, _, rfl⟩, HP2⟩
                case measure => simp [intOf]; omega
            · obtain rfl : k = N + 1 := by omega
              go_wp2_with fail
              go_roundw
              case rel =>
                have e2 := HN.out
                refine ⟨m + 1, nb.block, nc, by omega, by go_num, ?_, ?_, HP.out.bel⟩
                · obtain ⟨a', q', e', _⟩ := OwnC.sl HP.out.new
                  rcases OwnC.row HP.out.new with ⟨e3, _⟩ | ⟨g', c', F', e3, _⟩
                  · cases e3
                  · injection e3 with e4 e5 e6
                    injection e4 with e4
                    rw [e4, e2]
                · rcases OwnC.row HP.out.new with ⟨e3, _⟩ | ⟨g', c', F', e3, hB', hn', hc', hr', hf'⟩
                  · cases e3
                  · injection e3 with e4 e5 e6
                    injection e4 with e4
                    rw [e4, e6]
                    rw [e2] at hn' hf'
                    exact rowC_of hr' hn' hc' (by have := HP.out.lt; show w.heap.size ≤ g'; omega) hf'
              case measure => simp [intOf]; omega
        · obtain rfl : m = i := by omega
          go_wp2_with fail
          go_ret
          exact ⟨⟨_, rfl, by rw [HL.out]; exact HQ.out.1⟩, HQ.out.2⟩
end Go.Proofs.Ytplghjghecfeoaa
