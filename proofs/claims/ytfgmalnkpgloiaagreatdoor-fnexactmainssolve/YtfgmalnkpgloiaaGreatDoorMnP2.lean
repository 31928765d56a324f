/-
  Heads along the tree: the program's walk.
-/
import Derived.Test.YtfgmalnkpgloiaaGreatDoorMnP1
import Derived.Test.YtfgmalnkpgloiaaGreatDoorMnF
import Derived.Test.YtfgmalnkpgloiaaGreatDoorMnV4
namespace Go.Proofs.YtfgmalnkpgloiaaGreatDoor
open Go.RowKit Go.Deep
/-- What stands from branch to branch. -/
structure HpS (m : Mn.Mains) (la : Option Addr) (ln lk gk : Nat) (fa : Option Addr) (fc : Nat) (H : Nat → Int) (w W : World) : Prop where
  rr : W.rowIs w.heap.size 70 3 (rowN [.slice la ln lk, .slice (some ⟨gk, 0, none⟩) m.pn m.pn, .slice fa m.pn fc])
  hd : IsBlk 2 (w.heap.size + 1) (Mn.nn m) H W
  old : Below w.heap.size w W
theorem HpS.below {m : Mn.Mains} {la : Option Addr} {ln lk gk : Nat} {fa : Option Addr} {fc : Nat} {H : Nat → Int} {w W W' : World} (h : HpS m la ln lk gk fa fc H w W) (hb : Below W.heap.size W W') : HpS m la ln lk gk fa fc H w W' := ⟨nrow_below h.rr hb, h.hd.below hb, h.old.trans (hb.mono h.old.size)⟩
/-- What is read while one branch is gone along. -/
structure HgS (m : Mn.Mains) (x fn tn : Nat) (wy : Int) (fr : Nat) (gb gk : Nat) (fa : Option Addr) (fc : Nat) (la : Option Addr) (ln lk : Nat) (H : Nat → Int) (w W : World) : Prop where
  rb : W.rowIs gb 117 4 (rowN [.int .i64 (x : Int), .int .i64 wy, .int .i64 (fn : Int), .int .i64 (tn : Int)])
  rr : W.rowIs w.heap.size 70 3 (rowN [.slice la ln lk, .slice (some ⟨gk, 0, none⟩) m.pn m.pn, .slice fa m.pn fc])
  c : W.cell? ⟨w.heap.size + 1, fn, none⟩ = some (.int .i64 (H fn))
  old : Below w.heap.size w W
  du : fr = fr
theorem HgS.below {m : Mn.Mains} {x fn tn : Nat} {wy : Int} {fr gb gk : Nat} {fa : Option Addr} {fc : Nat} {la : Option Addr} {ln lk : Nat} {H : Nat → Int} {w W W' : World} (h : HgS m x fn tn wy fr gb gk fa fc la ln lk H w W) (hb : Below W.heap.size W W') : HgS m x fn tn wy fr gb gk fa fc la ln lk H w W' := ⟨nrow_below h.rb hb, nrow_below h.rr hb, (hb.cell (World.block_lt_of_cell? _ _ h.c)).trans h.c, h.old.trans (hb.mono h.old.size), rfl⟩
theorem HgS.put {m : Mn.Mains} {x fn tn : Nat} {wy : Int} {fr gb gk : Nat} {fa : Option Addr} {fc : Nat} {la : Option Addr} {ln lk : Nat} {H : Nat → Int} {w W : World} (h : HgS m x fn tn wy fr gb gk fa fc la ln lk H w W) (hne : fn ≠ tn) (hgb : gb ≠ w.heap.size + 1) (v : Value) : HgS m x fn tn wy fr gb gk fa fc la ln lk H w (W.setCell ⟨w.heap.size + 1, tn, none⟩ v) := by
  refine ⟨h.rb.of_block (Below.heap_setCell _ _ _ _ hgb), h.rr.of_block (Below.heap_setCell _ _ _ _ (by show w.heap.size ≠ w.heap.size + 1; omega)), ?_, h.old.setCell (p := ⟨w.heap.size + 1, tn, none⟩) (by show w.heap.size ≤ w.heap.size + 1; omega) _, rfl⟩
  have hA : (⟨w.heap.size + 1, tn, none⟩ : Addr) ≠ ⟨w.heap.size + 1, fn, none⟩ := by intro e; injection e; omega
  first
  | exact (World.cell?_setCell_other hA).trans h.c
  | exact (World.cell?_setCell_other _ hA).trans h.c
  | exact (World.cell?_setCell_other _ _ hA).trans h.c
  | exact (World.cell?_setCell_other _ _ _ hA).trans h.c
  | exact (World.cell?_setCell_other _ _ _ _ hA).trans h.c
set_option maxRecDepth 100000 in
set_option maxHeartbeats 8000000 in
theorem headsAlong_any (m : Mn.Mains) (la : Option Addr) (ln lk gk : Nat) (fa : Option Addr) (fc : Nat) (f : Nat → Int) (tv : Value) (w : World) (hk : KdBlk gk m w) (hf : IsAt fa m.pn f w) (ht : TrAt m tv (Mn.fin m).2 w) (hr : Mn.Right m) (ho : Mn.AllOk m f) (hout : Mn.OutAt (Mn.fin m).1 (Mn.nn m) (-1)) :
    Calls Tryz.prog 40 #[rmV la ln lk gk m.pn fa fc, tv, .int .i64 m.head] w fun e w' => (∃ g, e = .returned (.slice (some ⟨g, 0, none⟩) (Mn.nn m) (Mn.nn m)) ∧ IsBlk 2 g (Mn.nn m) (Mn.heads m f) w' ∧ w.heap.size ≤ g) ∧ Below w.heap.size w w' := by
  have hlen := Mn.fin_len hr hout
  obtain ⟨hnn, hn1, hn2, hwn⟩ := hr.nn
  have hmc : (madeCells #[.int .i64 0] (Mn.nn m))[0]? = some (.int .i64 0) := by have h0 : 0 < Mn.nn m := hn1; simp [madeCells, h0]
  have hn0 : (0 : Int) < (Mn.nn m : Int) := by omega
  have hfin := Mn.fin_ok hr
  obtain ⟨l, hl⟩ : ∃ l, l = (Mn.fin m).2 := ⟨_, rfl⟩
  rw [← hl] at hlen ht hfin
  have HHE : Hid (Mn.heads m f = Mn.headTo m f l (Mn.head0 m) l.length) := by show _ = _; rw [hl]; rfl
  have HFI := Lib.hid hfin
  have hmk : ∀ w : World, (Instr.makeSlice 25 (.int .i64 ((l.length : Int) + 1)) (.int .i64 ((l.length : Int) + 1))).run Tryz.prog w = .ok (.slice (some ⟨w.heap.size, 0, none⟩) (Mn.nn m) (Mn.nn m)) (w.alloc (.cells (madeCells #[.int .i64 0] (Mn.nn m)) 2)) := fun w => by
    rw [show ((l.length : Int) + 1) = ((Mn.nn m : Nat) : Int) by omega]
    exact mmk_i64 (Mn.nn m) (by omega) w
  have HK := Lib.hid hk
  have HF := Lib.hid hf
  have HT := Lib.hid ht
  have HR := Lib.hid hr
  have HO := Lib.hid ho
  have HLEN : Hid (l.length + 1 = Mn.nn m) := hlen
  have hll : l.length ≤ 11 := by omega
  obtain ⟨ta, tc, etv, _⟩ := ht
  subst etv
  obtain ⟨W0, hW0⟩ : ∃ W0, W0 = (w.alloc (.cells #[.slice la ln lk, .slice (some ⟨gk, 0, none⟩) m.pn m.pn, .slice fa m.pn fc] 70)).alloc (.cells ((madeCells #[.int .i64 0] (Mn.nn m)).setIfInBounds 0 (.int .i64 m.head)) 2) := ⟨_, rfl⟩
  have ST : Hid (HpS m la ln lk gk fa fc (Mn.headTo m f l (Mn.head0 m) 0) w W0) := by
    show HpS _ _ _ _ _ _ _ _ _ _
    rw [hW0]
    refine ⟨nrow_below (rowN_alloc w _ _) (nbel_alloc _ _), ?_, mbel2 _ _ _⟩
    have := mis_new1 (w.alloc (.cells #[.slice la ln lk, .slice (some ⟨gk, 0, none⟩) m.pn m.pn, .slice fa m.pn fc] 70)) (Mn.nn m) m.head hn1
    rw [World.size_alloc] at this
    exact this
  have HW0 := Lib.hid hW0
  clear hk hf hr ho hout hnn hwn hW0 hlen hfin hl
  go_enter Tryz.func40, Tryz.ntmps40
  go_wp2_with fail
  rw [← HW0.out]
  clear hmk hmc HW0
  go_loopw [19] (fun kv wr => ∃ (k : Nat), k ≤ l.length ∧ kv = .int .i64 k ∧ Hid (HpS m la ln lk gk fa fc (Mn.headTo m f l (Mn.head0 m) k) w wr)) (fun kv _ => l.length - (intOf kv).toNat)
  case atStart => exact ⟨0, Nat.zero_le _, rfl, ST⟩
  case round =>
    obtain ⟨k, hk, rfl, hS⟩ := hrel
    clear ST
    by_cases hlt : k < l.length
    · have hltz : (k : Int) < (l.length : Int) := by omega
      obtain ⟨xe, hx⟩ : ∃ xe, l[k]? = some xe := ⟨_, List.getElem?_eq_getElem hlt⟩
      have hxp0 := HFI.out.2 xe (List.mem_of_getElem? hx)
      have hhb := Mn.head_bd HR.out HO.out HFI.out.2 k
      have HSX : Hid (Mn.headTo m f l (Mn.head0 m) (k + 1) = Mn.headStep m f xe (Mn.headTo m f l (Mn.head0 m) k)) := by show _ = _; simp only [Mn.headTo, hx]
      obtain ⟨_, _, e3, q3⟩ := HT.out
      rcases q3 with q3 | ⟨tg, q4, q5, q6⟩
      · rw [q3] at hlt; exact absurd hlt (by simp)
      cases e3
      subst q4
      obtain ⟨t0, t1, t2, t3⟩ := q6 k xe hx
      have old := hS.out.old
      replace t0 := (old.cell q5).trans t0
      replace t1 := (old.cell q5).trans t1
      replace t2 := (old.cell q5).trans t2
      replace t3 := (old.cell q5).trans t3
      have ltg : tg < wr.heap.size := Nat.lt_of_lt_of_le q5 old.size
      obtain ⟨x, fw⟩ := xe
      simp only at hxp0 t0 t1 t2 t3
      have hxp := Lib.hid hxp0
      have hff := HR.out.fN hxp0
      have htt := HR.out.tN hxp0
      have hne := HR.out.ftne hxp0
      have HPP := Lib.hid (HR.out.p x hxp0)
      have fbd := Mn.okF_bd HPP.out (HO.out x hxp0)
      have HQB := Lib.hid (Mn.fall_bd HPP.out fbd.1 fbd.2)
      obtain ⟨KT, KV, ff, rr, hkv, hm, he, hcf⟩ := fall_of m x HPP.out (f x) fbd.1 fbd.2
      have HCF := Lib.hid hcf
      have HKV := Lib.hid hkv
      obtain ⟨fb, ef, df⟩ := HF.out.at1 hxp0
      subst ef
      have DF := Lib.hid df
      have hxz : (x : Int) < (m.pn : Int) := by omega
      obtain ⟨H, hH⟩ : ∃ H, H = Mn.headTo m f l (Mn.head0 m) k := ⟨_, rfl⟩
      rw [← hH] at HSX hS hhb
      obtain ⟨wy, hwy⟩ : ∃ wy : Int, wy = if fw then 1 else -1 := ⟨_, rfl⟩
      obtain ⟨fn, hfn⟩ : ∃ fn : Nat, fn = if fw then Mn.fN m x else Mn.tN m x := ⟨_, rfl⟩
      obtain ⟨tn, htn0⟩ : ∃ tn : Nat, tn = if fw then Mn.tN m x else Mn.fN m x := ⟨_, rfl⟩
      have HWY : Hid (wy = 1 ∨ wy = -1) := by show _ ∨ _; rw [hwy]; cases fw <;> simp
      have HHS : Hid (Mn.headTo m f l (Mn.head0 m) (k + 1) = updI H tn (H fn - wy * Mn.fall m x (f x))) := by
        show _ = _
        rw [HSX.out, hwy, hfn, htn0]
        cases fw with
        | true => simp [Mn.headStep]
        | false =>
          have e1 : H (Mn.tN m x) - -1 * Mn.fall m x (f x) = H (Mn.tN m x) + Mn.fall m x (f x) := by omega
          simp only [Mn.headStep]
          simp only [Bool.false_eq_true, if_false]
          rw [e1]
      have HHB : Hid (∀ j, -20000000000000000 ≤ H j ∧ H j ≤ 20000000000000000) := by
        intro j
        have h1 := hhb j
        have h2 : (k : Int) ≤ 11 := by omega
        omega
      have hfnb : fn < Mn.nn m := by rw [hfn]; cases fw <;> simp [hff.2, htt.2]
      have htnb : tn < Mn.nn m := by rw [htn0]; cases fw <;> simp [hff.2, htt.2]
      have HNE : Hid (fn ≠ tn) := by
        show _ ≠ _
        rw [hfn, htn0]
        cases fw
        · simp; exact fun e => hne e.symm
        · simp; exact hne
      have t2' : wr.cell? ⟨tg, k * 4 + 2, none⟩ = some (.int .i64 (fn : Int)) := by rw [t2, hfn]; cases fw <;> rfl
      have t3' : wr.cell? ⟨tg, k * 4 + 3, none⟩ = some (.int .i64 (tn : Int)) := by rw [t3, htn0]; cases fw <;> rfl
      rw [← hwy] at t1
      have htn := Lib.hid htnb
      have hfz : (fn : Int) < (Mn.nn m : Int) := by omega
      have htz : (tn : Int) < (Mn.nn m : Int) := by omega
      have RB : Hid ((wr.alloc (.cells #[.int .i64 (x : Int), .int .i64 wy, .int .i64 (fn : Int), .int .i64 (tn : Int)] 117)).rowIs wr.heap.size 117 4 (rowN [.int .i64 (x : Int), .int .i64 wy, .int .i64 (fn : Int), .int .i64 (tn : Int)])) := rowN_alloc wr _ _
      have HFC := Lib.hid hfnb
      clear hx hxp0 fbd df q5 q6 hff htt hhb HSX hH hne t2 t3 hcf hkv old hwy hfn htn0 htnb hfnb
      go_wp2_with fail
      obtain ⟨V0, hV0⟩ : ∃ V0, V0 = wr.alloc (.cells #[.int .i64 (x : Int), .int .i64 wy, .int .i64 (fn : Int), .int .i64 (tn : Int)] 117) := ⟨_, rfl⟩
      rw [← hV0] at RB ⊢
      have hbV : Below wr.heap.size wr V0 := by rw [hV0]; exact nbel_alloc _ _
      have HGB : Hid (wr.heap.size ≠ w.heap.size + 1) := by show _ ≠ _; have := hS.out.hd.lt; omega
      have SV := Lib.hid (hS.out.below hbV)
      obtain ⟨gb, hgb⟩ : ∃ gb, gb = wr.heap.size := ⟨_, rfl⟩
      rw [← hgb] at RB HGB ⊢
      have HG0 : Hid (HgS m x fn tn wy 0 gb gk (some ⟨fb, 0, none⟩) fc la ln lk H w V0.drew) := HgS.below ⟨RB.out, SV.out.rr, SV.out.hd.cell HFC.out, SV.out.old, rfl⟩ (Below.refl _ _).drew
      have HDI : Hid (IsBlk 2 (w.heap.size + 1) (Mn.nn m) H V0) := SV.out.hd
      clear hV0 hbV hS hgb t0 t1 t2' t3' ltg RB
      refine wp_region_held_drew (S := HgS m x fn tn wy 0 gb gk (some ⟨fb, 0, none⟩) fc la ln lk H w) (by kernel_rfl) HG0.out (fun hHeld => ?_)
      refine take_do (i := 0) (v := (.slice (some ⟨w.heap.size + 1, 0, none⟩) (Mn.nn m) (Mn.nn m))) rfl (by kernel_rfl) (by kernel_rfl) (by kernel_rfl) (fun _ _ _ h => h) (by rfl) ?_ (by assumption) ?_
      · intro w' hSw
        skip
        go_simp
      simp only [Act.put, List.setIfInBounds_toArray, List.set_cons_zero, List.set_cons_succ]
      refine take_do (i := 1) (v := (.pointer (some ⟨gb, 3, none⟩))) rfl (by kernel_rfl) (by kernel_rfl) (by kernel_rfl) (fun _ _ _ h => h) (by rfl) ?_ (by assumption) ?_
      · intro w' hSw
        skip
        go_simp
      simp only [Act.put, List.setIfInBounds_toArray, List.set_cons_zero, List.set_cons_succ]
      refine take_do (i := 2) (v := (.int .i64 (tn : Int))) rfl (by kernel_rfl) (by kernel_rfl) (by kernel_rfl) (fun _ _ _ h => h) (by rfl) ?_ (by assumption) ?_
      · intro w' hSw
        obtain ⟨⟨b0, b1, b2, b3⟩, _⟩ := rowN4 hSw.rb
        go_simp
      simp only [Act.put, List.setIfInBounds_toArray, List.set_cons_zero, List.set_cons_succ]
      refine take_do (i := 3) (v := (.slice (some ⟨w.heap.size + 1, 0, none⟩) (Mn.nn m) (Mn.nn m))) rfl (by kernel_rfl) (by kernel_rfl) (by kernel_rfl) (fun _ _ _ h => h) (by rfl) ?_ (by assumption) ?_
      · intro w' hSw
        skip
        go_simp
      simp only [Act.put, List.setIfInBounds_toArray, List.set_cons_zero, List.set_cons_succ]
      refine take_do (i := 4) (v := (.pointer (some ⟨gb, 2, none⟩))) rfl (by kernel_rfl) (by kernel_rfl) (by kernel_rfl) (fun _ _ _ h => h) (by rfl) ?_ (by assumption) ?_
      · intro w' hSw
        skip
        go_simp
      simp only [Act.put, List.setIfInBounds_toArray, List.set_cons_zero, List.set_cons_succ]
      refine take_do (i := 5) (v := (.int .i64 (fn : Int))) rfl (by kernel_rfl) (by kernel_rfl) (by kernel_rfl) (fun _ _ _ h => h) (by rfl) ?_ (by assumption) ?_
      · intro w' hSw
        obtain ⟨⟨b0, b1, b2, b3⟩, _⟩ := rowN4 hSw.rb
        go_simp
      simp only [Act.put, List.setIfInBounds_toArray, List.set_cons_zero, List.set_cons_succ]
      refine take_do (i := 6) (v := (.pointer (some ⟨w.heap.size + 1, fn, none⟩))) rfl (by kernel_rfl) (by kernel_rfl) (by kernel_rfl) (fun _ _ _ h => h) (by rfl) ?_ (by assumption) ?_
      · intro w' hSw
        skip
        go_simp
      simp only [Act.put, List.setIfInBounds_toArray, List.set_cons_zero, List.set_cons_succ]
      refine take_do (i := 7) (v := (.int .i64 (H fn))) rfl (by kernel_rfl) (by kernel_rfl) (by kernel_rfl) (fun _ _ _ h => h) (by rfl) ?_ (by assumption) ?_
      · intro w' hSw
        have hc := hSw.c
        go_simp
      simp only [Act.put, List.setIfInBounds_toArray, List.set_cons_zero, List.set_cons_succ]
      refine take_do (i := 8) (v := (.pointer (some ⟨gb, 1, none⟩))) rfl (by kernel_rfl) (by kernel_rfl) (by kernel_rfl) (fun _ _ _ h => h) (by rfl) ?_ (by assumption) ?_
      · intro w' hSw
        skip
        go_simp
      simp only [Act.put, List.setIfInBounds_toArray, List.set_cons_zero, List.set_cons_succ]
      refine take_do (i := 9) (v := (.int .i64 wy)) rfl (by kernel_rfl) (by kernel_rfl) (by kernel_rfl) (fun _ _ _ h => h) (by rfl) ?_ (by assumption) ?_
      · intro w' hSw
        obtain ⟨⟨b0, b1, b2, b3⟩, _⟩ := rowN4 hSw.rb
        go_simp
      simp only [Act.put, List.setIfInBounds_toArray, List.set_cons_zero, List.set_cons_succ]
      refine take_do (i := 10) (v := (.pointer (some ⟨w.heap.size, 1, none⟩))) rfl (by kernel_rfl) (by kernel_rfl) (by kernel_rfl) (fun _ _ _ h => h) (by rfl) ?_ (by assumption) ?_
      · intro w' hSw
        skip
        go_simp
      simp only [Act.put, List.setIfInBounds_toArray, List.set_cons_zero, List.set_cons_succ]
      refine take_do (i := 11) (v := (.slice (some ⟨gk, 0, none⟩) m.pn m.pn)) rfl (by kernel_rfl) (by kernel_rfl) (by kernel_rfl) (fun _ _ _ h => h) (by rfl) ?_ (by assumption) ?_
      · intro w' hSw
        obtain ⟨⟨r0, r1, r2⟩, _⟩ := rowN3 hSw.rr
        go_simp
      simp only [Act.put, List.setIfInBounds_toArray, List.set_cons_zero, List.set_cons_succ]
      refine take_do (i := 12) (v := (.pointer (some ⟨gb, 0, none⟩))) rfl (by kernel_rfl) (by kernel_rfl) (by kernel_rfl) (fun _ _ _ h => h) (by rfl) ?_ (by assumption) ?_
      · intro w' hSw
        skip
        go_simp
      simp only [Act.put, List.setIfInBounds_toArray, List.set_cons_zero, List.set_cons_succ]
      refine take_do (i := 13) (v := (.int .i64 (x : Int))) rfl (by kernel_rfl) (by kernel_rfl) (by kernel_rfl) (fun _ _ _ h => h) (by rfl) ?_ (by assumption) ?_
      · intro w' hSw
        obtain ⟨⟨b0, b1, b2, b3⟩, _⟩ := rowN4 hSw.rb
        go_simp
      simp only [Act.put, List.setIfInBounds_toArray, List.set_cons_zero, List.set_cons_succ]
      refine take_do (i := 14) (v := (.pointer (some ⟨gk, x, none⟩))) rfl (by kernel_rfl) (by kernel_rfl) (by kernel_rfl) (fun _ _ _ h => h) (by rfl) ?_ (by assumption) ?_
      · intro w' hSw
        skip
        go_simp
      simp only [Act.put, List.setIfInBounds_toArray, List.set_cons_zero, List.set_cons_succ]
      refine take_do (i := 15) (v := (.iface KT KV)) rfl (by kernel_rfl) (by kernel_rfl) (by kernel_rfl) (fun _ _ _ h => h) (by rfl) ?_ (by assumption) ?_
      · intro w' hSw
        have ck := kd_cell (HK.out.below hSw.old) hxp.out
        rw [HKV.out] at ck
        go_simp
      simp only [Act.put, List.setIfInBounds_toArray, List.set_cons_zero, List.set_cons_succ]
      refine take_do (i := 16) (v := (.pointer (some ⟨w.heap.size, 2, none⟩))) rfl (by kernel_rfl) (by kernel_rfl) (by kernel_rfl) (fun _ _ _ h => h) (by rfl) ?_ (by assumption) ?_
      · intro w' hSw
        skip
        go_simp
      simp only [Act.put, List.setIfInBounds_toArray, List.set_cons_zero, List.set_cons_succ]
      refine take_do (i := 17) (v := (.slice (some ⟨fb, 0, none⟩) m.pn fc)) rfl (by kernel_rfl) (by kernel_rfl) (by kernel_rfl) (fun _ _ _ h => h) (by rfl) ?_ (by assumption) ?_
      · intro w' hSw
        obtain ⟨⟨r0, r1, r2⟩, _⟩ := rowN3 hSw.rr
        go_simp
      simp only [Act.put, List.setIfInBounds_toArray, List.set_cons_zero, List.set_cons_succ]
      refine take_do (i := 18) (v := (.pointer (some ⟨gb, 0, none⟩))) rfl (by kernel_rfl) (by kernel_rfl) (by kernel_rfl) (fun _ _ _ h => h) (by rfl) ?_ (by assumption) ?_
      · intro w' hSw
        skip
        go_simp
      simp only [Act.put, List.setIfInBounds_toArray, List.set_cons_zero, List.set_cons_succ]
      refine take_do (i := 19) (v := (.int .i64 (x : Int))) rfl (by kernel_rfl) (by kernel_rfl) (by kernel_rfl) (fun _ _ _ h => h) (by rfl) ?_ (by assumption) ?_
      · intro w' hSw
        obtain ⟨⟨b0, b1, b2, b3⟩, _⟩ := rowN4 hSw.rb
        go_simp
      simp only [Act.put, List.setIfInBounds_toArray, List.set_cons_zero, List.set_cons_succ]
      refine take_do (i := 20) (v := (.pointer (some ⟨fb, x, none⟩))) rfl (by kernel_rfl) (by kernel_rfl) (by kernel_rfl) (fun _ _ _ h => h) (by rfl) ?_ (by assumption) ?_
      · intro w' hSw
        skip
        go_simp
      simp only [Act.put, List.setIfInBounds_toArray, List.set_cons_zero, List.set_cons_succ]
      refine take_do (i := 21) (v := (.int .i64 (f x))) rfl (by kernel_rfl) (by kernel_rfl) (by kernel_rfl) (fun _ _ _ h => h) (by rfl) ?_ (by assumption) ?_
      · intro w' hSw
        have df := (hSw.old.cell (World.block_lt_of_cell? _ _ DF.out)).trans DF.out
        go_simp
      simp only [Act.put, List.setIfInBounds_toArray, List.set_cons_zero, List.set_cons_succ]
      refine take_do (i := 22) (v := (.iface KT KV)) rfl (by kernel_rfl) (by kernel_rfl) (by kernel_rfl) (fun _ _ _ h => h) (by rfl) ?_ (by assumption) ?_
      · intro w' hSw
        skip
        go_simp
      simp only [Act.put, List.setIfInBounds_toArray, List.set_cons_zero, List.set_cons_succ]
      refine take_do (i := 23) (v := (.iface KT KV)) rfl (by kernel_rfl) (by kernel_rfl) (by kernel_rfl) (fun _ _ _ h => h) (by rfl) ?_ (by assumption) ?_
      · intro w' hSw
        skip
        go_simp
      simp only [Act.put, List.setIfInBounds_toArray, List.set_cons_zero, List.set_cons_succ]
      refine take_call (i := 24) rfl (by kernel_rfl) (fun K2 hK => ?_)
      go_simp
      refine (HCF.out _).mono ?_
      rintro e w5 ⟨rfl, hb⟩
      obtain ⟨Q, hQ⟩ : ∃ Q, Q = Mn.fall m x (f x) := ⟨_, rfl⟩
      rw [← hQ] at HQB HHS ⊢
      clear hQ
      replace HDI := Lib.hid (HDI.out.below ((Below.refl _ _).drew.trans (hb.mono (Nat.le_refl _))))
      go_wp2_with fail
      refine hK.out _ _ (hHeld.below hb) (fun hHeld2 => ?_)
      clear hK hHeld hb
      have hHeld := hHeld2
      clear hHeld2
      have HM1 : Hid (IntKind.i64.wrap (wy * Q) = wy * Q) := by
        obtain ⟨q1, q2⟩ := HQB.out
        rcases HWY.out with e | e <;> rw [e] <;> exact mwrap_id (by omega) (by omega)
      have HM2 : Hid (IntKind.i64.wrap (H fn - wy * Q) = H fn - wy * Q) := by
        obtain ⟨q1, q2⟩ := HQB.out
        obtain ⟨q3, q4⟩ := HHB.out fn
        rcases HWY.out with e | e <;> rw [e] <;> exact mwrap_id (by omega) (by omega)
      refine take_do (i := 25) (v := (.int .i64 (wy * Q))) rfl (by kernel_rfl) (by kernel_rfl) (by kernel_rfl) (fun _ _ _ h => h) (by rfl) ?_ (by assumption) ?_
      · intro w' hSw
        have hq := HM1.out
        go_simp
      simp only [Act.put, List.setIfInBounds_toArray, List.set_cons_zero, List.set_cons_succ]
      refine take_do (i := 26) (v := (.int .i64 (H fn - wy * Q))) rfl (by kernel_rfl) (by kernel_rfl) (by kernel_rfl) (fun _ _ _ h => h) (by rfl) ?_ (by assumption) ?_
      · intro w' hSw
        have hq := HM2.out
        go_simp
      simp only [Act.put, List.setIfInBounds_toArray, List.set_cons_zero, List.set_cons_succ]
      refine take_do (i := 27) (v := (.pointer (some ⟨w.heap.size + 1, tn, none⟩))) rfl (by kernel_rfl) (by kernel_rfl) (by kernel_rfl) (fun _ _ _ h => h) (by rfl) ?_ (by assumption) ?_
      · intro w' hSw
        skip
        go_simp
      simp only [Act.put, List.setIfInBounds_toArray, List.set_cons_zero, List.set_cons_succ]
      have o0 := HDI.out.cell htn.out
      have z0 := HDI.out.frozen tn
      have l0 := HDI.out.lt
      obtain ⟨WZ, hWZ⟩ : ∃ WZ, WZ = w5.setCell ⟨w.heap.size + 1, tn, none⟩ (.int .i64 (H fn - wy * Q)) := ⟨_, rfl⟩
      have HBZ : Hid (HgS m x fn tn wy 0 gb gk (some ⟨fb, 0, none⟩) fc la ln lk H w WZ) := by
        show HgS _ _ _ _ _ _ _ _ _ _ _ _ _ _ _ _
        rw [hWZ]
        exact hHeld.put HNE.out HGB.out _
      have HFM : Hid (IsBlk 2 (w.heap.size + 1) (Mn.nn m) (updI H tn (H fn - wy * Q)) WZ) := by
        show IsBlk _ _ _ _ _
        rw [hWZ]
        exact HDI.out.set _ _
      have HWZ := Lib.hid hWZ
      clear hWZ
      refine take_call (i := 28) rfl (by kernel_rfl) (fun K2 hK => ?_)
      go_simp
      rw [← HWZ.out]
      refine hK.out _ _ HBZ.out (fun hHeld2 => ?_)
      clear hK hHeld hHeld2 HWZ o0 z0 l0
      refine wpAnyH_done (by kernel_rfl) ?_ _
      have S9 : Hid (HpS m la ln lk gk (some ⟨fb, 0, none⟩) fc (Mn.headTo m f l (Mn.head0 m) (k + 1)) w WZ) := ⟨HBZ.out.rr, by rw [HHS.out]; exact HFM.out, HBZ.out.old⟩
      clear HBZ HFM
      go_wp2_with fail
      go_roundw
      case rel => exact ⟨k + 1, by omega, by go_num, S9⟩
      case measure => simp [intOf]; omega
    · have hkz : ¬ (k : Int) < (l.length : Int) := by omega
      have HEQ : Hid (Mn.heads m f = Mn.headTo m f l (Mn.head0 m) k) := by show _ = _; rw [HHE.out, show k = l.length by omega]
      go_wp2_with fail
      go_ret
      exact ⟨⟨_, rfl, by rw [HEQ.out]; exact hS.out.hd, by omega⟩, hS.out.old⟩
end Go.Proofs.YtfgmalnkpgloiaaGreatDoor
