/-
  Heads along the tree: the model's walk.
-/
import Derived.Test.YtfgmalnkpgloiaaGreatDoorMnV3
namespace Go.Proofs.YtfgmalnkpgloiaaGreatDoor
open Go.RowKit Go.Deep

namespace Mn
theorem cnt_all {s : Nat → Bool} : ∀ n, (∀ j, j < n → s j = true) → cnt s n = n
  | 0, _ => rfl
  | n + 1, h => by
    have := cnt_all n (fun j hj => h j (by omega))
    simp only [cnt, this, h n (by omega), if_true]
/-- Where all nodes are in, the tree has a branch for each but the first. -/
theorem fin_len {m : Mains} (hr : Right m) (ho : OutAt (fin m).1 (Mn.nn m) (-1)) : (fin m).2.length + 1 = Mn.nn m := by
  have key : ∀ t, ∃ k, Real m k ∧ iter m t = iter m k := by
    intro t
    induction t with
    | zero => exact ⟨0, fun k hk => absurd hk (Nat.not_lt_zero _), rfl⟩
    | succ t ih =>
      obtain ⟨k, h2, h3⟩ := ih
      cases e : nextP m (iter m k).1 with
      | none =>
        refine ⟨k, h2, ?_⟩
        show stepT m (iter m t) = _
        rw [h3]; simp [stepT, e]
      | some i =>
        refine ⟨k + 1, real_succ h2 e, ?_⟩
        show stepT m (iter m t) = stepT m (iter m k)
        rw [h3]
  obtain ⟨k, h2, h3⟩ := key 12
  have h := it_ok hr k h2
  have ha : ∀ j, j < Mn.nn m → (fin m).1 j = true := by
    rcases ho with ⟨i, _, h4, _⟩ | ⟨_, h4⟩
    · omega
    · exact h4
  unfold fin at ha ⊢
  rw [h3] at ha ⊢
  have h5 := cnt_all _ ha
  rw [h.cnt] at h5
  rw [h.len]; exact h5
end Mn
structure HdS (m : Mn.Mains) (pa : Option Addr) (pk : Nat) (la : Option Addr) (lk : Nat) (wa : Option Addr) (wk : Nat) (l : List (Nat × Bool)) (ta : Option Addr) (tc : Nat) (H : Nat → Int) (w W : World) : Prop where
  row : W.rowIs w.heap.size 27 5 (rowN (mnL m pa pk la lk wa wk))
  t : SpAt (.slice ta l.length tc) l W
  tb : ∀ g, ta = some ⟨g, 0, none⟩ → w.heap.size + 1 < g
  hd : IsBlk 2 (w.heap.size + 1) (Mn.nn m) H W
  old : Below w.heap.size w W
theorem HdS.below {m : Mn.Mains} {pa : Option Addr} {pk : Nat} {la : Option Addr} {lk : Nat} {wa : Option Addr} {wk : Nat} {l : List (Nat × Bool)} {ta : Option Addr} {tc : Nat} {H : Nat → Int} {w W W' : World} (h : HdS m pa pk la lk wa wk l ta tc H w W) (hb : Below W.heap.size W W') : HdS m pa pk la lk wa wk l ta tc H w W' := ⟨nrow_below h.row hb, h.t.below hb, h.tb, h.hd.below hb, h.old.trans (hb.mono h.old.size)⟩
theorem HdS.put {m : Mn.Mains} {pa : Option Addr} {pk : Nat} {la : Option Addr} {lk : Nat} {wa : Option Addr} {wk : Nat} {l : List (Nat × Bool)} {ta : Option Addr} {tc : Nat} {H : Nat → Int} {w W : World} (h : HdS m pa pk la lk wa wk l ta tc H w W) (i : Nat) (x : Int) : HdS m pa pk la lk wa wk l ta tc (updI H i x) w (W.setCell ⟨w.heap.size + 1, i, none⟩ (.int .i64 x)) := by
  refine ⟨h.row.of_block (Below.heap_setCell _ _ _ _ (by show w.heap.size ≠ w.heap.size + 1; omega)), ?_, h.tb, h.hd.set i x, h.old.setCell (p := ⟨w.heap.size + 1, i, none⟩) (by show w.heap.size ≤ w.heap.size + 1; omega) _⟩
  obtain ⟨a, c, e, h2⟩ := h.t
  cases e
  refine ⟨ta, tc, rfl, ?_⟩
  rcases h2 with h2 | ⟨g, e1, h1, h2⟩
  · exact Or.inl h2
  · have hg := h.tb g e1
    refine Or.inr ⟨g, e1, by rw [World.size_setCell]; exact h1, fun k x hk => ?_⟩
    have := h2 k x hk
    exact ⟨(World.cell?_setCell_far _ _ _ _ (by show w.heap.size + 1 ≠ g; omega)).trans this.1, (World.cell?_setCell_far _ _ _ _ (by show w.heap.size + 1 ≠ g; omega)).trans this.2⟩
theorem mmk_nodes2 (m : Mn.Mains) (hr : Mn.Right m) (w : World) : (Instr.makeSlice 25 (.int .i64 m.nodes) (.int .i64 m.nodes)).run Tryz.prog w = .ok (.slice (some ⟨w.heap.size, 0, none⟩) (Mn.nn m) (Mn.nn m)) (w.alloc (.cells (madeCells #[.int .i64 0] (Mn.nn m)) 2)) := by
  have h := hr.nn
  rw [h.1]
  exact mmk_i64 (Mn.nn m) (by omega) w
theorem mis_new1 (w : World) (n : Nat) (x : Int) (hn : 1 ≤ n) : IsBlk 2 w.heap.size n (updI (fun _ => 0) 0 x) (w.alloc (.cells ((madeCells #[.int .i64 0] n).setIfInBounds 0 (.int .i64 x)) 2)) := by
  refine ⟨n, fun j => .int .i64 (updI (fun _ => 0) 0 x j), Nat.le_refl _, ⟨_, blk_alloc_new _ _, by simp [size_madeCells], fun i hi => ?_⟩, fun _ _ => rfl⟩
  rw [Array.getElem?_setIfInBounds]
  by_cases e : i = 0
  · subst e; simp [size_madeCells, updI]; omega
  · have e' : ¬ 0 = i := fun h => e h.symm
    simp [madeCells, hi, e', Nat.mod_one, updI, e]
set_option maxRecDepth 100000 in
set_option maxHeartbeats 16000000 in
theorem sheads_any (m : Mn.Mains) (pa : Option Addr) (pk : Nat) (la : Option Addr) (lk : Nat) (wa : Option Addr) (wk : Nat) (fa : Option Addr) (fc : Nat) (f : Nat → Int) (w : World) (h : MnAt m pa la wa w) (hf : IsAt fa m.pn f w) (hr : Mn.Right m) (ho : Mn.AllOk m f) :
    Calls Tryz.prog 34 #[mnV m pa pk la lk wa wk, .slice fa m.pn fc] w fun e w' => (∃ g, e = .returned (.slice (some ⟨g, 0, none⟩) (Mn.nn m) (Mn.nn m)) ∧ IsBlk 2 g (Mn.nn m) (Mn.heads m f) w' ∧ w.heap.size ≤ g) ∧ Below w.heap.size w w' := by
  have hmk := mmk_nodes2 m hr
  have hmc : (madeCells #[.int .i64 0] (Mn.nn m))[0]? = some (.int .i64 0) := by have h := hr.nn; have h0 : 0 < Mn.nn m := h.2.1; simp [madeCells, h0]
  obtain ⟨hnn, hn1, hn2, hwn⟩ := hr.nn
  have hn0 : (0 : Int) < (Mn.nn m : Int) := by omega
  have HR := Lib.hid hr
  have HO := Lib.hid ho
  obtain ⟨W0, hW0⟩ : ∃ W0, W0 = (w.alloc (.cells #[.int .i64 m.nodes, .int .i64 m.head, .slice pa m.pn pk, .slice la m.ln lk, .slice wa m.wn wk] 27)).alloc (.cells ((madeCells #[.int .i64 0] (Mn.nn m)).setIfInBounds 0 (.int .i64 m.head)) 2) := ⟨_, rfl⟩
  have S0 : Hid (W0.rowIs w.heap.size 27 5 (rowN (mnL m pa pk la lk wa wk)) ∧ MnAt m pa la wa W0 ∧ IsAt fa m.pn f W0 ∧ IsBlk 2 (w.heap.size + 1) (Mn.nn m) (Mn.head0 m) W0 ∧ Below w.heap.size w W0) := by
    show _ ∧ _
    rw [hW0]
    refine ⟨nrow_below (rowN_alloc w _ _) (nbel_alloc _ _), (h.below (nbel_alloc _ _)).below (nbel_alloc _ _), (hf.below (nbel_alloc _ _)).below (nbel_alloc _ _), ?_, mbel2 _ _ _⟩
    have := mis_new1 (w.alloc (.cells #[.int .i64 m.nodes, .int .i64 m.head, .slice pa m.pn pk, .slice la m.ln lk, .slice wa m.wn wk] 27)) (Mn.nn m) m.head hn1
    rw [World.size_alloc] at this
    exact this
  have HW0 := Lib.hid hW0
  have HA := Lib.hid h
  have HFA := Lib.hid hf
  clear h hf hr ho hnn hwn hW0
  go_enter Tryz.func34, Tryz.ntmps34
  go_wp2_with fail
  rw [← HW0.out]
  refine (stree_any m pa pk la lk wa wk _ S0.out.2.1 HR.out).mono ?_
  rintro e w2 ⟨⟨tv, r, rfl, hot, hout⟩, hb⟩
  have hrb : -1 ≤ r ∧ r < 12 := by
    have := HR.out.nn
    rcases hout with ⟨i, h1, h2, _⟩ | ⟨h1, _⟩ <;> omega
  obtain ⟨hrb1, hrb2⟩ := hrb
  obtain ⟨ta, tc, etv, _⟩ := sp_of hot
  subst etv
  have hsp := sp_of hot
  have htb : ∀ g, ta = some ⟨g, 0, none⟩ → w.heap.size + 1 < g := fun g eg => by
    have h1 := (hot.lt g (by rw [eg]; rfl)).1
    have h2 := S0.out.2.2.2.1.lt
    omega
  obtain ⟨l, hl⟩ : ∃ l, l = (Mn.fin m).2 := ⟨_, rfl⟩
  have hfin := Mn.fin_ok HR.out
  rw [← hl] at hsp hfin ⊢
  have HFI := Lib.hid hfin
  have HHE : Hid (Mn.heads m f = Mn.headTo m f l (Mn.head0 m) l.length) := by show _ = _; rw [hl]; rfl
  have hll : l.length ≤ 11 := by omega
  have ST : Hid (HdS m pa pk la lk wa wk l ta tc (Mn.headTo m f l (Mn.head0 m) 0) w w2) := ⟨nrow_below S0.out.1 hb, hsp, htb, S0.out.2.2.2.1.below hb, S0.out.2.2.2.2.trans (hb.mono S0.out.2.2.2.2.size)⟩
  clear hout hot hb S0 HW0 hsp htb hl hfin hmk hmc
  go_wp2_with fail
  go_loopw [8] (fun kv wr => ∃ (k : Nat), k ≤ l.length ∧ kv = .int .i64 k ∧ Hid (HdS m pa pk la lk wa wk l ta tc (Mn.headTo m f l (Mn.head0 m) k) w wr)) (fun kv _ => l.length - (intOf kv).toNat)
  case atStart => exact ⟨0, Nat.zero_le _, rfl, ST⟩
  case round =>
    obtain ⟨k, hk, rfl, hS⟩ := hrel
    clear ST
    by_cases hlt : k < l.length
    · have hltz : (k : Int) < (l.length : Int) := by omega
      obtain ⟨xe, hx⟩ : ∃ xe, l[k]? = some xe := ⟨_, List.getElem?_eq_getElem hlt⟩
      have hxp := HFI.out.2 xe (List.mem_of_getElem? hx)
      have hhb := Mn.head_bd HR.out HO.out HFI.out.2 k
      have HSX : Hid (Mn.headTo m f l (Mn.head0 m) (k + 1) = Mn.headStep m f xe (Mn.headTo m f l (Mn.head0 m) k)) := by show _ = _; simp only [Mn.headTo, hx]
      obtain ⟨_, _, e3, q3⟩ := hS.out.t
      rcases q3 with q3 | ⟨tg, q4, q5, q6⟩
      · rw [q3] at hlt; exact absurd hlt (by simp)
      cases e3
      subst q4
      obtain ⟨t0, t1⟩ := q6 k xe hx
      obtain ⟨x, fw⟩ := xe
      simp only at hxp t0 t1
      have hff := HR.out.fN hxp
      have htt := HR.out.tN hxp
      have hne := HR.out.ftne hxp
      have HPP := Lib.hid (HR.out.p x hxp)
      have fbd := Mn.okF_bd HPP.out (HO.out x hxp)
      have HB1 := Lib.hid fbd.1
      have HB2 := Lib.hid fbd.2
      have HQB := Lib.hid (Mn.fall_bd HPP.out fbd.1 fbd.2)
      obtain ⟨fb, ef, df⟩ := (HFA.out.below hS.out.old).at1 hxp
      subst ef
      obtain ⟨pb, epb, c0, c1, c2, c3, c4⟩ := (HA.out.below hS.out.old).p.at5 hxp
      subst epb
      obtain ⟨⟨r0, r1, r2, r3, r4⟩, _⟩ := rowN5 hS.out.row
      have hxz : (x : Int) < (m.pn : Int) := by omega
      have lpb : pb < wr.heap.size := World.block_lt_of_cell? _ _ c0
      have ltg : tg < wr.heap.size := q5
      have lzz : w.heap.size < wr.heap.size := hS.out.row.lt
      have DF0 := Lib.hid df
      have T00 := Lib.hid t0
      have T10 := Lib.hid t1
      have HFF := Lib.hid hff
      have HTT := Lib.hid htt
      obtain ⟨H, hH⟩ : ∃ H, H = Mn.headTo m f l (Mn.head0 m) k := ⟨_, rfl⟩
      rw [← hH] at HSX hS hhb
      have HHS : Hid (Mn.headTo m f l (Mn.head0 m) (k + 1) = if fw then updI H (Mn.tN m x) (H (Mn.fN m x) - Mn.fall m x (f x)) else updI H (Mn.fN m x) (H (Mn.tN m x) + Mn.fall m x (f x))) := by show _ = _; rw [HSX.out]; rfl
      have HHB : Hid (∀ j, -20000000000000000 ≤ H j ∧ H j ≤ 20000000000000000) := by
        intro j
        have h1 := hhb j
        have h2 : (k : Int) ≤ 11 := by omega
        omega
      clear hx fbd df q5 q6 hff htt hhb HSX hH t1
      go_wp2_with fail
      go_cut [9] (fun p V => ∃ gb, p = .pointer (some ⟨gb, 0, none⟩) ∧ Hid (V.rowIs gb 36 5 (rowN [.int .i64 (m.P (x * 5)), .int .i64 (m.P (x * 5 + 1)), .int .i64 (m.P (x * 5 + 2)), .int .i64 (m.P (x * 5 + 3)), .int .i64 (m.P (x * 5 + 4))]) ∧ Below wr.heap.size wr V))
      case first =>
        go_region
        go_wp2_with fail
        go_meet
        case rel => exact ⟨wr.heap.size, rfl, nrow_below (rowN_alloc wr _ _) (Below.refl _ _).drew, (nbel_alloc wr _).drew⟩
      case rest =>
        obtain ⟨gb, rfl, hC⟩ := hcut
        obtain ⟨V0, hV0⟩ : ∃ V0, V0 = wc := ⟨_, rfl⟩
        rw [← hV0] at hC ⊢
        clear hV0
        have SV := Lib.hid (hS.out.below hC.out.2)
        have RP := Lib.hid hC.out.1
        have DF : Hid (V0.cell? ⟨fb, x, none⟩ = some (.int .i64 (f x))) := (hC.out.2.cell (World.block_lt_of_cell? _ _ DF0.out)).trans DF0.out
        have T0 : Hid (V0.cell? ⟨tg, k * 2, none⟩ = some (.int .i64 (x : Int))) := (hC.out.2.cell (World.block_lt_of_cell? _ _ T00.out)).trans T00.out
        have T1 : Hid (V0.cell? ⟨tg, k * 2 + 1, none⟩ = some (.bool fw)) := (hC.out.2.cell (World.block_lt_of_cell? _ _ T10.out)).trans T10.out
        clear hC hS DF0 T00 T10 r0 r1 r2 r3 r4 c0 c1 c2 c3 c4 t0 lpb ltg
        go_wp2_with fail
        refine wp_region_held_drew (S := fun V => Below V0.heap.size V0 V) (by kernel_rfl) (Below.refl _ _).drew (fun hHeld => ?_)
        obtain ⟨Z, hZ⟩ : ∃ Z, Z = V0.drew := ⟨_, rfl⟩
        rw [← hZ] at hHeld ⊢
        clear hZ
        refine take_do (i := 0) (v := (pipeV m x)) rfl (by kernel_rfl) (by kernel_rfl) (by kernel_rfl) (fun _ _ _ h => h) (by rfl) ?_ (by assumption) ?_
        · intro w hSw
          obtain ⟨⟨r0, r1, r2, r3, r4⟩, _⟩ := rowN5 (nrow_below RP.out hSw)
          go_simp
        simp only [Act.put, List.setIfInBounds_toArray, List.set_cons_zero, List.set_cons_succ]
        refine take_do (i := 1) (v := (.slice (some ⟨fb, 0, none⟩) m.pn fc)) rfl (by kernel_rfl) (by kernel_rfl) (by kernel_rfl) (fun _ _ _ h => h) (by rfl) ?_ (by assumption) ?_
        · intro w hSw
          skip
          go_simp
        simp only [Act.put, List.setIfInBounds_toArray, List.set_cons_zero, List.set_cons_succ]
        refine take_do (i := 2) (v := (.slice (some ⟨tg, 0, none⟩) l.length tc)) rfl (by kernel_rfl) (by kernel_rfl) (by kernel_rfl) (fun _ _ _ h => h) (by rfl) ?_ (by assumption) ?_
        · intro w hSw
          skip
          go_simp
        simp only [Act.put, List.setIfInBounds_toArray, List.set_cons_zero, List.set_cons_succ]
        refine take_do (i := 3) (v := (.int .i64 k)) rfl (by kernel_rfl) (by kernel_rfl) (by kernel_rfl) (fun _ _ _ h => h) (by rfl) ?_ (by assumption) ?_
        · intro w hSw
          skip
          go_simp
        simp only [Act.put, List.setIfInBounds_toArray, List.set_cons_zero, List.set_cons_succ]
        refine take_do (i := 4) (v := (.pointer (some ⟨tg, k * 2, none⟩))) rfl (by kernel_rfl) (by kernel_rfl) (by kernel_rfl) (fun _ _ _ h => h) (by rfl) ?_ (by assumption) ?_
        · intro w hSw
          skip
          go_simp
        simp only [Act.put, List.setIfInBounds_toArray, List.set_cons_zero, List.set_cons_succ]
        refine take_do (i := 5) (v := (.pointer (some ⟨tg, k * 2, none⟩))) rfl (by kernel_rfl) (by kernel_rfl) (by kernel_rfl) (fun _ _ _ h => h) (by rfl) ?_ (by assumption) ?_
        · intro w hSw
          skip
          go_simp
        simp only [Act.put, List.setIfInBounds_toArray, List.set_cons_zero, List.set_cons_succ]
        refine take_do (i := 6) (v := (.int .i64 ((x : Nat) : Int))) rfl (by kernel_rfl) (by kernel_rfl) (by kernel_rfl) (fun _ _ _ h => h) (by rfl) ?_ (by assumption) ?_
        · intro w hSw
          have t0 := (hSw.cell (World.block_lt_of_cell? _ _ T0.out)).trans T0.out
          go_simp
        simp only [Act.put, List.setIfInBounds_toArray, List.set_cons_zero, List.set_cons_succ]
        refine take_do (i := 7) (v := (.pointer (some ⟨fb, x, none⟩))) rfl (by kernel_rfl) (by kernel_rfl) (by kernel_rfl) (fun _ _ _ h => h) (by rfl) ?_ (by assumption) ?_
        · intro w hSw
          skip
          go_simp
        simp only [Act.put, List.setIfInBounds_toArray, List.set_cons_zero, List.set_cons_succ]
        refine take_do (i := 8) (v := (.int .i64 (f x))) rfl (by kernel_rfl) (by kernel_rfl) (by kernel_rfl) (fun _ _ _ h => h) (by rfl) ?_ (by assumption) ?_
        · intro w hSw
          have df := (hSw.cell (World.block_lt_of_cell? _ _ DF.out)).trans DF.out
          go_simp
        simp only [Act.put, List.setIfInBounds_toArray, List.set_cons_zero, List.set_cons_succ]
        refine take_call (i := 9) rfl (by kernel_rfl) (fun K2 hK => ?_)
        go_simp
        refine (sfall_any m x HPP.out (f x) HB1.out HB2.out _).mono ?_
        rintro e w3 ⟨rfl, hb⟩
        go_wp2_with fail
        refine hK.out _ _ (hHeld.trans (hb.mono hHeld.size)) (fun hHeld2 => ?_)
        clear hK hHeld hb
        have hHeld := hHeld2
        clear hHeld2
        obtain ⟨Q, hQ⟩ : ∃ Q, Q = Mn.fall m x (f x) := ⟨_, rfl⟩
        rw [← hQ] at HQB HHS ⊢
        clear hQ
        refine take_do (i := 10) (v := (.int .i64 Q)) rfl (by kernel_rfl) (by kernel_rfl) (by kernel_rfl) (fun _ _ _ h => h) (by rfl) ?_ (by assumption) ?_
        · intro w hSw
          skip
          go_simp
        simp only [Act.put, List.setIfInBounds_toArray, List.set_cons_zero, List.set_cons_succ]
        refine wpAnyH_done (by kernel_rfl) ?_ _
        have S3 := Lib.hid (SV.out.below hHeld)
        have RP3 := Lib.hid (nrow_below RP.out hHeld)
        have T13 : Hid (w3.cell? ⟨tg, k * 2 + 1, none⟩ = some (.bool fw)) := (hHeld.cell (World.block_lt_of_cell? _ _ T1.out)).trans T1.out
        clear hHeld
        obtain ⟨⟨p0, p1, p2, p3, p4⟩, _⟩ := rowN5 RP3.out
        have l3 := RP3.out.lt
        rw [HFF.out.1] at p1
        rw [HTT.out.1] at p2
        have t1 := T13.out
        have hc1 := S3.out.hd.cell HFF.out.2
        have hc2 := S3.out.hd.cell HTT.out.2
        have zc1 := S3.out.hd.frozen (Mn.fN m x)
        have zc2 := S3.out.hd.frozen (Mn.tN m x)
        have lh := S3.out.hd.lt
        obtain ⟨b1, b2⟩ := HHB.out (Mn.fN m x)
        obtain ⟨b3, b4⟩ := HHB.out (Mn.tN m x)
        obtain ⟨b5, b6⟩ := HQB.out
        have hfz : (Mn.fN m x : Int) < (Mn.nn m : Int) := by have := HFF.out.2; omega
        have htz : (Mn.tN m x : Int) < (Mn.nn m : Int) := by have := HTT.out.2; omega
        clear SV RP DF T0 T1 lzz
        cases fw with
        | true =>
          have HK : Hid (Mn.headTo m f l (Mn.head0 m) (k + 1) = updI H (Mn.tN m x) (H (Mn.fN m x) - Q)) := by show _ = _; rw [HHS.out]; rfl
          clear HHS
          go_wp2_with fail
          go_region
          go_wp2_with fail
          go_roundw
          case rel => exact ⟨k + 1, by omega, by go_num, by rw [HK.out]; exact (S3.out.put _ _).below ((Below.refl _ _).drew)⟩
          case measure => simp [intOf]; omega
        | false =>
          have HK : Hid (Mn.headTo m f l (Mn.head0 m) (k + 1) = updI H (Mn.fN m x) (H (Mn.tN m x) + Q)) := by show _ = _; rw [HHS.out]; rfl
          clear HHS
          go_wp2_with fail
          go_region
          go_wp2_with fail
          go_roundw
          case rel => exact ⟨k + 1, by omega, by go_num, by rw [HK.out]; exact (S3.out.put _ _).below ((Below.refl _ _).drew)⟩
          case measure => simp [intOf]; omega
    · have hkz : ¬ (k : Int) < (l.length : Int) := by omega
      have HEQ : Hid (Mn.heads m f = Mn.headTo m f l (Mn.head0 m) k) := by show _ = _; rw [HHE.out, show k = l.length by omega]
      go_wp2_with fail
      go_ret
      exact ⟨⟨_, rfl, by rw [HEQ.out]; exact hS.out.hd, by omega⟩, hS.out.old⟩
end Go.Proofs.YtfgmalnkpgloiaaGreatDoor
