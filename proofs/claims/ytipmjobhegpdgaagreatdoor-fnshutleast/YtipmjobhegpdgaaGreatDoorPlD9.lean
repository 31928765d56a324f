/-
  The model's dry places; homes and places that are shut off, both sides.
-/
import Derived.Test.YtipmjobhegpdgaaGreatDoorPlD2
namespace Go.Proofs.YtipmjobhegpdgaaGreatDoor
open Go Go.RowKit Go.Deep

theorem nil_dry {n : Pl.Plan} {m : Nat} {f : Nat → Int} (h : ¬ Pl.AskOk n m f) : Pl.dry n m f = [] := by
  unfold Pl.dry; rw [dB_ff h]; rfl
set_option maxRecDepth 100000 in
set_option maxHeartbeats 2000000 in
theorem specDry_any (n : Pl.Plan) (la : Option Addr) (lk : Nat) (fa : Option Addr) (fk : Nat) (wa : Option Addr) (wk : Nat) (a : Option Addr) (m cap : Nat) (f : Nat → Int) (w : World) (h : PlAt n la fa wa w) (hs : PlSmall n) (hl : IsAt a m f w) (hm : m ≤ 1048576) :
    Calls Tryz.prog 25 #[plV n la lk fa fk wa wk, .slice a m cap] w fun e w' => (∃ v, e = .returned v ∧ w'.ownsRow w.heap.size 2 1 v (Pl.dry n m f).length (numsV (Pl.dry n m f))) ∧ Below w.heap.size w w' := by
  obtain ⟨W0, hW⟩ : ∃ W, W = (w.alloc (.cells #[.slice la n.rn lk, .slice fa n.sn fk, .slice wa n.hn wk] 32)).alloc (.cells #[] 2) := ⟨_, rfl⟩
  have HB : Hid (Below w.heap.size w W0) := by show Below _ _ _; rw [hW]; exact ((Below.refl _ _).alloc (Nat.le_refl _) _).alloc (by simp) _
  have HR : Hid (W0.rowIs w.heap.size 32 3 (rowN (plL n la lk fa fk wa wk))) := by show World.rowIs _ _ _ _ _; rw [hW]; exact nrow_below (rowN_alloc w _ _) (nbel_alloc _ _)
  have HO : Hid (W0.ownsRow (w.heap.size + 1) 2 1 (.slice (some ⟨w.heap.size + 1, 0, none⟩) 0 0) 0 []) := by
    show World.ownsRow _ _ _ _ _ _ _
    rw [hW]
    have := World.ownsRow_made (base := w.heap.size + 1) (e := 2) (size := 1) (w.alloc (.cells #[.slice la n.rn lk, .slice fa n.sn fk, .slice wa n.hn wk] 32)) #[] 0 (by simp) (Nat.zero_le _) rfl
    simpa using this
  have HSZ : Hid (W0.heap.size = w.heap.size + 2) := by show W0.heap.size = _; rw [hW]; simp
  have H := Lib.hid h
  have HL := Lib.hid hl
  have HS := Lib.hid hs
  have HW := Lib.hid hW
  clear hW h hs hl
  by_cases c1 : (400 : Int) < (m : Int)
  · have HE := Lib.hid (nil_dry (n := n) (m := m) (f := f) (fun x => by have := x.n; omega))
    go_enter Tryz.func25, Tryz.ntmps25
    go_wp2_with fail
    rw [← HW.out]
    go_ret
    exact ⟨⟨_, rfl, by rw [HE.out]; exact own_low HO.out (by omega)⟩, HB.out⟩
  go_enter Tryz.func25, Tryz.ntmps25
  go_wp2_with fail
  rw [← HW.out]
  refine (specPlan_any n la lk fa fk wa wk _ (H.out.below HB.out) HS.out).mono ?_
  rintro e w1 ⟨rfl, hb1⟩
  have HB1 : Hid (Below w.heap.size w w1) := HB.out.trans (hb1.mono HB.out.size)
  have HR1 := Lib.hid (nrow_below HR.out hb1)
  have HO1 : Hid (w1.ownsRow (w.heap.size + 1) 2 1 (.slice (some ⟨w.heap.size + 1, 0, none⟩) 0 0) 0 []) := HO.out.kept (row := none) ⟨hb1.os, hb1.tape, hb1.output, hb1.size, fun q hq _ => hb1.block q hq⟩ (by simp [Value.ownBlock])
  clear hb1 HB HR HW HO
  obtain ⟨⟨p0, p1, p2⟩, _⟩ := rowN3 HR1.out
  by_cases c2 : Pl.Right n
  case neg =>
    rw [dB_ff c2]
    have HE := Lib.hid (nil_dry (n := n) (m := m) (f := f) (fun x => c2 x.right))
    clear c2
    go_wp2_with fail
    go_ret
    exact ⟨⟨_, rfl, by rw [HE.out]; exact own_low HO1.out (by omega)⟩, HB1.out⟩
  rw [dB_tt c2]
  have HRT := Lib.hid c2
  have hrn := c2.r
  have hhn := c2.h2
  clear c2
  go_wp2_with fail
  refine (sset_any n la lk fa fk wa wk a m cap f _ (H.out.below HB1.out) HS.out (HL.out.below HB1.out) hm).mono ?_
  rintro e w2 ⟨rfl, hb2⟩
  have HB2 : Hid (Below w.heap.size w w2) := HB1.out.trans (hb2.mono HB1.out.size)
  have HR2 := Lib.hid (nrow_below HR1.out hb2)
  have HO2 : Hid (w2.ownsRow (w.heap.size + 1) 2 1 (.slice (some ⟨w.heap.size + 1, 0, none⟩) 0 0) 0 []) := HO1.out.kept (row := none) ⟨hb2.os, hb2.tape, hb2.output, hb2.size, fun q hq _ => hb2.block q hq⟩ (by simp [Value.ownBlock])
  clear hb2 HB1 HR1 p0 p1 p2 HO1
  obtain ⟨⟨p0, p1, p2⟩, _⟩ := rowN3 HR2.out
  by_cases c3 : Pl.SetOk n m f
  case neg =>
    rw [dB_ff c3]
    have HE := Lib.hid (nil_dry (n := n) (m := m) (f := f) (fun x => c3 x.set))
    clear c3
    go_wp2_with fail
    go_ret
    exact ⟨⟨_, rfl, by rw [HE.out]; exact own_low HO2.out (by omega)⟩, HB2.out⟩
  rw [dB_tt c3]
  have HDR : Hid (Pl.dry n m f = Pl.dryTo n (Pl.In m f) n.hn) := by
    show Pl.dry n m f = _
    unfold Pl.dry
    rw [dB_tt (⟨by omega, HRT.out, c3⟩ : Pl.AskOk n m f)]; rfl
  clear c3 c1
  go_wp2_with fail
  refine (swet_any n la lk fa fk wa wk a m cap f _ (H.out.below HB2.out) HRT.out (HL.out.below HB2.out) hm).mono ?_
  rintro e w3 ⟨⟨g, u, rfl, hg0, hblk, hu⟩, hb3⟩
  have HB3 : Hid (Below w.heap.size w w3) := HB2.out.trans (hb3.mono HB2.out.size)
  have HO3 : Hid (w3.ownsRow (w.heap.size + 1) 2 1 (.slice (some ⟨w.heap.size + 1, 0, none⟩) (Pl.dryTo n (Pl.In m f) 0).length 0) (Pl.dryTo n (Pl.In m f) 0).length (numsV (Pl.dryTo n (Pl.In m f) 0))) := HO2.out.kept (row := none) ⟨hb3.os, hb3.tape, hb3.output, hb3.size, fun q hq _ => hb3.block q hq⟩ (by simp [Value.ownBlock])
  have HU := Lib.hid hu
  have HBK := Lib.hid hblk
  have HGN : Hid (w.heap.size + 1 < g) := by have := (HO2.out.lt (w.heap.size + 1) rfl).2; show w.heap.size + 1 < g; omega
  obtain ⟨i1, hi1, hy0, hy1, hy2⟩ := info_parts yinfo_i64
  have HPI := Lib.hid (And.intro hi1 (And.intro hy0 (And.intro hy1 hy2)))
  clear hi1 hy0 hy1 hy2 hu hblk hb3 hg0 p0 p1 p2 HO2 HB2 HR2
  go_wp2_with fail
  go_loopw [5, 7] (fun dv iv wr => ∃ (i : Nat), i ≤ n.hn ∧ iv = .int .i64 i ∧ Hid (wr.ownsRow (w.heap.size + 1) 2 1 dv (Pl.dryTo n (Pl.In m f) i).length (numsV (Pl.dryTo n (Pl.In m f) i))) ∧ Hid (BBlk g n.hn u wr) ∧ Hid (∀ k, dv.ownBlock = some k → k ≠ g) ∧ Hid (Below w.heap.size w wr)) (fun _ iv _ => n.hn - (intOf iv).toNat)
  case atStart => exact ⟨0, Nat.zero_le _, rfl, HO3, HBK, fun k hk => by simp [Value.ownBlock] at hk; have := HGN.out; omega, HB3⟩
  case round =>
    obtain ⟨i, hi, rfl, hO, hK, hN, hB⟩ := hrel
    clear HO3 HBK HB3
    by_cases hlt : i < n.hn
    · have hltz : (i : Int) < (n.hn : Int) := by omega
      have cn := World.rowIs.cell hK.out hlt
      cases hw : u i with
      | false =>
        rw [hw] at cn
        have HSTEP : Hid (Pl.dryTo n (Pl.In m f) (i + 1) = Pl.dryTo n (Pl.In m f) i ++ [i]) := Pl.dryTo_dry (fun x => by have := (HU.out i hlt).2 x; rw [hw] at this; cases this)
        have hll := Pl.dryTo_len (p := n) (sh := Pl.In m f) (i := i)
        have hsz : w.heap.size + 1 ≤ wr.heap.size := by have := World.rowIs.lt hK.out; have := HGN.out; omega
        obtain ⟨hi1, hy0, hy1, hy2⟩ := HPI.out
        clear hw
        go_wp2_with (at_builtin; refine wpList_append_own_at _ rfl _ _ 23 rfl (w.heap.size + 1) 2 i1 _ 1 8 Tryz.underlying23 hi1 hy0 hy1 hy2 rfl (by decide) _ _ _ rfl (hO.out.alloc _) ⟨wr.heap.size, 0, none⟩ 1 1 [.int .i64 (i : Nat)] rfl rfl ?d1 ?d2 ?d3 ?d4 ?d5 ?_)
        case d1 =>
          intro q x hq
          match q, hq with
          | 0, hq =>
            simp at hq
            subst hq
            exact (rowN_alloc wr [.int .i64 (i : Nat)] 2).cell (i := 0) (by simp)
        case d2 =>
          intro x hx
          simp at hx
          subst hx
          rfl
        case d3 => unfold maxLen; omega
        case d4 => omega
        case d5 => simp; omega
        intro v5 W5 hown hgrow hnil hat
        have HB5 : Hid (Below w.heap.size w W5) := (hB.out.alloc hB.out.size _).grown hgrow (by simp; omega) (fun k e => by have := (hO.out.lt k e).1; omega)
        have HK5 : Hid (BBlk g n.hn u W5) := by
          have h1 : BBlk g n.hn u (wr.alloc (.cells #[.int .i64 (i : Nat)] 2)) := hK.out.below (nbel_alloc _ _)
          exact h1.other (hgrow.block g (World.rowIs.lt h1) (fun e => hN.out g e.symm rfl))
        have HN5 : Hid (∀ k, v5.ownBlock = some k → k ≠ g) := fun k hk => by
          rcases hat with h1 | h1
          · rw [h1] at hk; exact hN.out k hk
          · rw [h1] at hk
            have h2 := Option.some.inj hk
            have h3 := World.rowIs.lt hK.out
            omega
        have HO5 : Hid (W5.ownsRow (w.heap.size + 1) 2 1 v5 (Pl.dryTo n (Pl.In m f) (i + 1)).length (numsV (Pl.dryTo n (Pl.In m f) (i + 1)))) := by
          rw [HSTEP.out, List.length_append]
          have e1 : numsV (Pl.dryTo n (Pl.In m f) i ++ [i]) = numsV (Pl.dryTo n (Pl.In m f) i) ++ [.int .i64 (i : Nat)] := by simp [numsV]
          rw [e1]
          exact hown
        clear hown hgrow hnil hat hO hB cn hK hN
        go_wp2_with fail
        go_roundw
        case rel => exact ⟨i + 1, by omega, by go_num, HO5, HK5, HN5, HB5⟩
        case measure => simp [intOf]; omega
      | true =>
        rw [hw] at cn
        have HSTEP : Hid (Pl.dryTo n (Pl.In m f) (i + 1) = Pl.dryTo n (Pl.In m f) i) := Pl.dryTo_wet ((HU.out i hlt).1 hw)
        clear hw
        go_wp2_with fail
        go_roundw
        case rel => exact ⟨i + 1, by omega, by go_num, by rw [HSTEP.out]; exact hO, hK, hN, hB⟩
        case measure => simp [intOf]; omega
    · obtain rfl : i = n.hn := by omega
      go_wp2_with fail
      go_ret
      exact ⟨⟨_, rfl, by rw [HDR.out]; exact own_low hO.out (by omega)⟩, hB.out⟩
/-- A list that is owned, read. -/
theorem own_at {W : World} {B : Nat} {v : Value} {l : List Nat} (h : W.ownsRow B 2 1 v l.length (numsV l)) : ∃ a c, v = .slice a l.length c ∧ IsAt a l.length (fun j => ((l.getD j 0 : Nat) : Int)) W := by
  rcases h.2 with ⟨h1, h2⟩ | ⟨g, c, cur, h1, _, h3, h4, _, h6, h7⟩
  · exact ⟨none, 0, by rw [h1, h2], Or.inl h2⟩
  · refine ⟨_, _, h1, Or.inr ⟨g, rfl, fun j hj => ?_⟩⟩
    have e1 : (cur.toList.take (l.length * 1))[j]? = some (.int .i64 ((l.getD j 0 : Nat) : Int)) := by
      rw [h7]
      simp [numsV, hj]
    rw [List.getElem?_take_of_lt (by omega), Array.getElem?_toList] at e1
    rw [cell_of_row W g j cur _ (0, 0) h3, e1]
theorem dry_lt {n : Pl.Plan} {m : Nat} {f : Nat → Int} {j : Nat} (h : j < (Pl.dry n m f).length) : (Pl.dry n m f).getD j 0 < n.hn := by
  have hm : (Pl.dry n m f).getD j 0 ∈ Pl.dry n m f := by
    rw [List.getD_eq_getElem?_getD, List.getElem?_eq_getElem h]
    exact List.getElem_mem h
  generalize (Pl.dry n m f).getD j 0 = x at hm ⊢
  unfold Pl.dry at hm
  split at hm
  · exact List.mem_range.1 (List.mem_filter.1 hm).1
  · simp at hm
theorem dry_right {n : Pl.Plan} {m : Nat} {f : Nat → Int} {j : Nat} (h : j < (Pl.dry n m f).length) : Pl.AskOk n m f := by
  unfold Pl.dry at h
  split at h
  · exact dB_iff.1 (by assumption)
  · simp at h
theorem dry_len {n : Pl.Plan} {m : Nat} {f : Nat → Int} (h : n.hn ≤ 1048576) : (Pl.dry n m f).length ≤ 1048576 := by
  unfold Pl.dry
  split
  · have := List.length_filter_le (fun v => dB (¬ Pl.Wet n (Pl.In m f) v)) (List.range n.hn)
    simp [Pl.dryL] at this ⊢
    omega
  · simp
/-- The homes of the first ones. -/
noncomputable def Pl.sumTo (p : Pl.Plan) (l : List Nat) (i : Nat) : Int := Pl.sumH p (l.take i)
theorem Pl.sumTo_succ {p : Pl.Plan} {l : List Nat} {i : Nat} (h : i < l.length) : Pl.sumTo p l (i + 1) = Pl.sumTo p l i + p.H (l.getD i 0) := by
  unfold Pl.sumTo Pl.sumH
  rw [List.take_add_one, List.map_append, List.sum_append, List.getElem?_eq_getElem h]
  simp [List.getD_eq_getElem?_getD, h]
theorem Pl.sumTo_bd {p : Pl.Plan} {l : List Nat} (hh : ∀ j, j < l.length → 0 ≤ p.H (l.getD j 0) ∧ p.H (l.getD j 0) ≤ 1000000) : ∀ i, i ≤ l.length → 0 ≤ Pl.sumTo p l i ∧ Pl.sumTo p l i ≤ 1000000 * i := by
  intro i
  induction i with
  | zero => intro _; simp [Pl.sumTo, Pl.sumH]
  | succ i ih =>
    intro hi
    have h1 := ih (by omega)
    have h2 := hh i (by omega)
    rw [Pl.sumTo_succ (by omega)]
    omega
set_option maxRecDepth 100000 in
set_option maxHeartbeats 1000000 in
theorem implHomes_any (n : Pl.Plan) (la : Option Addr) (lk : Nat) (fa : Option Addr) (fk : Nat) (wa : Option Addr) (wk : Nat) (a : Option Addr) (m cap : Nat) (f : Nat → Int) (w : World) (h : PlAt n la fa wa w) (hs : PlSmall n) (hl : IsAt a m f w) (hm : m ≤ 1048576) (hfn : fa = none → n.sn = 0) :
    Calls Tryz.prog 20 #[plV n la lk fa fk wa wk, .slice a m cap] w fun e w' => e = .returned (.int .i64 (Pl.homes n m f)) ∧ Below w.heap.size w w' := by
  obtain ⟨W0, hW⟩ : ∃ W, W = w.alloc (.cells #[.slice la n.rn lk, .slice fa n.sn fk, .slice wa n.hn wk] 32) := ⟨_, rfl⟩
  have HB : Hid (Below w.heap.size w W0) := by show Below _ _ _; rw [hW]; exact nbel_alloc _ _
  have HR : Hid (W0.rowIs w.heap.size 32 3 (rowN (plL n la lk fa fk wa wk))) := by show World.rowIs _ _ _ _ _; rw [hW]; exact rowN_alloc w _ _
  have H := Lib.hid h
  have HL := Lib.hid hl
  have HS := Lib.hid hs
  have HW := Lib.hid hW
  clear hW h hs hl
  go_enter Tryz.func20, Tryz.ntmps20
  go_wp2_with fail
  rw [← HW.out]
  refine (implDry_any n la lk fa fk wa wk a m cap f _ (H.out.below HB.out) HS.out (HL.out.below HB.out) hm hfn).mono ?_
  rintro e w1 ⟨⟨v, rfl, hv⟩, hb1⟩
  obtain ⟨va, vc, rfl, hat⟩ := own_at hv
  have HB1 : Hid (Below w.heap.size w w1) := HB.out.trans (hb1.mono HB.out.size)
  have HR1 := Lib.hid (nrow_below HR.out hb1)
  have HAT := Lib.hid hat
  have hdl := dry_len (m := m) (f := f) HS.out.2.2
  obtain ⟨L, hL⟩ : ∃ L, L = (Pl.dry n m f).length := ⟨_, rfl⟩
  have HLL := Lib.hid hL
  rw [← hL] at HAT hdl ⊢
  clear hb1 HB HR HW hv hat hL
  go_wp2_with fail
  go_loopw [5, 7, 12] (fun sv _ iv wr => ∃ (i : Nat), i ≤ L ∧ iv = .int .i64 i ∧ sv = .int .i64 (Pl.sumTo n (Pl.dry n m f) i) ∧ wr = w1) (fun _ _ iv _ => L - (intOf iv).toNat)
  case atStart => exact ⟨0, Nat.zero_le _, rfl, rfl, rfl⟩
  case round =>
    obtain ⟨i, hi, rfl, rfl, rfl⟩ := hrel
    by_cases hlt : i < L
    · have hltz : (i : Int) < (L : Int) := by omega
      obtain ⟨b, e, cl⟩ := HAT.out.at1 hlt
      subst e
      have hlt2 : i < (Pl.dry n m f).length := by have := HLL.out; omega
      have hrt := (dry_right hlt2).right
      have hvl := dry_lt hlt2
      have hbd := Pl.sumTo_bd (p := n) (l := Pl.dry n m f) (fun j hj => hrt.hs _ (dry_lt hj)) i (by omega)
      have hH := hrt.hs _ hvl
      have HST := Lib.hid (Pl.sumTo_succ (p := n) hlt2)
      have hhn := hrt.h2
      have hL40 : i ≤ 40 := by
        have h1 : (Pl.dry n m f).length ≤ n.hn := by
          unfold Pl.dry
          split
          · have := List.length_filter_le (fun v => dB (¬ Pl.Wet n (Pl.In m f) v)) (List.range n.hn)
            simpa [Pl.dryL] using this
          · simp
        omega
      obtain ⟨⟨p0, p1, p2⟩, _⟩ := rowN3 HR1.out
      obtain ⟨b3, e, ch⟩ := (H.out.below HB1.out).w.at1 hvl
      subst e
      generalize (Pl.dry n m f).getD i 0 = vv at *
      have hvz : (vv : Int) < (n.hn : Int) := by omega
      clear hrt
      generalize hsm : Pl.sumTo n (Pl.dry n m f) i = sm at *
      have hs1 : -9223372036854775808 ≤ sm + n.H vv := by omega
      have hs2 : sm + n.H vv ≤ 9223372036854775807 := by omega
      go_wp2_with fail
      go_roundw
      case rel => exact ⟨i + 1, by omega, by go_num, by rw [HST.out], by trivial⟩
      case measure => simp [intOf]; omega
    · obtain rfl : i = L := by omega
      have HE : Hid (Pl.homes n m f = Pl.sumTo n (Pl.dry n m f) i) := by
        show _ = _
        unfold Pl.homes Pl.sumTo
        rw [HLL.out, List.take_length]
      go_wp2_with fail
      go_ret
      exact ⟨by rw [HE.out]; rfl, HB1.out⟩
set_option maxRecDepth 100000 in
set_option maxHeartbeats 1000000 in
theorem specHomes_any (n : Pl.Plan) (la : Option Addr) (lk : Nat) (fa : Option Addr) (fk : Nat) (wa : Option Addr) (wk : Nat) (a : Option Addr) (m cap : Nat) (f : Nat → Int) (w : World) (h : PlAt n la fa wa w) (hs : PlSmall n) (hl : IsAt a m f w) (hm : m ≤ 1048576) :
    Calls Tryz.prog 33 #[plV n la lk fa fk wa wk, .slice a m cap] w fun e w' => e = .returned (.int .i64 (Pl.homes n m f)) ∧ Below w.heap.size w w' := by
  obtain ⟨W0, hW⟩ : ∃ W, W = w.alloc (.cells #[.slice la n.rn lk, .slice fa n.sn fk, .slice wa n.hn wk] 32) := ⟨_, rfl⟩
  have HB : Hid (Below w.heap.size w W0) := by show Below _ _ _; rw [hW]; exact nbel_alloc _ _
  have HR : Hid (W0.rowIs w.heap.size 32 3 (rowN (plL n la lk fa fk wa wk))) := by show World.rowIs _ _ _ _ _; rw [hW]; exact rowN_alloc w _ _
  have H := Lib.hid h
  have HL := Lib.hid hl
  have HS := Lib.hid hs
  have HW := Lib.hid hW
  clear hW h hs hl
  go_enter Tryz.func33, Tryz.ntmps33
  go_wp2_with fail
  rw [← HW.out]
  refine (specDry_any n la lk fa fk wa wk a m cap f _ (H.out.below HB.out) HS.out (HL.out.below HB.out) hm).mono ?_
  rintro e w1 ⟨⟨v, rfl, hv⟩, hb1⟩
  obtain ⟨va, vc, rfl, hat⟩ := own_at hv
  have HB1 : Hid (Below w.heap.size w w1) := HB.out.trans (hb1.mono HB.out.size)
  have HR1 := Lib.hid (nrow_below HR.out hb1)
  have HAT := Lib.hid hat
  have hdl := dry_len (m := m) (f := f) HS.out.2.2
  obtain ⟨L, hL⟩ : ∃ L, L = (Pl.dry n m f).length := ⟨_, rfl⟩
  have HLL := Lib.hid hL
  rw [← hL] at HAT hdl ⊢
  clear hb1 HB HR HW hv hat hL
  go_wp2_with fail
  go_loopw [5, 7] (fun sv iv wr => ∃ (i : Nat), i ≤ L ∧ iv = .int .i64 i ∧ sv = .int .i64 (Pl.sumTo n (Pl.dry n m f) i) ∧ Hid (Below w1.heap.size w1 wr)) (fun _ iv _ => L - (intOf iv).toNat)
  case atStart => exact ⟨0, Nat.zero_le _, rfl, rfl, Below.refl _ _⟩
  case round =>
    obtain ⟨i, hi, rfl, rfl, hB⟩ := hrel
    have hbw : Below w.heap.size w wr := HB1.out.trans (hB.out.mono HB1.out.size)
    have HBW := Lib.hid hbw
    clear hbw
    by_cases hlt : i < L
    · have hltz : (i : Int) < (L : Int) := by omega
      obtain ⟨b, e, cl⟩ := (HAT.out.below hB.out).at1 hlt
      subst e
      have hlt2 : i < (Pl.dry n m f).length := by have := HLL.out; omega
      have hrt := (dry_right hlt2).right
      have hvl := dry_lt hlt2
      have hbd := Pl.sumTo_bd (p := n) (l := Pl.dry n m f) (fun j hj => hrt.hs _ (dry_lt hj)) i (by omega)
      have hH := hrt.hs _ hvl
      have HST := Lib.hid (Pl.sumTo_succ (p := n) hlt2)
      have hhn := hrt.h2
      have hL40 : i ≤ 40 := by
        have h1 : (Pl.dry n m f).length ≤ n.hn := by
          unfold Pl.dry
          split
          · have := List.length_filter_le (fun v => dB (¬ Pl.Wet n (Pl.In m f) v)) (List.range n.hn)
            simpa [Pl.dryL] using this
          · simp
        omega
      obtain ⟨⟨p0, p1, p2⟩, _⟩ := rowN3 (nrow_below HR1.out hB.out)
      obtain ⟨b3, e, ch⟩ := (H.out.below HBW.out).w.at1 hvl
      subst e
      generalize (Pl.dry n m f).getD i 0 = vv at *
      have hvz : (vv : Int) < (n.hn : Int) := by omega
      clear hrt
      generalize hsm : Pl.sumTo n (Pl.dry n m f) i = sm at *
      have hs1 : -9223372036854775808 ≤ sm + n.H vv := by omega
      have hs2 : sm + n.H vv ≤ 9223372036854775807 := by omega
      go_wp2_with fail
      go_quiet (fail)
      go_wp2_with fail
      go_roundw
      case rel => exact ⟨i + 1, by omega, by go_num, by rw [HST.out], ndrewN hB.out _⟩
      case measure => simp [intOf]; omega
    · obtain rfl : i = L := by omega
      have HE : Hid (Pl.homes n m f = Pl.sumTo n (Pl.dry n m f) i) := by
        show _ = _
        unfold Pl.homes Pl.sumTo
        rw [HLL.out, List.take_length]
      go_wp2_with fail
      go_ret
      exact ⟨by rw [HE.out]; rfl, HBW.out⟩
theorem shutOk_has {n : Pl.Plan} {m : Nat} {f : Nat → Int} {x : Int} : Pl.Has (Pl.dry n m f).length (fun j => (((Pl.dry n m f).getD j 0 : Nat) : Int)) x ↔ Pl.ShutOk n x m f := by
  constructor
  · rintro ⟨j, hj, e⟩
    have ha := dry_right hj
    refine ⟨ha, (Pl.dry n m f).getD j 0, e.symm, dry_lt hj, ?_⟩
    have hm : (Pl.dry n m f).getD j 0 ∈ Pl.dry n m f := by
      rw [List.getD_eq_getElem?_getD, List.getElem?_eq_getElem hj]
      exact List.getElem_mem hj
    generalize (Pl.dry n m f).getD j 0 = v at hm ⊢
    unfold Pl.dry at hm
    rw [dB_tt ha] at hm
    exact dB_iff.1 (List.mem_filter.1 hm).2
  · rintro ⟨ha, v, rfl, hv, hd⟩
    have hm : v ∈ Pl.dry n m f := by
      unfold Pl.dry
      rw [dB_tt ha]
      exact List.mem_filter.2 ⟨List.mem_range.2 hv, dB_tt hd⟩
    obtain ⟨j, hj, e⟩ := List.getElem_of_mem hm
    exact ⟨j, hj, by simp [List.getD_eq_getElem?_getD, hj, e]⟩
theorem dB_eq {p q : Prop} (h : p ↔ q) : dB p = dB q := by rw [propext h]
set_option maxRecDepth 100000 in
set_option maxHeartbeats 1000000 in
theorem implShut_any (n : Pl.Plan) (la : Option Addr) (lk : Nat) (fa : Option Addr) (fk : Nat) (wa : Option Addr) (wk : Nat) (place : Int) (a : Option Addr) (m cap : Nat) (f : Nat → Int) (w : World) (h : PlAt n la fa wa w) (hs : PlSmall n) (hl : IsAt a m f w) (hm : m ≤ 1048576) (hfn : fa = none → n.sn = 0) :
    Calls Tryz.prog 16 #[plV n la lk fa fk wa wk, .int .i64 place, .slice a m cap] w fun e w' => e = .returned (.bool (dB (Pl.ShutOk n place m f))) ∧ Below w.heap.size w w' := by
  obtain ⟨W0, hW⟩ : ∃ W, W = w.alloc (.cells #[.slice la n.rn lk, .slice fa n.sn fk, .slice wa n.hn wk] 32) := ⟨_, rfl⟩
  have HB : Hid (Below w.heap.size w W0) := by show Below _ _ _; rw [hW]; exact nbel_alloc _ _
  have H := Lib.hid h
  have HL := Lib.hid hl
  have HS := Lib.hid hs
  have HW := Lib.hid hW
  clear hW h hs hl
  go_enter Tryz.func16, Tryz.ntmps16
  go_wp2_with fail
  rw [← HW.out]
  refine (implDry_any n la lk fa fk wa wk a m cap f _ (H.out.below HB.out) HS.out (HL.out.below HB.out) hm hfn).mono ?_
  rintro e w1 ⟨⟨v, rfl, hv⟩, hb1⟩
  obtain ⟨va, vc, rfl, hat⟩ := own_at hv
  have HB1 : Hid (Below w.heap.size w w1) := HB.out.trans (hb1.mono HB.out.size)
  have HAT := Lib.hid hat
  have hdl := Lib.hid (dry_len (m := m) (f := f) HS.out.2.2)
  have HEQ : Hid (dB (Pl.Has (Pl.dry n m f).length (fun j => (((Pl.dry n m f).getD j 0 : Nat) : Int)) place) = dB (Pl.ShutOk n place m f)) := dB_eq shutOk_has
  clear hb1 HB HW hv hat
  generalize (Pl.dry n m f).length = L at *
  go_wp2_with fail
  refine (pcont_any _ L _ _ place _ HAT.out hdl.out).mono ?_
  rintro e w2 ⟨rfl, rfl⟩
  rw [HEQ.out]
  go_wp2_with fail
  go_ret
  exact ⟨rfl, HB1.out⟩
set_option maxRecDepth 100000 in
set_option maxHeartbeats 2000000 in
theorem specShut_any (n : Pl.Plan) (la : Option Addr) (lk : Nat) (fa : Option Addr) (fk : Nat) (wa : Option Addr) (wk : Nat) (place : Int) (a : Option Addr) (m cap : Nat) (f : Nat → Int) (w : World) (h : PlAt n la fa wa w) (hs : PlSmall n) (hl : IsAt a m f w) (hm : m ≤ 1048576) :
    Calls Tryz.prog 24 #[plV n la lk fa fk wa wk, .int .i64 place, .slice a m cap] w fun e w' => e = .returned (.bool (dB (Pl.ShutOk n place m f))) ∧ Below w.heap.size w w' := by
  obtain ⟨W0, hW⟩ : ∃ W, W = w.alloc (.cells #[.slice la n.rn lk, .slice fa n.sn fk, .slice wa n.hn wk] 32) := ⟨_, rfl⟩
  have HB : Hid (Below w.heap.size w W0) := by show Below _ _ _; rw [hW]; exact nbel_alloc _ _
  have HR : Hid (W0.rowIs w.heap.size 32 3 (rowN (plL n la lk fa fk wa wk))) := by show World.rowIs _ _ _ _ _; rw [hW]; exact rowN_alloc w _ _
  have H := Lib.hid h
  have HL := Lib.hid hl
  have HS := Lib.hid hs
  have HW := Lib.hid hW
  clear hW h hs hl
  by_cases c1 : (400 : Int) < (m : Int)
  · have HE := Lib.hid (dB_ff (P := Pl.ShutOk n place m f) (fun x => by have := x.1.n; omega))
    go_enter Tryz.func24, Tryz.ntmps24
    go_wp2_with fail
    rw [← HW.out]
    go_ret
    exact ⟨by rw [HE.out]; rfl, HB.out⟩
  go_enter Tryz.func24, Tryz.ntmps24
  go_wp2_with fail
  rw [← HW.out]
  refine (specPlan_any n la lk fa fk wa wk _ (H.out.below HB.out) HS.out).mono ?_
  rintro e w1 ⟨rfl, hb1⟩
  have HB1 : Hid (Below w.heap.size w w1) := HB.out.trans (hb1.mono HB.out.size)
  have HR1 := Lib.hid (nrow_below HR.out hb1)
  clear hb1 HB HR HW
  obtain ⟨⟨p0, p1, p2⟩, _⟩ := rowN3 HR1.out
  by_cases c2 : Pl.Right n
  case neg =>
    rw [dB_ff c2]
    have HE := Lib.hid (dB_ff (P := Pl.ShutOk n place m f) (fun x => c2 x.1.right))
    clear c2
    go_wp2_with fail
    go_ret
    exact ⟨by rw [HE.out]; rfl, HB1.out⟩
  rw [dB_tt c2]
  have HRT := Lib.hid c2
  have hrn := c2.r
  have hhn := c2.h2
  clear c2
  by_cases c3 : place < 0
  · have HE := Lib.hid (dB_ff (P := Pl.ShutOk n place m f) (fun x => by obtain ⟨v, e, _⟩ := x.2; omega))
    go_wp2_with fail
    go_ret
    exact ⟨by rw [HE.out]; rfl, HB1.out⟩
  by_cases c4 : (n.hn : Int) ≤ place
  · have HE := Lib.hid (dB_ff (P := Pl.ShutOk n place m f) (fun x => by obtain ⟨v, e, h2, _⟩ := x.2; omega))
    go_wp2_with fail
    go_ret
    exact ⟨by rw [HE.out]; rfl, HB1.out⟩
  obtain ⟨v, rfl⟩ : ∃ v : Nat, place = (v : Int) := ⟨place.toNat, by omega⟩
  have hv : v < n.hn := by omega
  have hvz : (v : Int) < (n.hn : Int) := by omega
  clear c3
  go_wp2_with fail
  refine (sset_any n la lk fa fk wa wk a m cap f _ (H.out.below HB1.out) HS.out (HL.out.below HB1.out) hm).mono ?_
  rintro e w2 ⟨rfl, hb2⟩
  have HB2 : Hid (Below w.heap.size w w2) := HB1.out.trans (hb2.mono HB1.out.size)
  have HR2 := Lib.hid (nrow_below HR1.out hb2)
  clear hb2 HB1 HR1 p0 p1 p2
  obtain ⟨⟨p0, p1, p2⟩, _⟩ := rowN3 HR2.out
  by_cases c5 : Pl.SetOk n m f
  case neg =>
    rw [dB_ff c5]
    have HE := Lib.hid (dB_ff (P := Pl.ShutOk n (v : Int) m f) (fun x => c5 x.1.set))
    clear c5
    go_wp2_with fail
    go_ret
    exact ⟨by rw [HE.out]; rfl, HB2.out⟩
  rw [dB_tt c5]
  have HA : Hid (Pl.AskOk n m f) := ⟨by omega, HRT.out, c5⟩
  clear c5 c1
  go_wp2_with fail
  refine (swet_any n la lk fa fk wa wk a m cap f _ (H.out.below HB2.out) HRT.out (HL.out.below HB2.out) hm).mono ?_
  rintro e w3 ⟨⟨g, u, rfl, _, hblk, hu⟩, hb3⟩
  have HB3 : Hid (Below w.heap.size w w3) := HB2.out.trans (hb3.mono HB2.out.size)
  have cn := World.rowIs.cell hblk hv
  have huv := hu v hv
  clear hb3 HB2 hu hblk p0 p1 p2
  have HE : Hid (dB (Pl.ShutOk n (v : Int) m f) = !(u v)) := by
    show _ = _
    cases hw : u v with
    | false => exact dB_tt ⟨HA.out, v, rfl, hv, fun x => by have := huv.2 x; rw [hw] at this; cases this⟩
    | true =>
      refine dB_ff (fun x => ?_)
      obtain ⟨v', e, _, h3⟩ := x.2
      have e' : v = v' := by omega
      subst e'
      exact h3 (huv.1 hw)
  clear huv
  go_wp2_with fail
  go_ret
  exact ⟨by rw [HE.out]; rfl, HB3.out⟩
end Go.Proofs.YtipmjobhegpdgaaGreatDoor
