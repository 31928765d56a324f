/-
  The change of a loop, a round, what is left over: the program's walk.
-/
import Derived.Test.YtfgmalnkpgloiaaGreatDoorMnP5
import Derived.Test.YtfgmalnkpgloiaaGreatDoorMnV2
namespace Go.Proofs.YtfgmalnkpgloiaaGreatDoor
open Go.RowKit Go.Deep
set_option maxRecDepth 100000 in
set_option maxHeartbeats 8000000 in
theorem change_any (m : Mn.Mains) (la : Option Addr) (ln lk gk : Nat) (fa : Option Addr) (fc : Nat) (f : Nat → Int) (xa : Option Addr) (n xc : Nat) (L : Nat → Int) (w : World) (hk : KdBlk gk m w) (hf : IsAt fa m.pn f w) (hx : IsAt xa n L w) (hr : Mn.Right m) (ho : Mn.AllOk m f) (hl : Mn.LoopOk m n L) :
    Calls Tryz.prog 87 #[rmV la ln lk gk m.pn fa fc, .slice xa n xc] w fun e w' => e = .returned (.int .i64 (Mn.chg m f L n)) ∧ Below w.heap.size w w' := by
  have ST : Hid (WfS m la ln lk gk fa fc f w (w.alloc (.cells #[.slice la ln lk, .slice (some ⟨gk, 0, none⟩) m.pn m.pn, .slice fa m.pn fc] 70))) := ⟨rowN_alloc w [.slice la ln lk, .slice (some ⟨gk, 0, none⟩) m.pn m.pn, .slice fa m.pn fc] _, hk.below (nbel_alloc _ _), hf.below (nbel_alloc _ _), nbel_alloc _ _⟩
  have HXA : Hid (IsAt xa n L (w.alloc (.cells #[.slice la ln lk, .slice (some ⟨gk, 0, none⟩) m.pn m.pn, .slice fa m.pn fc] 70))) := hx.below (nbel_alloc _ _)
  have hn40 : n ≤ 40 := hl.n2
  have sb := Mn.sum_bd hr ho n hl.num
  have HR := Lib.hid hr
  have HO := Lib.hid ho
  have HN := Lib.hid hl.num
  have HN1 := Lib.hid hl.n1
  clear hk hf hr ho hx hl
  go_enter Tryz.func87, Tryz.ntmps87
  go_wp2_with fail
  refine (iwt_any m la ln lk gk fa fc f xa n xc L _ ST.out.k ST.out.f HXA.out HR.out HO.out HN.out hn40).mono ?_
  rintro e w1 ⟨rfl, hb⟩
  have SX := Lib.hid (ST.out.below hb)
  have HX1 := Lib.hid (HXA.out.below hb)
  clear hb ST HXA
  obtain ⟨WT, hWT⟩ : ∃ WT, WT = Mn.wtTo m f L n := ⟨_, rfl⟩
  obtain ⟨SU, hSU⟩ : ∃ SU, SU = Mn.sumTo m f L n := ⟨_, rfl⟩
  rw [← hWT, ← hSU] at sb
  rw [← hWT]
  by_cases hw0 : WT = 0
  · have hw0' : (WT == 0) = true := by simp [hw0]
    have HE : Hid (Mn.chg m f L n = 0) := by show _ = _; unfold Mn.chg; rw [← hWT, if_pos hw0]
    clear hw0 hWT hSU sb
    go_wp2_with fail
    go_ret
    exact ⟨by rw [HE.out]; rfl, SX.out.old⟩
  · have hw0' : (WT == 0) = false := by simp [hw0]
    have hw0n : ¬ WT = 0 := hw0
    obtain ⟨c0, hc0⟩ : ∃ c0, c0 = (-SU).tdiv WT := ⟨_, rfl⟩
    have hnz : ((n : Nat) : Int) ≤ 40 := by omega
    have hcb : -50000000000000000 ≤ c0 ∧ c0 ≤ 50000000000000000 := by
      have h1 := Int.natAbs_tdiv_le_natAbs (-SU) WT
      rw [← hc0] at h1
      omega
    have HC0 : Hid ((-SU).tdiv WT = c0) := hc0.symm
    have HQ1 : Hid (IntKind.i64.wrap (-SU) = -SU) := mwrap_id (by omega) (by omega)
    have HQ2 : Hid (IntKind.i64.wrap c0 = c0) := mwrap_id (by omega) (by omega)
    have HSU := Lib.hid hSU
    have HCH : Hid (Mn.chg m f L n = min (max c0 (Mn.roomTo m f L n).1) (Mn.roomTo m f L n).2) := by
      show _ = _
      unfold Mn.chg
      rw [← hWT, if_neg hw0n, ← hSU, ← hc0]
      obtain ⟨n', hn'⟩ : ∃ n', n = n' + 1 := ⟨n - 1, by have := HN1.out; omega⟩
      subst hn'
      exact Mn.ch_room HR.out HO.out c0 n' HN.out
    clear hw0 hc0 hWT hSU sb hnz
    go_wp2_with fail
    refine wp_region_held_drew (S := fun V => Below w1.heap.size w1 V) (by kernel_rfl) (Below.refl _ _).drew (fun hHeld => ?_)
    obtain ⟨Z, hZ⟩ : ∃ Z, Z = w1.drew := ⟨_, rfl⟩
    rw [← hZ] at hHeld ⊢
    clear hZ
    refine take_do (i := 0) (v := (rmV la ln lk gk m.pn fa fc)) rfl (by kernel_rfl) (by kernel_rfl) (by kernel_rfl) (fun _ _ _ h => h) (by rfl) ?_ (by assumption) ?_
    · intro w hSw
      obtain ⟨⟨r0, r1, r2⟩, _⟩ := rowN3 (nrow_below SX.out.row hSw)
      go_simp
    simp only [Act.put, List.setIfInBounds_toArray, List.set_cons_zero, List.set_cons_succ]
    refine take_do (i := 1) (v := (.slice xa n xc)) rfl (by kernel_rfl) (by kernel_rfl) (by kernel_rfl) (fun _ _ _ h => h) (by rfl) ?_ (by assumption) ?_
    · intro w hSw
      skip
      go_simp
    simp only [Act.put, List.setIfInBounds_toArray, List.set_cons_zero, List.set_cons_succ]
    refine take_do (i := 3) (v := (rmV la ln lk gk m.pn fa fc)) rfl (by kernel_rfl) (by kernel_rfl) (by kernel_rfl) (fun _ _ _ h => h) (by rfl) ?_ (by assumption) ?_
    · intro w hSw
      obtain ⟨⟨r0, r1, r2⟩, _⟩ := rowN3 (nrow_below SX.out.row hSw)
      go_simp
    simp only [Act.put, List.setIfInBounds_toArray, List.set_cons_zero, List.set_cons_succ]
    refine take_do (i := 4) (v := (.slice xa n xc)) rfl (by kernel_rfl) (by kernel_rfl) (by kernel_rfl) (fun _ _ _ h => h) (by rfl) ?_ (by assumption) ?_
    · intro w hSw
      skip
      go_simp
    simp only [Act.put, List.setIfInBounds_toArray, List.set_cons_zero, List.set_cons_succ]
    refine take_do (i := 7) (v := (.int .i64 WT)) rfl (by kernel_rfl) (by kernel_rfl) (by kernel_rfl) (fun _ _ _ h => h) (by rfl) ?_ (by assumption) ?_
    · intro w hSw
      skip
      go_simp
    simp only [Act.put, List.setIfInBounds_toArray, List.set_cons_zero, List.set_cons_succ]
    refine take_call (i := 2) rfl (by kernel_rfl) (fun K2 hK => ?_)
    go_simp
    refine (room_any m la ln lk gk fa fc f xa n xc L _ (SX.out.k.below hHeld) (SX.out.f.below hHeld) (HX1.out.below hHeld) HR.out HO.out HN.out hn40).mono ?_
    rintro e w3 ⟨rfl, hb⟩
    go_wp2_with fail
    refine hK.out _ _ (hHeld.trans (hb.mono hHeld.size)) (fun hHeld2 => ?_)
    clear hK hHeld hb
    have hHeld := hHeld2
    clear hHeld2
    refine take_call (i := 5) rfl (by kernel_rfl) (fun K2 hK => ?_)
    go_simp
    refine (isum_any m la ln lk gk fa fc f xa n xc L _ (SX.out.k.below hHeld) (SX.out.f.below hHeld) (HX1.out.below hHeld) HR.out HO.out HN.out hn40).mono ?_
    rintro e w4 ⟨rfl, hb⟩
    go_wp2_with fail
    refine hK.out _ _ (hHeld.trans (hb.mono hHeld.size)) (fun hHeld2 => ?_)
    clear hK hHeld hb
    have hHeld := hHeld2
    clear hHeld2
    rw [← HSU.out]
    refine take_do (i := 6) (v := (.int .i64 (-SU))) rfl (by kernel_rfl) (by kernel_rfl) (by kernel_rfl) (fun _ _ _ h => h) (by rfl) ?_ (by assumption) ?_
    · intro w hSw
      have hq := HQ1.out
      go_simp
    simp only [Act.put, List.setIfInBounds_toArray, List.set_cons_zero, List.set_cons_succ]
    refine take_do (i := 8) (v := (.int .i64 c0)) rfl (by kernel_rfl) (by kernel_rfl) (by kernel_rfl) (fun _ _ _ h => h) (by rfl) ?_ (by assumption) ?_
    · intro w hSw
      have hq := HC0.out
      have hq2 := HQ2.out
      go_simp
    simp only [Act.put, List.setIfInBounds_toArray, List.set_cons_zero, List.set_cons_succ]
    refine take_call (i := 9) rfl (by kernel_rfl) (fun K2 hK => ?_)
    go_simp
    refine (nearest_any _ _ c0 _).mono ?_
    rintro e w5 ⟨rfl, hb⟩
    go_wp2_with fail
    refine hK.out _ _ (hHeld.trans (hb.mono hHeld.size)) (fun hHeld2 => ?_)
    clear hK hHeld hb
    have hHeld := hHeld2
    clear hHeld2
    rw [← HCH.out]
    refine take_do (i := 10) (v := (.int .i64 (Mn.chg m f L n))) rfl (by kernel_rfl) (by kernel_rfl) (by kernel_rfl) (fun _ _ _ h => h) (by rfl) ?_ (by assumption) ?_
    · intro w hSw
      skip
      go_simp
    simp only [Act.put, List.setIfInBounds_toArray, List.set_cons_zero, List.set_cons_succ]
    refine wpAnyH_done (by kernel_rfl) ?_ _
    have S3 := Lib.hid (SX.out.below hHeld)
    clear hHeld
    go_wp2_with fail
    go_ret
    exact ⟨rfl, S3.out.old⟩
/-- All blocks but one are as they were. -/
structure Fr (g : Nat) (w W : World) : Prop where
  os : W.os = w.os
  tape : W.tape = w.tape
  output : W.output = w.output
  size : w.heap.size ≤ W.heap.size
  block : ∀ k, k < w.heap.size → k ≠ g → W.heap[k]? = w.heap[k]?
theorem Fr.below {g : Nat} {w W W' : World} (h : Fr g w W) (hb : Below W.heap.size W W') : Fr g w W' := ⟨hb.os.trans h.os, hb.tape.trans h.tape, hb.output.trans h.output, Nat.le_trans h.size hb.size, fun k hk hne => (hb.block k (Nat.lt_of_lt_of_le hk h.size)).trans (h.block k hk hne)⟩
theorem Fr.set {g : Nat} {w W : World} (h : Fr g w W) (i : Nat) (v : Value) : Fr g w (W.setCell ⟨g, i, none⟩ v) := ⟨h.os, h.tape, h.output, by rw [World.size_setCell]; exact h.size, fun k hk hne => (Below.heap_setCell _ _ _ _ hne).trans (h.block k hk hne)⟩
theorem Fr.old {g : Nat} {b w W : World} (h : Fr g w W) (hb : Below b.heap.size b w) (hg : b.heap.size ≤ g) : Below b.heap.size b W := ⟨h.os.trans hb.os, h.tape.trans hb.tape, h.output.trans hb.output, Nat.le_trans hb.size h.size, fun k hk => (h.block k (Nat.lt_of_lt_of_le hk hb.size) (by omega)).trans (hb.block k hk)⟩
structure RnS (m : Mn.Mains) (la : Option Addr) (lk gk gf fc : Nat) (F : Nat → Int) (w W : World) : Prop where
  row : W.rowIs w.heap.size 70 3 (rowN [.slice la m.ln lk, .slice (some ⟨gk, 0, none⟩) m.pn m.pn, .slice (some ⟨gf, 0, none⟩) m.pn fc])
  fl : IsBlk 2 gf m.pn F W
  fr : Fr gf w W
theorem RnS.below {m : Mn.Mains} {la : Option Addr} {lk gk gf fc : Nat} {F : Nat → Int} {w W W' : World} (h : RnS m la lk gk gf fc F w W) (hb : Below W.heap.size W W') : RnS m la lk gk gf fc F w W' := ⟨nrow_below h.row hb, h.fl.below hb, h.fr.below hb⟩
set_option maxRecDepth 100000 in
set_option maxHeartbeats 8000000 in
theorem round_any (m : Mn.Mains) (la : Option Addr) (lk gk gf fc : Nat) (f : Nat → Int) (b w : World) (hb : Below b.heap.size b w) (hl : LsAt la m.ln m.LN m.L b) (hgf : b.heap.size ≤ gf) (hk : KdBlk gk m w) (hne : gk ≠ gf) (hf : IsBlk 2 gf m.pn f w) (hr : Mn.Right m) (ho : Mn.AllOk m f) :
    Calls Tryz.prog 69 #[rmV la m.ln lk gk m.pn (some ⟨gf, 0, none⟩) fc] w fun e w' => e = .returned (.tuple #[]) ∧ IsBlk 2 gf m.pn (Mn.round m f) w' ∧ Fr gf w w' := by
  have hwg : gf < w.heap.size := hf.lt
  have ST : Hid (RnS m la lk gk gf fc (Mn.roundTo m f 0) w (w.alloc (.cells #[.slice la m.ln lk, .slice (some ⟨gk, 0, none⟩) m.pn m.pn, .slice (some ⟨gf, 0, none⟩) m.pn fc] 70))) := ⟨rowN_alloc w [.slice la m.ln lk, .slice (some ⟨gk, 0, none⟩) m.pn m.pn, .slice (some ⟨gf, 0, none⟩) m.pn fc] _, hf.below (nbel_alloc _ _), Fr.below ⟨rfl, rfl, rfl, Nat.le_refl _, fun _ _ _ => rfl⟩ (nbel_alloc _ _)⟩
  have hpn := hr.pn
  have hln := hr.ln
  have HR := Lib.hid hr
  have HO := Lib.hid ho
  have HK := Lib.hid hk
  have HNE := Lib.hid hne
  have HLS : Hid (∀ V, Fr gf w V → LsAt la m.ln m.LN m.L V) := fun V hV => hl.below (hV.old hb hgf)
  have HIX : Hid (∀ (xa : Option Addr) (n : Nat) (L : Nat → Int), IsAt xa n L b → ∀ V, Fr gf w V → IsAt xa n L V) := fun xa n L hx V hV => hx.below (hV.old hb hgf)
  have HLB := Lib.hid hl
  have HKD : Hid (∀ V, Fr gf w V → KdBlk gk m V) := fun V hV => hk.block (hV.block _ hk.lt hne)
  have HBB : Hid (∀ V, Fr gf w V → Below b.heap.size b V) := fun V hV => hV.old hb hgf
  clear hb hl hk hne hf hr ho
  go_enter Tryz.func69, Tryz.ntmps69
  go_wp2_with fail
  go_loopw [12] (fun iv wr => ∃ (i : Nat), i ≤ m.ln ∧ iv = .int .i64 i ∧ Hid (RnS m la lk gk gf fc (Mn.roundTo m f i) w wr)) (fun iv _ => m.ln - (intOf iv).toNat)
  case atStart => exact ⟨0, Nat.zero_le _, rfl, ST⟩
  case round =>
    obtain ⟨i, hi, rfl, SX⟩ := hrel
    clear ST
    by_cases hlt : i < m.ln
    · have hltz : (i : Int) < (m.ln : Int) := by omega
      have LO := Lib.hid (HR.out.l i hlt)
      obtain ⟨lb, e, xa, xc, dl0, kx⟩ := HLB.out.one hlt
      subst e
      have dl := ((HBB.out _ SX.out.fr).cell (World.block_lt_of_cell? _ _ dl0)).trans dl0
      have KX := Lib.hid (HIX.out _ _ _ kx)
      obtain ⟨F, hF⟩ : ∃ F, F = Mn.roundTo m f i := ⟨_, rfl⟩
      have HOF : Hid (Mn.AllOk m F) := by show Mn.AllOk _ _; rw [hF]; exact Mn.roundTo_ok HR.out HO.out i hi
      rw [← hF] at SX
      obtain ⟨n, hn⟩ : ∃ n, n = m.LN i := ⟨_, rfl⟩
      obtain ⟨L, hL⟩ : ∃ L, L = m.L i := ⟨_, rfl⟩
      have HRT : Hid (Mn.roundTo m f (i + 1) = Mn.apTo L (Mn.chg m F L n) F n) := by
        show Mn.loopR m (Mn.roundTo m f i) (m.L i) (m.LN i) = _
        rw [← hF, ← hn, ← hL]; rfl
      rw [← hn, ← hL] at LO KX
      rw [← hn] at dl
      obtain ⟨⟨r0, r1, r2⟩, _⟩ := rowN3 SX.out.row
      clear dl0 kx hF hn hL
      go_wp2_with fail
      refine (change_any m _ m.ln lk gk (some ⟨gf, 0, none⟩) fc F xa n xc L _ (HKD.out _ SX.out.fr) SX.out.fl.at_ (KX.out _ SX.out.fr) HR.out HOF.out LO.out).mono ?_
      rintro e w2 ⟨rfl, hb⟩
      have S2 := Lib.hid (SX.out.below hb)
      clear hb SX r0 r1 r2 dl
      obtain ⟨CH, hCH⟩ : ∃ CH, CH = Mn.chg m F L n := ⟨_, rfl⟩
      rw [← hCH] at HRT ⊢
      have hn40 : n ≤ 40 := LO.out.n2
      have HCB : Hid (∀ j, j < n → Mn.loK m F (L j) ≤ CH ∧ CH ≤ Mn.hiK m F (L j)) := by
        intro j hj
        rw [hCH]
        unfold Mn.chg
        split
        · have := Mn.k_bd HR.out HOF.out (LO.out.num j hj); omega
        · exact Mn.ch_in HR.out HOF.out _ n LO.out.num j hj
      clear hCH
      go_wp2_with fail
      go_loopw [21] (fun kv wq => ∃ (k : Nat), k ≤ n ∧ kv = .int .i64 k ∧ Hid (RnS m (some ⟨lb, 0, none⟩) lk gk gf fc (Mn.apTo L CH F k) w wq)) (fun kv _ => n - (intOf kv).toNat)
      case atStart => exact ⟨0, Nat.zero_le _, rfl, S2⟩
      case round =>
        obtain ⟨k, hk3, rfl, S6⟩ := hrel
        clear S2
        by_cases hlt3 : k < n
        · have hltz3 : (k : Int) < (n : Int) := by omega
          obtain ⟨xb2, e, dx⟩ := (KX.out _ S6.out.fr).at1 hlt3
          subst e
          have nk := LO.out.num k hlt3
          obtain ⟨pp, hpe⟩ : ∃ pp, pp = Mn.place (L k) := ⟨_, rfl⟩
          have hpp : pp < m.pn := by rw [hpe]; exact nk.lt
          have hppz : ((pp : Nat) : Int) < (m.pn : Int) := by omega
          have fbd := Mn.okF_bd (HR.out.p pp hpp) (HOF.out pp hpp)
          have kb := Mn.k_bd HR.out HOF.out nk
          have cb := HCB.out k hlt3
          have ev : Mn.apTo L CH F k pp = F pp := Mn.ap_other k (fun j hj => by rw [hpe]; exact LO.out.one k hlt3 j hj)
          obtain ⟨wy, hwy⟩ : ∃ wy, wy = wayI (L k) := ⟨_, rfl⟩
          have hwy1 : wy = 1 ∨ wy = -1 := by rw [hwy]; unfold wayI; split <;> simp
          have HG : Hid (Mn.apTo L CH F (k + 1) = updI (Mn.apTo L CH F k) pp (F pp + wy * CH)) := by
            show _ = _
            have e9 : Mn.apTo L CH F (k + 1) = updI (Mn.apTo L CH F k) (Mn.place (L k)) (Mn.apTo L CH F k (Mn.place (L k)) + Mn.sg (L k) CH) := rfl
            have e8 : Mn.sg (L k) CH = wy * CH := by rw [hwy]; unfold Mn.sg wayI; split <;> omega
            rw [e9, ← hpe, ev, e8]
          have dn := S6.out.fl.cell hpp
          rw [ev] at dn
          have zn := S6.out.fl.frozen pp
          have lnn := S6.out.fl.lt
          have HQ1 : IntKind.i64.wrap (wy * CH) = wy * CH := by rcases hwy1 with e | e <;> rw [e] <;> exact mwrap_id (by omega) (by omega)
          have HQ2 : IntKind.i64.wrap (F pp + wy * CH) = F pp + wy * CH := by rcases hwy1 with e | e <;> rw [e] <;> exact mwrap_id (by omega) (by omega)
          have NK := Lib.hid nk
          have HPE := Lib.hid hpe
          have HPN := Lib.hid hpn
          have HWY := Lib.hid hwy
          have S7 : Hid (RnS m (some ⟨lb, 0, none⟩) lk gk gf fc (Mn.apTo L CH F (k + 1)) w (wr.setCell ⟨gf, pp, none⟩ (.int .i64 (F pp + wy * CH)))) := by
            show RnS _ _ _ _ _ _ _ _ _
            rw [HG.out]
            exact ⟨S6.out.row.of_block (Below.heap_setCell _ _ _ _ (by show w.heap.size ≠ gf; omega)), S6.out.fl.set pp _, S6.out.fr.set pp _⟩
          obtain ⟨⟨r0, r1, r2⟩, _⟩ := rowN3 S6.out.row
          clear fbd nk hpe kb cb ev hwy hwy1
          go_wp2_with fail
          refine (passed_any (L k) _ NK.out.1 (by have := NK.out.2; have := HPN.out; omega) (by have := NK.out.2; have := HPN.out; omega)).mono ?_
          rintro e w3 ⟨rfl, e3⟩
          subst w3
          rw [← HPE.out, ← HWY.out]
          go_wp2_with fail
          go_roundw
          case rel => exact ⟨k + 1, by omega, by go_num, S7⟩
          case measure => simp [intOf]; omega
        · have hkz3 : ¬ (k : Int) < (n : Int) := by omega
          have HRE : Hid (Mn.roundTo m f (i + 1) = Mn.apTo L CH F k) := by show _ = _; rw [HRT.out, show k = n by omega]
          go_wp2_with fail
          go_roundw
          case rel => exact ⟨i + 1, by omega, by go_num, by rw [HRE.out]; exact S6.out⟩
          case measure => simp [intOf]; omega
    · obtain rfl : i = m.ln := by omega
      go_wp2_with fail
      go_end0
      exact ⟨rfl, SX.out.fl, SX.out.fr⟩
theorem mag2_any (x : Int) (w : World) (h1 : -50000000000000000 ≤ x) (h2 : x ≤ 50000000000000000) : Calls Tryz.prog 85 #[.int .i64 x] w fun e w' => e = .returned (.int .i64 (x.natAbs : Int)) ∧ w' = w := by
  by_cases hx : x < 0
  · have HE : Hid ((x.natAbs : Int) = -x) := by show _ = _; omega
    go_enter Tryz.func85, Tryz.ntmps85
    go_wp2_with fail
    go_ret
    exact ⟨by rw [HE.out]; rfl, rfl⟩
  · have HE : Hid ((x.natAbs : Int) = x) := by show _ = _; omega
    go_enter Tryz.func85, Tryz.ntmps85
    go_wp2_with fail
    go_ret
    exact ⟨by rw [HE.out]; rfl, rfl⟩
set_option maxRecDepth 100000 in
set_option maxHeartbeats 8000000 in
theorem irest_any (m : Mn.Mains) (la : Option Addr) (lk gk : Nat) (fa : Option Addr) (fc : Nat) (f : Nat → Int) (w : World) (hl : LsAt la m.ln m.LN m.L w) (hk : KdBlk gk m w) (hf : IsAt fa m.pn f w) (hr : Mn.Right m) (ho : Mn.AllOk m f) :
    Calls Tryz.prog 68 #[rmV la m.ln lk gk m.pn fa fc] w fun e w' => e = .returned (.int .i64 (Mn.rest m f)) ∧ Below w.heap.size w w' := by
  have ST : Hid (WfS m la m.ln lk gk fa fc f w (w.alloc (.cells #[.slice la m.ln lk, .slice (some ⟨gk, 0, none⟩) m.pn m.pn, .slice fa m.pn fc] 70))) := ⟨rowN_alloc w [.slice la m.ln lk, .slice (some ⟨gk, 0, none⟩) m.pn m.pn, .slice fa m.pn fc] _, hk.below (nbel_alloc _ _), hf.below (nbel_alloc _ _), nbel_alloc _ _⟩
  have hln := hr.ln
  have HR := Lib.hid hr
  have HO := Lib.hid ho
  have HL := Lib.hid hl
  clear hl hk hf hr ho
  go_enter Tryz.func68, Tryz.ntmps68
  go_wp2_with fail
  go_loopw [3, 9] (fun mv iv wr => ∃ (i : Nat), i ≤ m.ln ∧ mv = .int .i64 (Mn.restTo m f i) ∧ iv = .int .i64 i ∧ Hid (WfS m la m.ln lk gk fa fc f w wr)) (fun _ iv _ => m.ln - (intOf iv).toNat)
  case atStart => exact ⟨0, Nat.zero_le _, rfl, rfl, ST⟩
  case round =>
    obtain ⟨i, hi, rfl, rfl, SX⟩ := hrel
    clear ST
    by_cases hlt : i < m.ln
    · have hltz : (i : Int) < (m.ln : Int) := by omega
      have LO := Lib.hid (HR.out.l i hlt)
      obtain ⟨lb, e, xa, xc, dl, kx⟩ := (HL.out.below SX.out.old).one hlt
      subst e
      have KX := Lib.hid kx
      have HSS := Lib.hid (sum_small HR.out HO.out hlt)
      obtain ⟨⟨r0, r1, r2⟩, _⟩ := rowN3 SX.out.row
      clear kx
      go_wp2_with fail
      refine (isum_any m _ m.ln lk gk fa fc f xa (m.LN i) xc (m.L i) _ SX.out.k SX.out.f KX.out HR.out HO.out LO.out.num LO.out.n2).mono ?_
      rintro e w2 ⟨rfl, hb⟩
      have S2 := Lib.hid (SX.out.below hb)
      clear hb SX r0 r1 r2 dl
      obtain ⟨SU, hSU⟩ : ∃ SU, SU = Mn.sumTo m f (m.L i) (m.LN i) := ⟨_, rfl⟩
      have ss : -50000000000000000 ≤ SU ∧ SU ≤ 50000000000000000 := by rw [hSU]; exact HSS.out.1
      have HE : Hid (Mn.restTo m f (i + 1) = max (Mn.restTo m f i) (SU.natAbs : Int)) := by show _ = _; simp only [Mn.restTo]; rw [hSU]
      rw [← hSU]
      obtain ⟨ss1, ss2⟩ := ss
      clear hSU
      go_wp2_with fail
      refine (mag2_any SU _ ss1 ss2).mono ?_
      rintro e w3 ⟨rfl, e3⟩
      subst w3
      by_cases hmx : Mn.restTo m f i < (SU.natAbs : Int)
      · have HE2 : Hid (Mn.restTo m f (i + 1) = (SU.natAbs : Int)) := by show _ = _; rw [HE.out]; omega
        go_wp2_with fail
        go_roundw
        case rel => exact ⟨i + 1, by omega, by rw [HE2.out], by go_num, S2⟩
        case measure => simp [intOf]; omega
      · have HE2 : Hid (Mn.restTo m f (i + 1) = Mn.restTo m f i) := by show _ = _; rw [HE.out]; omega
        go_wp2_with fail
        go_roundw
        case rel => exact ⟨i + 1, by omega, by rw [HE2.out], by go_num, S2⟩
        case measure => simp [intOf]; omega
    · obtain rfl : i = m.ln := by omega
      go_wp2_with fail
      go_ret
      exact ⟨rfl, SX.out.old⟩
end Go.Proofs.YtfgmalnkpgloiaaGreatDoor
