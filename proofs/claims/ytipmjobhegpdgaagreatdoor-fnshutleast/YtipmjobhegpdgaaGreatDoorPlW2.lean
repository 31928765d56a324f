/-
  The program's test of ways, whole.
-/
import Derived.Test.YtipmjobhegpdgaaGreatDoorPlW1
import Derived.Test.YtipmjobhegpdgaaGreatDoorMnMem
namespace Go.Proofs.YtipmjobhegpdgaaGreatDoor
open Go.RowKit Go.Deep

/-- A row with a good valve that stands in one of the first ways. -/
def Pl.UsedW (p : Pl.Plan) (LN : Nat → Nat) (L : Nat → Nat → Int) (i r : Nat) : Prop := Pl.gd p r ∧ ∃ i', i' < i ∧ ∃ k, k < LN i' ∧ L i' k = (r : Int)
noncomputable def Pl.uW (p : Pl.Plan) (LN : Nat → Nat) (L : Nat → Nat → Int) (i r : Nat) : Bool := dB (Pl.UsedW p LN L i r)
theorem Pl.uW_zero {p : Pl.Plan} {LN : Nat → Nat} {L : Nat → Nat → Int} : Pl.uW p LN L 0 = fun _ => false := by
  funext r; exact dB_ff (fun ⟨_, i, hi, _⟩ => by omega)
theorem Pl.uW_succ {p : Pl.Plan} {LN : Nat → Nat} {L : Nat → Nat → Int} {i : Nat} : Pl.usd p (L i) (Pl.uW p LN L i) (LN i) = Pl.uW p LN L (i + 1) := by
  funext r
  unfold Pl.usd Pl.uW
  by_cases h1 : Pl.UsedW p LN L i r
  · rw [dB_tt h1, dB_tt (show Pl.UsedW p LN L (i + 1) r from ⟨h1.1, by obtain ⟨_, j, hj, x⟩ := h1; exact ⟨j, by omega, x⟩⟩)]; rfl
  · rw [dB_ff h1, Bool.false_or]
    refine dB_congr ⟨fun ⟨a, k, hk, e⟩ => ⟨a, i, by omega, k, hk, e⟩, fun ⟨a, j, hj, k, hk, e⟩ => ⟨a, ?_⟩⟩
    by_cases ej : j = i
    · subst ej; exact ⟨k, hk, e⟩
    · exact absurd ⟨a, j, by omega, k, hk, e⟩ h1
theorem Pl.uW_good {p : Pl.Plan} {LN : Nat → Nat} {L : Nat → Nat → Int} {i r : Nat} (h : Pl.uW p LN L i r = true) : Pl.gd p r := (dB_iff.1 h).1
/-- A way that is right behind those ahead of it. -/
structure Pl.WayOk (p : Pl.Plan) (place : Int) (LN : Nat → Nat) (L : Nat → Nat → Int) (i : Nat) : Prop where
  len : LN i ≤ 100
  use : Pl.Use p (L i) (Pl.uW p LN L i) (LN i)
  ends : Pl.Has p.sn p.S (Pl.back p (L i) (LN i) place (LN i))
structure Pl.WaysOk (p : Pl.Plan) (place : Int) (N : Nat) (LN : Nat → Nat) (L : Nat → Nat → Int) : Prop where
  right : Pl.Right p
  pl : 0 ≤ place ∧ place < p.hn
  n : N ≤ 100
  ways : ∀ i, i < N → Pl.WayOk p place LN L i
theorem binfo : (Tryz.prog.info? 4).map (fun i => (i.zero, i.size, i.bytes)) = some (some (.bool false), 1, 1) := by kernel_rfl
abbrev bmkO (n : Nat) : Obj := .cells (madeCells #[.bool false] n) 4
/-- What stands from way to way. -/
structure WyS (n : Pl.Plan) (la : Option Addr) (lk : Nat) (fa : Option Addr) (fk : Nat) (wa : Option Addr) (wk : Nat) (g : Nat) (u : Nat → Bool) (w W : World) : Prop where
  old : Below w.heap.size w W
  row : W.rowIs w.heap.size 32 3 (rowN (plL n la lk fa fk wa wk))
  blk : BBlk g n.rn u W
  lo : w.heap.size < g
set_option maxRecDepth 100000 in
set_option maxHeartbeats 4000000 in
theorem implWays_any (n : Pl.Plan) (la : Option Addr) (lk : Nat) (fa : Option Addr) (fk : Nat) (wa : Option Addr) (wk : Nat) (place : Int) (a : Option Addr) (N cap : Nat) (LN : Nat → Nat) (L : Nat → Nat → Int) (w : World) (h : PlAt n la fa wa w) (hs : PlSmall n) (hl : LsAt a N LN L w)
    (hN : N ≤ 1048576) (hLN : ∀ i, i < N → LN i ≤ 1048576) :
    Calls Tryz.prog 22 #[plV n la lk fa fk wa wk, .int .i64 place, .slice a N cap] w fun e w' => e = .returned (.bool (dB (Pl.WaysOk n place N LN L))) ∧ Below w.heap.size w w' := by
  obtain ⟨W, hW⟩ : ∃ W, W = w.alloc (.cells #[.slice la n.rn lk, .slice fa n.sn fk, .slice wa n.hn wk] 32) := ⟨_, rfl⟩
  have HB : Hid (Below w.heap.size w W) := by show Below _ _ _; rw [hW]; exact nbel_alloc _ _
  have HR : Hid (W.rowIs w.heap.size 32 3 (rowN (plL n la lk fa fk wa wk))) := by show W.rowIs _ _ _ _; rw [hW]; exact rowN_alloc w _ _
  have H := Lib.hid h
  have HS := Lib.hid hs
  have HL := Lib.hid hl
  have HLN := Lib.hid hLN
  have HW := Lib.hid hW
  clear hW h hs hl hLN
  by_cases c1 : (100 : Int) < (N : Int)
  · have HE := Lib.hid (dB_ff (fun x : Pl.WaysOk n place N LN L => by have := x.n; omega))
    go_enter Tryz.func22, Tryz.ntmps22
    go_wp2_with fail
    rw [← HW.out]
    go_ret
    exact ⟨by rw [HE.out]; rfl, HB.out⟩
  go_enter Tryz.func22, Tryz.ntmps22
  go_wp2_with fail
  rw [← HW.out]
  refine (planRight_any n la lk fa fk wa wk _ (H.out.below HB.out) HS.out).mono ?_
  rintro e w1 ⟨rfl, hb1⟩
  have HB1 : Hid (Below w.heap.size w w1) := HB.out.trans (hb1.mono HB.out.size)
  have HR1 := Lib.hid (nrow_below HR.out hb1)
  clear hb1 HB HR
  obtain ⟨⟨p0, p1, p2⟩, _⟩ := rowN3 HR1.out
  by_cases c2 : Pl.Right n
  case neg =>
    rw [dB_ff c2]
    have HE := Lib.hid (dB_ff (fun x : Pl.WaysOk n place N LN L => c2 x.right))
    clear c2
    go_wp2_with fail
    go_ret
    exact ⟨by rw [HE.out]; rfl, HB1.out⟩
  rw [dB_tt c2]
  have HRT := Lib.hid c2
  have hrn := c2.r
  clear c2
  go_wp2_with fail
  refine (phas_any n la lk fa fk wa wk place _).mono ?_
  rintro e w2 ⟨rfl, hb2⟩
  have HB2 : Hid (Below w.heap.size w w2) := HB1.out.trans (hb2.mono HB1.out.size)
  have HR2 := Lib.hid (nrow_below HR1.out hb2)
  clear hb2 HB1 HR1 p0 p1 p2
  obtain ⟨⟨p0, p1, p2⟩, _⟩ := rowN3 HR2.out
  by_cases c3 : 0 ≤ place ∧ place < n.hn
  case neg =>
    rw [dB_ff c3]
    have HE := Lib.hid (dB_ff (fun x : Pl.WaysOk n place N LN L => c3 x.pl))
    clear c3
    go_wp2_with fail
    go_ret
    exact ⟨by rw [HE.out]; rfl, HB2.out⟩
  rw [dB_tt c3]
  have HALL : Hid ((∀ i, i < N → Pl.WayOk n place LN L i) → dB (Pl.WaysOk n place N LN L) = true) := fun x => dB_tt ⟨HRT.out, c3, by omega, x⟩
  have HNO : Hid (∀ i, i < N → ¬ Pl.WayOk n place LN L i → dB (Pl.WaysOk n place N LN L) = false) := fun i hi x => dB_ff (fun y => x (y.ways i hi))
  have hN100 : N ≤ 100 := by omega
  clear c3 c1
  have hmk := run_make_row' (P := Tryz.prog) 56 4 (.bool false) 1 Tryz.underlying56 binfo rfl .i64 .i64 n.rn (by omega) (by omega)
  have HST : Hid (WyS n la lk fa fk wa wk w2.heap.size (Pl.uW n LN L 0) w (w2.alloc (bmkO n.rn))) := by
    refine ⟨HB2.out.alloc HB2.out.size _, nrow_below HR2.out (nbel_alloc _ _), ?_, HR2.out.lt⟩
    rw [Pl.uW_zero]
    exact World.rowIs_made w2 (.bool false) n.rn 4
  go_wp2_with fail
  clear hmk p0 p1 p2
  go_loopw [9, 30] (fun _ iv wr => ∃ (i : Nat), i ≤ N ∧ iv = .int .i64 i ∧ Hid (WyS n la lk fa fk wa wk w2.heap.size (Pl.uW n LN L i) w wr) ∧ Hid (∀ j, j < i → Pl.WayOk n place LN L j)) (fun _ iv _ => N - (intOf iv).toNat)
  case atStart => exact ⟨0, Nat.zero_le _, rfl, HST, fun j hj => absurd hj (Nat.not_lt_zero _)⟩
  case round =>
    obtain ⟨i, hi, rfl, hS, hP⟩ := hrel
    clear HST
    obtain ⟨⟨p0, p1, p2⟩, _⟩ := rowN3 hS.out.row
    by_cases hlt : i < N
    · have hltz : (i : Int) < (N : Int) := by omega
      obtain ⟨b, eb, ai, ci, cw, hai⟩ := (HL.out.below hS.out.old).one hlt
      subst eb
      have HAI := Lib.hid hai
      have HAO : Hid (∀ b', ai = some ⟨b', 0, none⟩ → 0 < LN i → b' < w.heap.size) := by
        obtain ⟨b0, e0, ai0, ci0, cw0, hai0⟩ := HL.out.one hlt
        simp at e0
        subst e0
        have ec : wr.cell? ⟨b, i, none⟩ = some (.slice ai0 (LN i) ci0) := (hS.out.old.cell (World.block_lt_of_cell? _ _ cw0)).trans cw0
        rw [cw] at ec
        simp at ec
        obtain ⟨rfl, rfl⟩ := ec
        intro b' e hpos
        obtain ⟨b'', e2, k⟩ := hai0.pos hpos
        rw [e] at e2
        simp at e2
        subst e2
        exact World.block_lt_of_cell? _ _ (k 0 hpos)
      clear hai
      by_cases c4 : (100 : Int) < (LN i : Int)
      · have HE := Lib.hid (HNO.out i hlt (fun x => by have := x.len; omega))
        go_wp2_with fail
        go_ret
        exact ⟨by rw [HE.out]; rfl, hS.out.old⟩
      have HLA : Hid (0 < n.rn → ∀ b', la = some ⟨b', 0, none⟩ → b' < w.heap.size) := fun hpos b' e => by
        obtain ⟨b'', e2, k⟩ := H.out.l.pos (by omega)
        rw [e] at e2
        simp at e2
        subst e2
        exact World.block_lt_of_cell? _ _ (k 0 (by omega))
      go_wp2_with fail
      refine (puse_any n la lk ai (LN i) ci (L i) w2.heap.size _ (Pl.uW n LN L i) _ (H.out.l.below hS.out.old) HRT.out HAI.out (by omega) hS.out.blk (fun r hr => Pl.uW_good hr) (fun h0 b' e => by have h1 := HLA.out h0 b' e; have h2 := hS.out.lo; omega) (fun h0 b' e => by have h1 := HAO.out b' e h0; have h2 := hS.out.lo; omega)).mono ?_
      rintro e w3 ⟨rfl, ho, hu⟩
      have HO := Lib.hid (ho.below (B := w2.heap.size) (Nat.le_refl _) (by have := World.rowIs.lt hS.out.blk; omega))
      have HB3 : Hid (Below w.heap.size w w3) := hS.out.old.trans (HO.out.mono (by have := hS.out.lo; omega))
      have HR3 : Hid (w3.rowIs w.heap.size 32 3 (rowN (plL n la lk fa fk wa wk))) := hS.out.row.of_block (HO.out.block _ hS.out.lo)
      have HAI3 : Hid (IsAt ai (LN i) (L i) w3) := by
        by_cases h0 : 0 < LN i
        · exact HAI.out.same (fun b' e hb => HO.out.block b' (by have h1 := HAO.out b' e h0; have h2 := hS.out.lo; omega))
        · exact Or.inl (by omega)
      have HU := Lib.hid hu
      have HSLO : Hid (w.heap.size < w2.heap.size) := hS.out.lo
      clear ho hu p0 p1 p2 cw hS
      obtain ⟨⟨p0, p1, p2⟩, _⟩ := rowN3 HR3.out
      by_cases c5 : Pl.Use n (L i) (Pl.uW n LN L i) (LN i)
      case neg =>
        rw [dB_ff c5]
        have HE := Lib.hid (HNO.out i hlt (fun x => c5 x.use))
        clear c5
        go_wp2_with fail
        go_ret
        exact ⟨by rw [HE.out]; rfl, HB3.out⟩
      rw [dB_tt c5]
      have HC5 := Lib.hid c5
      have HBL : Hid (BBlk w2.heap.size n.rn (Pl.uW n LN L (i + 1)) w3) := by
        show BBlk _ _ _ _
        rw [← Pl.uW_succ]; exact HU.out c5
      clear c5 HU
      go_wp2_with fail
      refine (pleads_any n la lk fa fk wa wk ai (LN i) ci (L i) place _ (H.out.below HB3.out) HRT.out HAI3.out (by omega) HC5.out.rng).mono ?_
      rintro e w4 ⟨rfl, hb4⟩
      have HB4 : Hid (Below w.heap.size w w4) := HB3.out.trans (hb4.mono HB3.out.size)
      have HR4 := Lib.hid (nrow_below HR3.out hb4)
      have HBL4 := Lib.hid (HBL.out.below hb4)
      clear hb4 HB3 HR3 HBL HAI3 p0 p1 p2
      by_cases c6 : Pl.Has n.sn n.S (Pl.back n (L i) (LN i) place (LN i))
      · rw [dB_tt c6]
        have HOK : Hid (Pl.WayOk n place LN L i) := ⟨by omega, HC5.out, c6⟩
        clear c6
        go_wp2_with fail
        go_roundw
        case rel =>
          refine ⟨i + 1, by omega, by go_num, ⟨HB4.out, HR4.out, HBL4.out, HSLO.out⟩, fun j hj => ?_⟩
          by_cases ej : j = i
          · subst ej; exact HOK.out
          · exact hP.out j (by omega)
        case measure => simp [intOf]; omega
      · rw [dB_ff c6]
        have HE := Lib.hid (HNO.out i hlt (fun x => c6 x.ends))
        clear c6
        go_wp2_with fail
        go_ret
        exact ⟨by rw [HE.out]; rfl, HB4.out⟩
    · obtain rfl : i = N := by omega
      go_wp2_with fail
      go_ret
      exact ⟨by rw [HALL.out hP.out]; rfl, hS.out.old⟩
end Go.Proofs.YtipmjobhegpdgaaGreatDoor
