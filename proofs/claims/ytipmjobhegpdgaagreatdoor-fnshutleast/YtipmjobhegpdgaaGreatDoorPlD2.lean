/-
  The model's right sets and wet places.
-/
import Derived.Test.YtipmjobhegpdgaaGreatDoorPlD1
import Derived.Test.YtipmjobhegpdgaaGreatDoorPlW3
namespace Go.Proofs.YtipmjobhegpdgaaGreatDoor
open Go Go.RowKit Go.Deep

set_option maxRecDepth 100000 in
set_option maxHeartbeats 1000000 in
theorem sset_any (n : Pl.Plan) (la : Option Addr) (lk : Nat) (fa : Option Addr) (fk : Nat) (wa : Option Addr) (wk : Nat) (a : Option Addr) (m cap : Nat) (f : Nat → Int) (w : World) (h : PlAt n la fa wa w) (hs : PlSmall n) (hl : IsAt a m f w) (hm : m ≤ 1048576) :
    Calls Tryz.prog 58 #[plV n la lk fa fk wa wk, .slice a m cap] w fun e w' => e = .returned (.bool (dB (Pl.SetOk n m f))) ∧ Below w.heap.size w w' := by
  obtain ⟨W, hW⟩ : ∃ W, W = w.alloc (.cells #[.slice la n.rn lk, .slice fa n.sn fk, .slice wa n.hn wk] 32) := ⟨_, rfl⟩
  have HB : Hid (Below w.heap.size w W) := by show Below _ _ _; rw [hW]; exact nbel_alloc _ _
  have HR : Hid (W.rowIs w.heap.size 32 3 (rowN (plL n la lk fa fk wa wk))) := by show World.rowIs _ _ _ _ _; rw [hW]; exact rowN_alloc w _ _
  have H := Lib.hid h
  have HL := Lib.hid hl
  have HS := Lib.hid hs
  have HW := Lib.hid hW
  clear hW h hs hl
  go_enter Tryz.func58, Tryz.ntmps58
  go_wp2_with fail
  rw [← HW.out]
  refine (srising_any a m cap f n.rn _ (HL.out.below HB.out) hm HS.out.1).mono ?_
  rintro e w1 ⟨rfl, hb1⟩
  have HB1 : Hid (Below w.heap.size w w1) := HB.out.trans (hb1.mono HB.out.size)
  have HR1 := Lib.hid (nrow_below HR.out hb1)
  clear hb1 HB HR HW
  by_cases c : Pl.Rising m f n.rn
  case neg =>
    rw [dB_ff c]
    have HE := Lib.hid (dB_ff (fun x : Pl.SetOk n m f => c x.rise))
    clear c
    go_wp2_with fail
    go_ret
    exact ⟨by rw [HE.out]; rfl, HB1.out⟩
  rw [dB_tt c]
  have HCR := Lib.hid c
  clear c
  go_wp2_with fail
  go_loopw [5] (fun iv wr => ∃ (i : Nat), i ≤ m ∧ iv = .int .i64 i ∧ Hid (Below w1.heap.size w1 wr) ∧ Hid (∀ j, j < i → Pl.gd n (f j).toNat)) (fun iv _ => m - (intOf iv).toNat)
  case atStart => exact ⟨0, Nat.zero_le _, rfl, Below.refl _ _, fun j hj => absurd hj (Nat.not_lt_zero _)⟩
  case round =>
    obtain ⟨i, hi, rfl, hB, hP⟩ := hrel
    have hbw : Below w.heap.size w wr := HB1.out.trans (hB.out.mono HB1.out.size)
    have HBW := Lib.hid hbw
    clear hbw
    by_cases hlt : i < m
    · have hltz : (i : Int) < (m : Int) := by omega
      obtain ⟨b2, e, cl⟩ := (HL.out.below HBW.out).at1 hlt
      subst e
      obtain ⟨⟨p0, _, _⟩, _⟩ := rowN3 (nrow_below HR1.out hB.out)
      have h1 := (HCR.out i hlt).1
      obtain ⟨r, hr⟩ : ∃ r : Nat, f i = (r : Int) := ⟨(f i).toNat, by omega⟩
      have hrl : r < n.rn := by omega
      have hrlz : (r : Int) < (n.rn : Int) := by omega
      rw [hr] at cl
      have HRR : Hid ((f i).toNat = r) := by show (f i).toNat = r; omega
      obtain ⟨b, e, c0, c1, c2⟩ := (H.out.below HBW.out).l.at3 hrl
      subst e
      clear h1 hr
      by_cases hg : Pl.gd n r
      · have e5 : (n.R (r * 3 + 2) != 1) = false := by unfold Pl.gd at hg; simp [hg]
        have HG := Lib.hid hg
        clear hg
        go_wp2_with fail
        go_quiet (fail)
        go_wp2_with fail
        go_roundw
        case rel =>
          refine ⟨i + 1, by omega, by go_num, ndrewN hB.out _, fun j hj => ?_⟩
          by_cases e : j = i
          · subst e; rw [HRR.out]; exact HG.out
          · exact hP.out j (by omega)
        case measure => simp [intOf]; omega
      · have e5 : (n.R (r * 3 + 2) != 1) = true := by unfold Pl.gd at hg; simp [hg]
        have HE := Lib.hid (dB_ff (fun x : Pl.SetOk n m f => hg (by have := x.good i hlt; rw [HRR.out] at this; exact this)))
        clear hg
        go_wp2_with fail
        go_quiet (fail)
        go_wp2_with fail
        go_ret
        exact ⟨by rw [HE.out]; rfl, ndrewN HBW.out _⟩
    · obtain rfl : i = m := by omega
      have HE := Lib.hid (dB_tt (show Pl.SetOk n i f from ⟨HCR.out, hP.out⟩))
      go_wp2_with fail
      go_ret
      exact ⟨by rw [HE.out]; rfl, HBW.out⟩
/-- Marks as numbers: -1 where there is none. -/
def uI (u : Nat → Bool) (j : Nat) : Int := if u j = true then 0 else -1
noncomputable def cntB (g pl : Nat) (W : World) : Nat := cntN (fun j => match W.cell? ⟨g, j, none⟩ with | some (.bool true) => 0 | _ => -1) pl
theorem cntB_eq {g pl : Nat} {u : Nat → Bool} {W : World} (h : BBlk g pl u W) : cntB g pl W = cntN (uI u) pl := cntN_congr (fun j hj => by
  rw [World.rowIs.cell h hj]
  unfold uI
  cases u j <;> rfl)
theorem cntN_mono {f g : Nat → Int} {n : Nat} (h : ∀ i, i < n → g i = -1 → f i = -1) : cntN g n ≤ cntN f n := by
  induction n with
  | zero => exact Nat.le_refl _
  | succ n ih =>
    simp only [cntN]
    have h1 := ih (fun i hi => h i (by omega))
    have h2 := h n (by omega)
    by_cases e : g n = -1
    · rw [if_pos e, if_pos (h2 e)]; omega
    · rw [if_neg e]; omega
theorem cntN_less {f g : Nat → Int} {n k : Nat} (h : ∀ i, i < n → g i = -1 → f i = -1) (hk : k < n) (h1 : f k = -1) (h2 : g k ≠ -1) : cntN g n < cntN f n := by
  have h3 := cntN_put (f := f) (x := 0) hk h1 (by omega)
  have h4 : cntN g n ≤ cntN (updI f k 0) n := cntN_mono (fun i hi e => by
    unfold updI
    by_cases ei : i = k
    · subst ei; exact absurd e h2
    · rw [if_neg ei]; exact h i hi e)
  omega
structure WtS (n : Pl.Plan) (la : Option Addr) (lk : Nat) (fa : Option Addr) (fk : Nat) (wa : Option Addr) (wk : Nat) (g : Nat) (u : Nat → Bool) (w W : World) : Prop where
  old : Below w.heap.size w W
  row : W.rowIs w.heap.size 32 3 (rowN (plL n la lk fa fk wa wk))
  blk : BBlk g n.hn u W
  lo : w.heap.size < g
theorem WtS.below {n : Pl.Plan} {la : Option Addr} {lk : Nat} {fa : Option Addr} {fk : Nat} {wa : Option Addr} {wk : Nat} {g : Nat} {u : Nat → Bool} {w W W' : World} (h : WtS n la lk fa fk wa wk g u w W) (hb : Below W.heap.size W W') : WtS n la lk fa fk wa wk g u w W' := ⟨h.old.trans (hb.mono h.old.size), nrow_below h.row hb, h.blk.below hb, h.lo⟩
theorem WtS.set {n : Pl.Plan} {la : Option Addr} {lk : Nat} {fa : Option Addr} {fk : Nat} {wa : Option Addr} {wk : Nat} {g : Nat} {u : Nat → Bool} {w W : World} (h : WtS n la lk fa fk wa wk g u w W) (i : Nat) (x : Bool) : WtS n la lk fa fk wa wk g (updB u i x) w (W.setCell ⟨g, i, none⟩ (.bool x)) :=
  ⟨h.old.setCell (p := ⟨g, i, none⟩) (Nat.le_of_lt h.lo) _, nrow_set h.row (p := ⟨g, i, none⟩) (Nat.ne_of_lt h.lo) _, h.blk.set i x, h.lo⟩
set_option maxRecDepth 100000 in
set_option maxHeartbeats 2000000 in
theorem swet_any (n : Pl.Plan) (la : Option Addr) (lk : Nat) (fa : Option Addr) (fk : Nat) (wa : Option Addr) (wk : Nat) (a : Option Addr) (m cap : Nat) (f : Nat → Int) (w : World) (h : PlAt n la fa wa w) (hr : Pl.Right n) (hl : IsAt a m f w) (hm : m ≤ 1048576) :
    Calls Tryz.prog 29 #[plV n la lk fa fk wa wk, .slice a m cap] w fun e w' => (∃ g u, e = .returned (.slice (some ⟨g, 0, none⟩) n.hn n.hn) ∧ w.heap.size ≤ g ∧ BBlk g n.hn u w' ∧ ∀ v, v < n.hn → (u v = true ↔ Pl.Wet n (Pl.In m f) v)) ∧ Below w.heap.size w w' := by
  obtain ⟨W, hW⟩ : ∃ W, W = w.alloc (.cells #[.slice la n.rn lk, .slice fa n.sn fk, .slice wa n.hn wk] 32) := ⟨_, rfl⟩
  have hrn := hr.r
  have hhn := hr.h2
  have hsn := hr.sn40
  have hmk := run_make_row' (P := Tryz.prog) 56 4 (.bool false) 1 Tryz.underlying56 binfo rfl .i64 .i64 n.hn (by omega) (by omega)
  obtain ⟨g, hg⟩ : ∃ g, g = w.heap.size + 1 := ⟨_, rfl⟩
  have HST : Hid (WtS n la lk fa fk wa wk g (fun _ => false) w (W.alloc (bmkO n.hn))) := by
    have hs : W.heap.size = w.heap.size + 1 := by rw [hW]; simp
    have hb : Below w.heap.size w W := by rw [hW]; exact nbel_alloc _ _
    refine ⟨hb.trans ((nbel_alloc W _).mono hb.size), ?_, ?_, by omega⟩
    · refine nrow_below ?_ (nbel_alloc _ _)
      rw [hW]; exact rowN_alloc w _ _
    · rw [hg, ← hs]; exact World.rowIs_made W (.bool false) n.hn 4
  have H := Lib.hid h
  have HL := Lib.hid hl
  have HRT := Lib.hid hr
  have HW := Lib.hid hW
  have HG := Lib.hid hg
  clear hW h hl hr
  go_enter Tryz.func29, Tryz.ntmps29
  go_wp2_with fail
  rw [← HW.out]
  clear hmk
  rw [← hg]
  clear hg
  go_loopw [6] (fun iv wr => ∃ (i : Nat) (u : Nat → Bool), i ≤ n.sn ∧ iv = .int .i64 i ∧ Hid (WtS n la lk fa fk wa wk g u w wr) ∧ Hid (∀ v, v < n.hn → (u v = true ↔ Pl.Has i n.S (v : Int)))) (fun iv _ => n.sn - (intOf iv).toNat)
  case atStart => exact ⟨0, _, Nat.zero_le _, rfl, HST, fun v _ => ⟨(fun x => by cases x), fun ⟨j, hj, _⟩ => absurd hj (by omega)⟩⟩
  case round =>
    obtain ⟨i, u, hi, rfl, hS, hU⟩ := hrel
    clear HST HW
    obtain ⟨⟨p0, p1, p2⟩, _⟩ := rowN3 hS.out.row
    by_cases hlt : i < n.sn
    · have hltz : (i : Int) < (n.sn : Int) := by omega
      obtain ⟨b2, e, cl⟩ := (H.out.below hS.out.old).f.at1 hlt
      subst e
      have h1 := (HRT.out.s i hlt).1
      obtain ⟨r, hr⟩ : ∃ r : Nat, n.S i = (r : Int) := ⟨(n.S i).toNat, by omega⟩
      have hrl : r < n.hn := by omega
      have hrlz : (r : Int) < (n.hn : Int) := by omega
      rw [hr] at cl
      have cu := World.rowIs.cell hS.out.blk hrl
      have zu := World.rowIs.frozen hS.out.blk r
      have zg := World.rowIs.lt hS.out.blk
      have HS2 := Lib.hid (hS.out.set r true)
      have HU2 : Hid (∀ v, v < n.hn → (updB u r true v = true ↔ Pl.Has (i + 1) n.S (v : Int))) := fun v hv => by
        unfold updB
        by_cases e : v = r
        · subst e
          rw [if_pos rfl]
          exact ⟨fun _ => ⟨i, by omega, hr⟩, fun _ => rfl⟩
        · rw [if_neg e, hU.out v hv]
          exact ⟨fun ⟨j, hj, x⟩ => ⟨j, by omega, x⟩, fun ⟨j, hj, x⟩ => ⟨j, by
            by_cases ej : j = i
            · subst ej; rw [hr] at x; omega
            · omega, x⟩⟩
      clear h1 hr hS hU
      go_wp2_with fail
      go_roundw
      case rel => exact ⟨i + 1, _, by omega, by go_num, HS2, HU2⟩
      case measure => simp [intOf]; omega
    obtain rfl : i = n.sn := by omega
    have HSND : Hid (∀ v, v < n.hn → u v = true → Pl.Wet n (Pl.In m f) v) := fun v hv hu => by
      obtain ⟨j, hj, e⟩ := (hU.out v hv).1 hu
      have : v = (n.S j).toNat := by omega
      rw [this]; exact .src j hj
    have HSRC : Hid (∀ j, j < n.sn → u (n.S j).toNat = true) := fun j hj => by
      have h1 := (HRT.out.s j hj).1
      exact (hU.out _ (by omega)).2 ⟨j, hj, by omega⟩
    clear hU hlt hi
    go_wp2_with fail
    clear p0 p1 p2
    go_loopw [7, 8, 9] (fun av _ _ wr => ∃ (ag : Bool) (u : Nat → Bool), av = .bool ag ∧ Hid (WtS n la lk fa fk wa wk g u w wr) ∧ Hid (∀ v, v < n.hn → u v = true → Pl.Wet n (Pl.In m f) v) ∧ Hid (∀ j, j < n.sn → u (n.S j).toNat = true) ∧ Hid (ag = false → ∀ i, i < n.rn → ¬ Pl.In m f i → u (n.from_ i) = u (n.to_ i))) (fun av _ _ wr => 2 * cntB g n.hn wr + (match av with | .bool true => 1 | _ => 0))
    case atStart => exact ⟨true, u, rfl, hS, HSND, HSRC, fun x => by cases x⟩
    case round =>
      obtain ⟨ag, u, rfl, hS, hSnd, hSrc, hCl⟩ := hrel
      clear HSND HSRC
      cases ag with
      | false =>
        have HF : Hid (∀ v, v < n.hn → (u v = true ↔ Pl.Wet n (Pl.In m f) v)) := fun v hv => ⟨hSnd.out v hv, fun hw => by
          have key : v < n.hn → u v = true := Pl.Wet.sub (A := fun v => v < n.hn → u v = true) (fun j hj _ => hSrc.out j hj) (fun i hi hs => by
            have := hCl.out rfl i hi hs
            exact ⟨fun h1 _ => by rw [← this]; exact h1 (HRT.out.from_lt hi), fun h1 _ => by rw [this]; exact h1 (HRT.out.to_lt hi)⟩) hw
          exact key hv⟩
        go_wp2_with fail
        go_ret
        exact ⟨⟨g, rfl, by have := hS.out.lo; omega, u, hS.out.blk, HF.out⟩, hS.out.old⟩
      | true =>
        have HCB0 := Lib.hid (cntB_eq hS.out.blk)
        clear hCl
        go_wp2_with fail
        go_loopw [7, 8, 9] (fun av iv _ wr => ∃ (i : Nat) (ag : Bool) (u2 : Nat → Bool), i ≤ n.rn ∧ iv = .int .i64 i ∧ av = .bool ag ∧ Hid (WtS n la lk fa fk wa wk g u2 w wr) ∧ Hid (∀ v, v < n.hn → u2 v = true → Pl.Wet n (Pl.In m f) v) ∧ Hid (∀ j, j < n.sn → u2 (n.S j).toNat = true) ∧ Hid (∀ v, v < n.hn → u v = true → u2 v = true) ∧ Hid (ag = false → (∀ i', i' < i → ¬ Pl.In m f i' → u2 (n.from_ i') = u2 (n.to_ i'))) ∧ Hid (ag = true → cntN (uI u2) n.hn < cntN (uI u) n.hn)) (fun _ iv _ _ => n.rn - (intOf iv).toNat)
        case atStart => exact ⟨0, false, u, Nat.zero_le _, rfl, rfl, hS, hSnd, hSrc, fun _ _ x => x, fun _ i' hi' => absurd hi' (by omega), fun x => by cases x⟩
        case round =>
          obtain ⟨i, ag, u2, hi, rfl, rfl, hS2, hSnd2, hSrc2, hMono, hCl, hLess⟩ := hrel
          obtain ⟨⟨p0, p1, p2⟩, _⟩ := rowN3 hS2.out.row
          by_cases hlt : i < n.rn
          · have hltz : (i : Int) < (n.rn : Int) := by omega
            obtain ⟨b, e, c0, c1, c2⟩ := (H.out.below hS2.out.old).l.at3 hlt
            subst e
            rw [HRT.out.from_eq hlt] at c0
            rw [HRT.out.to_eq hlt] at c1
            have hvf := HRT.out.from_lt hlt
            have hvt := HRT.out.to_lt hlt
            obtain ⟨vf, hvfe⟩ : ∃ vf, vf = n.from_ i := ⟨_, rfl⟩
            obtain ⟨vt, hvte⟩ : ∃ vt, vt = n.to_ i := ⟨_, rfl⟩
            rw [← hvfe] at c0 hvf
            rw [← hvte] at c1 hvt
            have HVF := Lib.hid hvfe
            have HVT := Lib.hid hvte
            have hvfz : (vf : Int) < (n.hn : Int) := by omega
            have hvtz : (vt : Int) < (n.hn : Int) := by omega
            have zb : b < wr.heap.size := World.block_lt_of_cell? _ _ c0
            obtain ⟨W1, hW1⟩ : ∃ W1, W1 = wr.alloc (.cells #[.int .i64 (vf : Nat), .int .i64 (vt : Nat), .int .i64 (n.R (i * 3 + 2))] 61) := ⟨_, rfl⟩
            have hb1 : Below wr.heap.size wr W1 := by rw [hW1]; exact nbel_alloc _ _
            have HS3 := Lib.hid (hS2.out.below hb1)
            have HR3 : Hid (W1.rowIs wr.heap.size 61 3 (rowN [.int .i64 (vf : Nat), .int .i64 (vt : Nat), .int .i64 (n.R (i * 3 + 2))])) := by show World.rowIs _ _ _ _ _; rw [hW1]; exact rowN_alloc _ _ _
            have HW1 := Lib.hid hW1
            have HL1 := Lib.hid (HL.out.below HS3.out.old)
            have HS3W := Lib.hid hS2.out.blk
            clear hvfe hvte hb1 hW1 hS2

            go_wp2_with fail
            rw [← HW1.out]
            clear c0 c1 c2 p0 p1 p2
            obtain ⟨⟨x0, x1, x2⟩, _⟩ := rowN3 HR3.out
            have uf := World.rowIs.cell HS3.out.blk hvf
            have ut := World.rowIs.cell HS3.out.blk hvt
            have zg := World.rowIs.lt HS3.out.blk
            have zx : wr.heap.size < W1.heap.size := HR3.out.lt
            have HNEG : Hid (wr.heap.size ≠ g) := by have := World.rowIs.lt HS3W.out; show wr.heap.size ≠ g; omega
            cases hbf : u2 vf with
            | true =>
              cases hbt : u2 vt with
              | true =>
                rw [hbf] at uf
                rw [hbt] at ut
                have HCL2 : Hid (ag = false → ∀ i', i' < i + 1 → ¬ Pl.In m f i' → u2 (n.from_ i') = u2 (n.to_ i')) := fun hag i' hi' hs => by
                  by_cases e : i' = i
                  · subst e; rw [← HVF.out, ← HVT.out, hbf, hbt]
                  · exact hCl.out hag i' (by omega) hs
                clear hbf hbt hCl
                go_quiet (fail)
                go_wp2_with fail
                go_roundw
                case rel => exact ⟨i + 1, ag, u2, by omega, by go_num, rfl, HS3.out.below (ndrewN (Below.refl _ _) _), hSnd2, hSrc2, hMono, HCL2, hLess⟩
                case measure => simp [intOf]; omega
              | false =>
                rw [hbf] at uf
                rw [hbt] at ut
                refine wp_region_held_drew (S := fun V => Below W1.heap.size W1 V) (by kernel_rfl) (Below.refl _ _).drew (fun hHeld => ?_)
                obtain ⟨Z, hZ⟩ : ∃ Z, Z = W1.drew := ⟨_, rfl⟩
                rw [← hZ] at hHeld ⊢
                clear hZ
                refine take_do (i := 0) (v := (.slice (some ⟨g, 0, none⟩) n.hn n.hn)) rfl (by kernel_rfl) (by kernel_rfl) (by kernel_rfl) (fun _ _ _ h => h) (by rfl) ?_ (by assumption) ?_
                · intro w hSw
                  skip
                  go_simp
                simp only [Act.put, List.setIfInBounds_toArray, List.set_cons_zero, List.set_cons_succ]
                refine take_do (i := 1) (v := (.pointer (some ⟨wr.heap.size, 0, none⟩))) rfl (by kernel_rfl) (by kernel_rfl) (by kernel_rfl) (fun _ _ _ h => h) (by rfl) ?_ (by assumption) ?_
                · intro w hSw
                  skip
                  go_simp
                simp only [Act.put, List.setIfInBounds_toArray, List.set_cons_zero, List.set_cons_succ]
                refine take_do (i := 2) (v := (.int .i64 (vf : Nat))) rfl (by kernel_rfl) (by kernel_rfl) (by kernel_rfl) (fun _ _ _ h => h) (by rfl) ?_ (by assumption) ?_
                · intro w hSw
                  have hc_x0 := (hSw.cell (World.block_lt_of_cell? _ _ x0)).trans x0
                  go_simp
                simp only [Act.put, List.setIfInBounds_toArray, List.set_cons_zero, List.set_cons_succ]
                refine take_do (i := 3) (v := (.pointer (some ⟨g, vf, none⟩))) rfl (by kernel_rfl) (by kernel_rfl) (by kernel_rfl) (fun _ _ _ h => h) (by rfl) ?_ (by assumption) ?_
                · intro w hSw
                  skip
                  go_simp
                simp only [Act.put, List.setIfInBounds_toArray, List.set_cons_zero, List.set_cons_succ]
                refine take_do (i := 4) (v := (.bool true)) rfl (by kernel_rfl) (by kernel_rfl) (by kernel_rfl) (fun _ _ _ h => h) (by rfl) ?_ (by assumption) ?_
                · intro w hSw
                  have hc_uf := (hSw.cell (World.block_lt_of_cell? _ _ uf)).trans uf
                  go_simp
                simp only [Act.put, List.setIfInBounds_toArray, List.set_cons_zero, List.set_cons_succ]
                refine take_do (i := 5) (v := (.slice (some ⟨g, 0, none⟩) n.hn n.hn)) rfl (by kernel_rfl) (by kernel_rfl) (by kernel_rfl) (fun _ _ _ h => h) (by rfl) ?_ (by assumption) ?_
                · intro w hSw
                  skip
                  go_simp
                simp only [Act.put, List.setIfInBounds_toArray, List.set_cons_zero, List.set_cons_succ]
                refine take_do (i := 6) (v := (.pointer (some ⟨wr.heap.size, 1, none⟩))) rfl (by kernel_rfl) (by kernel_rfl) (by kernel_rfl) (fun _ _ _ h => h) (by rfl) ?_ (by assumption) ?_
                · intro w hSw
                  skip
                  go_simp
                simp only [Act.put, List.setIfInBounds_toArray, List.set_cons_zero, List.set_cons_succ]
                refine take_do (i := 7) (v := (.int .i64 (vt : Nat))) rfl (by kernel_rfl) (by kernel_rfl) (by kernel_rfl) (fun _ _ _ h => h) (by rfl) ?_ (by assumption) ?_
                · intro w hSw
                  have hc_x1 := (hSw.cell (World.block_lt_of_cell? _ _ x1)).trans x1
                  go_simp
                simp only [Act.put, List.setIfInBounds_toArray, List.set_cons_zero, List.set_cons_succ]
                refine take_do (i := 8) (v := (.pointer (some ⟨g, vt, none⟩))) rfl (by kernel_rfl) (by kernel_rfl) (by kernel_rfl) (fun _ _ _ h => h) (by rfl) ?_ (by assumption) ?_
                · intro w hSw
                  skip
                  go_simp
                simp only [Act.put, List.setIfInBounds_toArray, List.set_cons_zero, List.set_cons_succ]
                refine take_do (i := 9) (v := (.bool false)) rfl (by kernel_rfl) (by kernel_rfl) (by kernel_rfl) (fun _ _ _ h => h) (by rfl) ?_ (by assumption) ?_
                · intro w hSw
                  have hc_ut := (hSw.cell (World.block_lt_of_cell? _ _ ut)).trans ut
                  go_simp
                simp only [Act.put, List.setIfInBounds_toArray, List.set_cons_zero, List.set_cons_succ]
                refine take_do (i := 10) (v := (.bool true)) rfl (by kernel_rfl) (by kernel_rfl) (by kernel_rfl) (fun _ _ _ h => h) (by rfl) ?_ (by assumption) ?_
                · intro w hSw
                  skip
                  go_simp
                simp only [Act.put, List.setIfInBounds_toArray, List.set_cons_zero, List.set_cons_succ]
                refine take_do (i := 11) (v := (.bool true)) rfl (by kernel_rfl) (by kernel_rfl) (by kernel_rfl) (fun _ _ _ h => h) (by rfl) ?_ (by assumption) ?_
                · intro w hSw
                  skip
                  go_simp
                simp only [Act.put, List.setIfInBounds_toArray, List.set_cons_zero, List.set_cons_succ]
                refine take_do (i := 12) (v := (.slice a m cap)) rfl (by kernel_rfl) (by kernel_rfl) (by kernel_rfl) (fun _ _ _ h => h) (by rfl) ?_ (by assumption) ?_
                · intro w hSw
                  skip
                  go_simp
                simp only [Act.put, List.setIfInBounds_toArray, List.set_cons_zero, List.set_cons_succ]
                refine take_do (i := 13) (v := (.int .i64 (i : Nat))) rfl (by kernel_rfl) (by kernel_rfl) (by kernel_rfl) (fun _ _ _ h => h) (by rfl) ?_ (by assumption) ?_
                · intro w hSw
                  skip
                  go_simp
                simp only [Act.put, List.setIfInBounds_toArray, List.set_cons_zero, List.set_cons_succ]
                refine take_call (i := 14) rfl (by kernel_rfl) (fun K2 hK => ?_)
                go_simp
                refine (shas_any a m cap f (i : Nat) _ (HL1.out.below hHeld) hm).mono ?_
                rintro e Z1 ⟨rfl, rfl⟩
                go_wp2_with fail
                refine hK.out _ _ hHeld (fun hHeld2 => ?_)
                clear hK hHeld
                have hHeld := hHeld2
                clear hHeld2
                refine take_do (i := 15) (v := (.bool (!(dB (Pl.Has m f (i : Int)))))) rfl (by kernel_rfl) (by kernel_rfl) (by kernel_rfl) (fun _ _ _ h => h) (by rfl) ?_ (by assumption) ?_
                · intro w hSw
                  skip
                  go_simp
                simp only [Act.put, List.setIfInBounds_toArray, List.set_cons_zero, List.set_cons_succ]
                refine take_do (i := 16) (v := (.bool (!(dB (Pl.Has m f (i : Int)))))) rfl (by kernel_rfl) (by kernel_rfl) (by kernel_rfl) (fun _ _ _ h => h) (by rfl) ?_ (by assumption) ?_
                · intro w hSw
                  skip
                  go_simp
                simp only [Act.put, List.setIfInBounds_toArray, List.set_cons_zero, List.set_cons_succ]
                refine wpAnyH_done (by kernel_rfl) ?_ _
                have HBZ := Lib.hid hHeld
                clear hHeld
                have HS4 := Lib.hid (HS3.out.below HBZ.out)
                have HR4 := Lib.hid (nrow_below HR3.out HBZ.out)
                have HNG : Hid (wr.heap.size ≠ g) := HNEG.out
                clear x0 x1 x2 uf ut zg zx HBZ HS3 HR3
                obtain ⟨⟨x0, x1, x2⟩, _⟩ := rowN3 HR4.out
                by_cases hsh : Pl.In m f i
                · have eS : dB (Pl.Has m f (i : Int)) = true := dB_tt hsh
                  have HCL2 : Hid (ag = false → ∀ i', i' < i + 1 → ¬ Pl.In m f i' → u2 (n.from_ i') = u2 (n.to_ i')) := fun hag i' hi' hs => by
                    by_cases e : i' = i
                    · subst e; exact absurd hsh hs
                    · exact hCl.out hag i' (by omega) hs
                  rw [eS]
                  clear hsh hCl eS hbf hbt
                  go_wp2_with fail
                  go_roundw
                  case rel => exact ⟨i + 1, ag, u2, by omega, by go_num, rfl, HS4, hSnd2, hSrc2, hMono, HCL2, hLess⟩
                  case measure => simp [intOf]; omega
                · have eS : dB (Pl.Has m f (i : Int)) = false := dB_ff hsh
                  rw [eS]
                  have uf := World.rowIs.cell HS4.out.blk hvf
                  have zf := World.rowIs.frozen HS4.out.blk vf
                  have zt := World.rowIs.frozen HS4.out.blk vt
                  have zg := World.rowIs.lt HS4.out.blk
                  have ut := World.rowIs.cell HS4.out.blk hvt
                  have HS5 := Lib.hid ((HS4.out.set vf true).set vt true)
                  have hng := HNG.out
                  have hvne : ¬ vf = vt := by have := HRT.out.ne hlt; rw [← HVF.out, ← HVT.out] at this; exact this
                  have hvne2 : ¬ vt = vf := fun e => hvne e.symm
                  have HW5 : Hid (Pl.Wet n (Pl.In m f) vf ∧ Pl.Wet n (Pl.In m f) vt) := by
                    have e1 := HVF.out
                    have e2 := HVT.out
                    have h1 := hSnd2.out vf hvf hbf
                    exact ⟨h1, by rw [e2]; exact .fwd i hlt hsh (by rw [← e1]; exact h1)⟩
                  have HM5 : Hid (∀ v, v < n.hn → u v = true → updB (updB u2 vf true) vt true v = true) := fun v hv hu => by
                    unfold updB
                    split
                    · rfl
                    · split
                      · rfl
                      · exact hMono.out v hv hu
                  have HSD5 : Hid (∀ v, v < n.hn → updB (updB u2 vf true) vt true v = true → Pl.Wet n (Pl.In m f) v) := fun v hv hu => by
                    unfold updB at hu
                    by_cases e1 : v = vt
                    · rw [e1]; exact HW5.out.2
                    · rw [if_neg e1] at hu
                      by_cases e2 : v = vf
                      · rw [e2]; exact HW5.out.1
                      · rw [if_neg e2] at hu; exact hSnd2.out v hv hu
                  have HSR5 : Hid (∀ j, j < n.sn → updB (updB u2 vf true) vt true (n.S j).toNat = true) := fun j hj => by
                    unfold updB
                    split
                    · rfl
                    · split
                      · rfl
                      · exact hSrc2.out j hj
                  have HLS5 : Hid (cntN (uI (updB (updB u2 vf true) vt true)) n.hn < cntN (uI u) n.hn) := by
                    refine cntN_less (k := vt) (fun v hv e => ?_) hvt ?_ ?_
                    · unfold uI at e ⊢
                      by_cases hu : u v = true
                      · rw [if_pos (HM5.out v hv hu)] at e; omega
                      · rw [if_neg hu]
                    · unfold uI
                      have : ¬ u vt = true := fun x => by have := hMono.out vt hvt x; rw [hbt] at this; cases this
                      rw [if_neg this]
                    · unfold uI updB
                      simp
                  clear hsh hCl eS hbf hbt HNG HNEG hLess
                  go_wp2_with fail
                  go_roundw
                  case rel => exact ⟨i + 1, true, _, by omega, by go_num, rfl, HS5, HSD5, HSR5, HM5, (fun x => by cases x), fun _ => HLS5.out⟩
                  case measure => simp [intOf]; omega
            | false =>
              cases hbt : u2 vt with
              | true =>
                rw [hbf] at uf
                rw [hbt] at ut
                refine wp_region_held_drew (S := fun V => Below W1.heap.size W1 V) (by kernel_rfl) (Below.refl _ _).drew (fun hHeld => ?_)
                obtain ⟨Z, hZ⟩ : ∃ Z, Z = W1.drew := ⟨_, rfl⟩
                rw [← hZ] at hHeld ⊢
                clear hZ
                refine take_do (i := 0) (v := (.slice (some ⟨g, 0, none⟩) n.hn n.hn)) rfl (by kernel_rfl) (by kernel_rfl) (by kernel_rfl) (fun _ _ _ h => h) (by rfl) ?_ (by assumption) ?_
                · intro w hSw
                  skip
                  go_simp
                simp only [Act.put, List.setIfInBounds_toArray, List.set_cons_zero, List.set_cons_succ]
                refine take_do (i := 1) (v := (.pointer (some ⟨wr.heap.size, 0, none⟩))) rfl (by kernel_rfl) (by kernel_rfl) (by kernel_rfl) (fun _ _ _ h => h) (by rfl) ?_ (by assumption) ?_
                · intro w hSw
                  skip
                  go_simp
                simp only [Act.put, List.setIfInBounds_toArray, List.set_cons_zero, List.set_cons_succ]
                refine take_do (i := 2) (v := (.int .i64 (vf : Nat))) rfl (by kernel_rfl) (by kernel_rfl) (by kernel_rfl) (fun _ _ _ h => h) (by rfl) ?_ (by assumption) ?_
                · intro w hSw
                  have hc_x0 := (hSw.cell (World.block_lt_of_cell? _ _ x0)).trans x0
                  go_simp
                simp only [Act.put, List.setIfInBounds_toArray, List.set_cons_zero, List.set_cons_succ]
                refine take_do (i := 3) (v := (.pointer (some ⟨g, vf, none⟩))) rfl (by kernel_rfl) (by kernel_rfl) (by kernel_rfl) (fun _ _ _ h => h) (by rfl) ?_ (by assumption) ?_
                · intro w hSw
                  skip
                  go_simp
                simp only [Act.put, List.setIfInBounds_toArray, List.set_cons_zero, List.set_cons_succ]
                refine take_do (i := 4) (v := (.bool false)) rfl (by kernel_rfl) (by kernel_rfl) (by kernel_rfl) (fun _ _ _ h => h) (by rfl) ?_ (by assumption) ?_
                · intro w hSw
                  have hc_uf := (hSw.cell (World.block_lt_of_cell? _ _ uf)).trans uf
                  go_simp
                simp only [Act.put, List.setIfInBounds_toArray, List.set_cons_zero, List.set_cons_succ]
                refine take_do (i := 5) (v := (.slice (some ⟨g, 0, none⟩) n.hn n.hn)) rfl (by kernel_rfl) (by kernel_rfl) (by kernel_rfl) (fun _ _ _ h => h) (by rfl) ?_ (by assumption) ?_
                · intro w hSw
                  skip
                  go_simp
                simp only [Act.put, List.setIfInBounds_toArray, List.set_cons_zero, List.set_cons_succ]
                refine take_do (i := 6) (v := (.pointer (some ⟨wr.heap.size, 1, none⟩))) rfl (by kernel_rfl) (by kernel_rfl) (by kernel_rfl) (fun _ _ _ h => h) (by rfl) ?_ (by assumption) ?_
                · intro w hSw
                  skip
                  go_simp
                simp only [Act.put, List.setIfInBounds_toArray, List.set_cons_zero, List.set_cons_succ]
                refine take_do (i := 7) (v := (.int .i64 (vt : Nat))) rfl (by kernel_rfl) (by kernel_rfl) (by kernel_rfl) (fun _ _ _ h => h) (by rfl) ?_ (by assumption) ?_
                · intro w hSw
                  have hc_x1 := (hSw.cell (World.block_lt_of_cell? _ _ x1)).trans x1
                  go_simp
                simp only [Act.put, List.setIfInBounds_toArray, List.set_cons_zero, List.set_cons_succ]
                refine take_do (i := 8) (v := (.pointer (some ⟨g, vt, none⟩))) rfl (by kernel_rfl) (by kernel_rfl) (by kernel_rfl) (fun _ _ _ h => h) (by rfl) ?_ (by assumption) ?_
                · intro w hSw
                  skip
                  go_simp
                simp only [Act.put, List.setIfInBounds_toArray, List.set_cons_zero, List.set_cons_succ]
                refine take_do (i := 9) (v := (.bool true)) rfl (by kernel_rfl) (by kernel_rfl) (by kernel_rfl) (fun _ _ _ h => h) (by rfl) ?_ (by assumption) ?_
                · intro w hSw
                  have hc_ut := (hSw.cell (World.block_lt_of_cell? _ _ ut)).trans ut
                  go_simp
                simp only [Act.put, List.setIfInBounds_toArray, List.set_cons_zero, List.set_cons_succ]
                refine take_do (i := 10) (v := (.bool true)) rfl (by kernel_rfl) (by kernel_rfl) (by kernel_rfl) (fun _ _ _ h => h) (by rfl) ?_ (by assumption) ?_
                · intro w hSw
                  skip
                  go_simp
                simp only [Act.put, List.setIfInBounds_toArray, List.set_cons_zero, List.set_cons_succ]
                refine take_do (i := 11) (v := (.bool true)) rfl (by kernel_rfl) (by kernel_rfl) (by kernel_rfl) (fun _ _ _ h => h) (by rfl) ?_ (by assumption) ?_
                · intro w hSw
                  skip
                  go_simp
                simp only [Act.put, List.setIfInBounds_toArray, List.set_cons_zero, List.set_cons_succ]
                refine take_do (i := 12) (v := (.slice a m cap)) rfl (by kernel_rfl) (by kernel_rfl) (by kernel_rfl) (fun _ _ _ h => h) (by rfl) ?_ (by assumption) ?_
                · intro w hSw
                  skip
                  go_simp
                simp only [Act.put, List.setIfInBounds_toArray, List.set_cons_zero, List.set_cons_succ]
                refine take_do (i := 13) (v := (.int .i64 (i : Nat))) rfl (by kernel_rfl) (by kernel_rfl) (by kernel_rfl) (fun _ _ _ h => h) (by rfl) ?_ (by assumption) ?_
                · intro w hSw
                  skip
                  go_simp
                simp only [Act.put, List.setIfInBounds_toArray, List.set_cons_zero, List.set_cons_succ]
                refine take_call (i := 14) rfl (by kernel_rfl) (fun K2 hK => ?_)
                go_simp
                refine (shas_any a m cap f (i : Nat) _ (HL1.out.below hHeld) hm).mono ?_
                rintro e Z1 ⟨rfl, rfl⟩
                go_wp2_with fail
                refine hK.out _ _ hHeld (fun hHeld2 => ?_)
                clear hK hHeld
                have hHeld := hHeld2
                clear hHeld2
                refine take_do (i := 15) (v := (.bool (!(dB (Pl.Has m f (i : Int)))))) rfl (by kernel_rfl) (by kernel_rfl) (by kernel_rfl) (fun _ _ _ h => h) (by rfl) ?_ (by assumption) ?_
                · intro w hSw
                  skip
                  go_simp
                simp only [Act.put, List.setIfInBounds_toArray, List.set_cons_zero, List.set_cons_succ]
                refine take_do (i := 16) (v := (.bool (!(dB (Pl.Has m f (i : Int)))))) rfl (by kernel_rfl) (by kernel_rfl) (by kernel_rfl) (fun _ _ _ h => h) (by rfl) ?_ (by assumption) ?_
                · intro w hSw
                  skip
                  go_simp
                simp only [Act.put, List.setIfInBounds_toArray, List.set_cons_zero, List.set_cons_succ]
                refine wpAnyH_done (by kernel_rfl) ?_ _
                have HBZ := Lib.hid hHeld
                clear hHeld
                have HS4 := Lib.hid (HS3.out.below HBZ.out)
                have HR4 := Lib.hid (nrow_below HR3.out HBZ.out)
                have HNG : Hid (wr.heap.size ≠ g) := HNEG.out
                clear x0 x1 x2 uf ut zg zx HBZ HS3 HR3
                obtain ⟨⟨x0, x1, x2⟩, _⟩ := rowN3 HR4.out
                by_cases hsh : Pl.In m f i
                · have eS : dB (Pl.Has m f (i : Int)) = true := dB_tt hsh
                  have HCL2 : Hid (ag = false → ∀ i', i' < i + 1 → ¬ Pl.In m f i' → u2 (n.from_ i') = u2 (n.to_ i')) := fun hag i' hi' hs => by
                    by_cases e : i' = i
                    · subst e; exact absurd hsh hs
                    · exact hCl.out hag i' (by omega) hs
                  rw [eS]
                  clear hsh hCl eS hbf hbt
                  go_wp2_with fail
                  go_roundw
                  case rel => exact ⟨i + 1, ag, u2, by omega, by go_num, rfl, HS4, hSnd2, hSrc2, hMono, HCL2, hLess⟩
                  case measure => simp [intOf]; omega
                · have eS : dB (Pl.Has m f (i : Int)) = false := dB_ff hsh
                  rw [eS]
                  have uf := World.rowIs.cell HS4.out.blk hvf
                  have zf := World.rowIs.frozen HS4.out.blk vf
                  have zt := World.rowIs.frozen HS4.out.blk vt
                  have zg := World.rowIs.lt HS4.out.blk
                  have ut := World.rowIs.cell HS4.out.blk hvt
                  have HS5 := Lib.hid ((HS4.out.set vf true).set vt true)
                  have hng := HNG.out
                  have hvne : ¬ vf = vt := by have := HRT.out.ne hlt; rw [← HVF.out, ← HVT.out] at this; exact this
                  have hvne2 : ¬ vt = vf := fun e => hvne e.symm
                  have HW5 : Hid (Pl.Wet n (Pl.In m f) vf ∧ Pl.Wet n (Pl.In m f) vt) := by
                    have e1 := HVF.out
                    have e2 := HVT.out
                    have h1 := hSnd2.out vt hvt hbt
                    exact ⟨by rw [e1]; exact .bwd i hlt hsh (by rw [← e2]; exact h1), h1⟩
                  have HM5 : Hid (∀ v, v < n.hn → u v = true → updB (updB u2 vf true) vt true v = true) := fun v hv hu => by
                    unfold updB
                    split
                    · rfl
                    · split
                      · rfl
                      · exact hMono.out v hv hu
                  have HSD5 : Hid (∀ v, v < n.hn → updB (updB u2 vf true) vt true v = true → Pl.Wet n (Pl.In m f) v) := fun v hv hu => by
                    unfold updB at hu
                    by_cases e1 : v = vt
                    · rw [e1]; exact HW5.out.2
                    · rw [if_neg e1] at hu
                      by_cases e2 : v = vf
                      · rw [e2]; exact HW5.out.1
                      · rw [if_neg e2] at hu; exact hSnd2.out v hv hu
                  have HSR5 : Hid (∀ j, j < n.sn → updB (updB u2 vf true) vt true (n.S j).toNat = true) := fun j hj => by
                    unfold updB
                    split
                    · rfl
                    · split
                      · rfl
                      · exact hSrc2.out j hj
                  have HLS5 : Hid (cntN (uI (updB (updB u2 vf true) vt true)) n.hn < cntN (uI u) n.hn) := by
                    refine cntN_less (k := vf) (fun v hv e => ?_) hvf ?_ ?_
                    · unfold uI at e ⊢
                      by_cases hu : u v = true
                      · rw [if_pos (HM5.out v hv hu)] at e; omega
                      · rw [if_neg hu]
                    · unfold uI
                      have : ¬ u vf = true := fun x => by have := hMono.out vf hvf x; rw [hbf] at this; cases this
                      rw [if_neg this]
                    · unfold uI updB
                      simp
                  clear hsh hCl eS hbf hbt HNG HNEG hLess
                  go_wp2_with fail
                  go_roundw
                  case rel => exact ⟨i + 1, true, _, by omega, by go_num, rfl, HS5, HSD5, HSR5, HM5, (fun x => by cases x), fun _ => HLS5.out⟩
                  case measure => simp [intOf]; omega
              | false =>
                rw [hbf] at uf
                rw [hbt] at ut
                have HCL2 : Hid (ag = false → ∀ i', i' < i + 1 → ¬ Pl.In m f i' → u2 (n.from_ i') = u2 (n.to_ i')) := fun hag i' hi' hs => by
                  by_cases e : i' = i
                  · subst e; rw [← HVF.out, ← HVT.out, hbf, hbt]
                  · exact hCl.out hag i' (by omega) hs
                clear hbf hbt hCl
                go_quiet (fail)
                go_wp2_with fail
                go_roundw
                case rel => exact ⟨i + 1, ag, u2, by omega, by go_num, rfl, HS3.out.below (ndrewN (Below.refl _ _) _), hSnd2, hSrc2, hMono, HCL2, hLess⟩
                case measure => simp [intOf]; omega
          · obtain rfl : i = n.rn := by omega
            have HCB1 := Lib.hid (cntB_eq hS2.out.blk)
            have HLE : Hid (cntN (uI u2) n.hn ≤ cntN (uI u) n.hn) := cntN_mono (fun v hv e => by
              unfold uI at e ⊢
              by_cases hu : u v = true
              · rw [if_pos (hMono.out v hv hu)] at e; omega
              · rw [if_neg hu])
            go_wp2_with fail
            go_roundw
            case rel => exact ⟨ag, u2, rfl, hS2, hSnd2, hSrc2, hCl⟩
            case measure =>
              have h1 := HCB0.out
              have h2 := HCB1.out
              have h3 := HLE.out
              cases ag with
              | true =>
                have h4 := hLess.out rfl
                simp
                rw [h1, h2]
                omega
              | false =>
                simp
                rw [h1, h2]
                omega
end Go.Proofs.YtipmjobhegpdgaaGreatDoor
