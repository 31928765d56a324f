/-
  The plant's settling.
-/
import Derived.Test.YtcjeieagpcphjaaDoorWkPs
import Derived.Test.YtcjeieagpcphjaaDoorWkPt
import Derived.Test.YtcjeieagpcphjaaDoorWkSt
import Derived.Deep.DeepCutAuto
namespace Go.Proofs.YtcjeieagpcphjaaDoor
open Go.RowKit Go.Deep

/-- How settling ends, in one form. -/
def StG (wt : Int) (n : Nat) (f : Nat → Int) (m : Nat) (mi : Nat → Int) (x y : Be) (er : Value) (W : World) : Prop :=
  (Wk.SettleOk ⟨wt, n, f⟩ m mi ∧ er = .nilIface ∧ x.b = ⟨wt, n, fun j => f j - Wk.sett ⟨wt, n, f⟩ mi j⟩ ∧ y.b = ⟨0, n, Wk.sett ⟨wt, n, f⟩ mi⟩ ∧ (∃ g, x.pa = some ⟨g, 0, none⟩ ∧ InBlk g x.n x.f W) ∧ (∃ g, y.pa = some ⟨g, 0, none⟩ ∧ InBlk g y.n y.f W)) ∨
  (¬ Wk.SettleOk ⟨wt, n, f⟩ m mi ∧ ErrIs er 1)
theorem stEnd_form {lo : Nat} {wt : Int} {n : Nat} {f : Nat → Int} {m : Nat} {mi : Nat → Int} {e : Ending} {W : World} (h : StEnd lo wt n f m mi e W) : ∃ (x y : Be) (er : Value), e = .returned (.tuple #[btV x.wt x.pa x.n x.k, btV y.wt y.pa y.n y.k, er]) ∧ StG wt n f m mi x y er W := by
  rcases h with ⟨h1, g1, g2, e1, _, h2, h3⟩ | ⟨h1, er, e1, h2⟩
  · exact ⟨⟨wt, some ⟨g1, 0, none⟩, n, n, _⟩, ⟨0, some ⟨g2, 0, none⟩, n, n, _⟩, .nilIface, e1, Or.inl ⟨h1, rfl, rfl, rfl, ⟨g1, rfl, h2⟩, ⟨g2, rfl, h3⟩⟩⟩
  · exact ⟨⟨0, none, 0, 0, fun _ => 0⟩, ⟨0, none, 0, 0, fun _ => 0⟩, er, e1, Or.inr ⟨h1, h2⟩⟩
theorem StG.keep {wt : Int} {n : Nat} {f : Nat → Int} {m : Nat} {mi : Nat → Int} {x y : Be} {er : Value} {W W' : World} (h : StG wt n f m mi x y er W) (hi : ∀ (g : Nat) (cur : Array Value), W.heap[g]? = some (Obj.cells cur 2 (0, 0)) → W'.heap[g]? = W.heap[g]?) : StG wt n f m mi x y er W' := by
  rcases h with ⟨h1, h2, h3, h4, ⟨g1, e1, i1⟩, ⟨g2, e2, i2⟩⟩ | h
  · obtain ⟨c1, k1⟩ := inBlk_type i1
    obtain ⟨c2, k2⟩ := inBlk_type i2
    exact Or.inl ⟨h1, h2, h3, h4, ⟨g1, e1, i1.block (hi _ _ k1)⟩, ⟨g2, e2, i2.block (hi _ _ k2)⟩⟩
  · exact Or.inr h
theorem StG.below {wt : Int} {n : Nat} {f : Nat → Int} {m : Nat} {mi : Nat → Int} {x y : Be} {er : Value} {W W' : World} (h : StG wt n f m mi x y er W) (hb : Below W.heap.size W W') : StG wt n f m mi x y er W' := h.keep (fun g _ e => hb.block g (lt_of_some e))
theorem StG.set {wt : Int} {n : Nat} {f : Nat → Int} {m : Nat} {mi : Nat → Int} {x y : Be} {er : Value} {W : World} (h : StG wt n f m mi x y er W) {r : Nat} {F : Nat → Value} (hr : W.rowIs r 28 2 F) (i : Nat) (u : Value) : StG wt n f m mi x y er (W.setCell ⟨r, i, none⟩ u) :=
  h.keep (fun g c e => Below.heap_setCell _ ⟨r, i, none⟩ _ _ (blk_ne ⟨c, e⟩ (rowIs_type hr) (by decide)))
theorem wrow_keep {W : World} {r : Nat} {t : TypeId} {F : Nat → Value} {m : Nat} (hr : W.rowIs r t m F) (i : Nat) (u : Value) : (W.setCell ⟨r, i, none⟩ u).rowIs r t m (fun j => if j = i then u else F j) := hr.set i u
/-- What stands behind the settling. -/
def SeC (W1 : World) (wt : Int) (n : Nat) (f : Nat → Int) (m : Nat) (mi : Nat → Int) (p6 p7 er : Value) (V : World) : Prop :=
  ∃ (g6 g7 : Nat) (x y : Be), p6 = .pointer (some ⟨g6, 0, none⟩) ∧ p7 = .pointer (some ⟨g7, 0, none⟩) ∧ Below W1.heap.size W1 V ∧ (W1.heap.size ≤ g6 ∧ W1.heap.size ≤ g7 ∧ g6 ≠ g7) ∧ V.rowIs g6 28 2 (r2 (.int .i64 x.wt) (.slice x.pa x.n x.k)) ∧ V.rowIs g7 28 2 (r2 (.int .i64 y.wt) (.slice y.pa y.n y.k)) ∧ StG wt n f m mi x y er V
theorem seC_below {W1 : World} {wt : Int} {n : Nat} {f : Nat → Int} {m : Nat} {mi : Nat → Int} {p6 p7 er : Value} {V : World} (h : SeC W1 wt n f m mi p6 p7 er V) : Below W1.heap.size W1 V := by obtain ⟨_, _, _, _, _, _, h, _⟩ := h; exact h
/-- How the plant's settling ends. -/
def SpOut (B pb : Nat) (mv : Value) (fl : Wk.Fl) (cv : Value) (cn : Nat) (C : Nat → Wk.Bt) (wv : Value) (wn : Nat) (D : Nat → Wk.Bt) (k : Int) (wt : Int) (n : Nat) (f : Nat → Int) (m : Nat) (mi : Nat → Int) (w : World) (e : Ending) (W : World) : Prop :=
  (Wk.SettleOk ⟨wt, n, f⟩ m mi ∧ ∃ (x : Be) (v' : Value), e = .returned (.tuple #[btV x.wt x.pa x.n x.k, .nilIface]) ∧ x.b = ⟨wt, n, fun j => f j - Wk.sett ⟨wt, n, f⟩ mi j⟩ ∧ (∃ g, x.pa = some ⟨g, 0, none⟩ ∧ InBlk g x.n x.f W) ∧ PlS B pb mv fl cv cn C v' (wn + 1) D k W ∧ Fr pb cv wv w W ∧ Gw wv v' w.heap.size) ∨
  (¬ Wk.SettleOk ⟨wt, n, f⟩ m mi ∧ ∃ er, e = .returned (.tuple #[nilB, er]) ∧ ErrIs er 1 ∧ Fr pb cv wv w W)
set_option maxRecDepth 100000 in
set_option maxHeartbeats 16000000 in
theorem settleP_any (B pb : Nat) (ma : Option Addr) (m mk : Nat) (mi : Nat → Int) (fl : Wk.Fl) (cv : Value) (cn : Nat) (C : Nat → Wk.Bt) (wv : Value) (wn : Nat) (D : Nat → Wk.Bt) (k : Int) (wt : Int) (a : Option Addr) (n kk : Nat) (f : Nat → Int) (w : World) (h : PlS B pb (.slice ma m mk) fl cv cn C wv wn D k w)
    (h1 : IntsAt a n f w) (hn : n ≤ 4194304) (h2 : IntsAt ma m mi w) (hm : m ≤ 4194304) (hwn : wn ≤ 1000) (hD : Wk.SettleOk ⟨wt, n, f⟩ m mi → D wn = ⟨0, n, Wk.sett ⟨wt, n, f⟩ mi⟩) :
    Calls Tryd.prog 49 #[.pointer (some ⟨pb, 0, none⟩), btV wt a n kk] w fun e W => SpOut B pb (.slice ma m mk) fl cv cn C wv wn D k wt n f m mi w e W := by
  obtain ⟨i0, hi0, hz0, hz1, hz2⟩ := info_parts info_bt
  obtain ⟨W1, hW1⟩ : ∃ W1, W1 = (w.alloc (.cells #[.int .i64 wt, .slice a n kk] 28)).alloc (.cells #[.int .i64 0, .slice none 0 0] 28) := ⟨_, rfl⟩
  have hb : Below w.heap.size w W1 := by rw [hW1]; exact (bel_alloc _ _).alloc (by simp) _
  have HRB : Hid (W1.rowIs w.heap.size 28 2 (r2 (.int .i64 wt) (.slice a n kk))) := by show World.rowIs _ _ _ _ _; rw [hW1]; exact wrow_below (row2 _ _ _ _) (bel_alloc _ _)
  have HRO : Hid (W1.rowIs (w.heap.size + 1) 28 2 (r2 (.int .i64 0) (.slice none 0 0))) := by show World.rowIs _ _ _ _ _; rw [hW1]; exact row2' (by simp) _ _ _
  have HW1 := Lib.hid hW1
  have HB1 := Lib.hid hb
  have HP := Lib.hid (h.below hb)
  have HI := Lib.hid (h1.below hb)
  have HMI := Lib.hid (h2.below hb)
  have HN := Lib.hid hn
  have HM := Lib.hid hm
  have HD := Lib.hid hD
  have HSZ := Lib.hid h.sz
  have HCB : Hid (∀ g, w.heap.size ≤ g → cv.ownBlock ≠ some g ∧ wv.ownBlock ≠ some g) := fun g hg => ⟨fun e => by have := (h.cl.lt e).2; omega, fun e => by have := (h.wl.lt e).2; omega⟩
  clear hW1 hb h h1 h2 hn hm hD
  go_enter Tryd.func49, Tryd.ntmps49
  go_wp2_with fail
  rw [← HW1.out]
  go_cut [6, 7, 8] (fun p6 p7 er V => Hid (SeC W1 wt n f m mi p6 p7 er V))
  case first =>
    refine wp_region_held_drew (S := fun V => Below W1.heap.size W1 V) (by kernel_rfl) (Below.refl _ _).drew (fun hHeld => ?_)
    obtain ⟨Z, hZ⟩ : ∃ Z, Z = W1.drew := ⟨_, rfl⟩
    rw [← hZ] at hHeld ⊢
    clear hZ
    refine take_do (i := 0) (v := (btV wt a n kk)) rfl (by kernel_rfl) (by kernel_rfl) (by kernel_rfl) (fun _ _ _ h => h) (by rfl) ?_ (by assumption) ?_
    · intro w hSw
      obtain ⟨⟨x0, x1⟩, _⟩ := row2_cells (wrow_below HRB.out hSw)
      go_simp
    simp only [Act.put, List.setIfInBounds_toArray, List.set_cons_zero, List.set_cons_succ]
    refine take_do (i := 1) (v := (.pointer (some ⟨pb, 0, none⟩))) rfl (by kernel_rfl) (by kernel_rfl) (by kernel_rfl) (fun _ _ _ h => h) (by rfl) ?_ (by assumption) ?_
    · intro w hSw
      skip
      go_simp
    simp only [Act.put, List.setIfInBounds_toArray, List.set_cons_zero, List.set_cons_succ]
    refine take_do (i := 2) (v := (.pointer (some ⟨pb, 0, none⟩))) rfl (by kernel_rfl) (by kernel_rfl) (by kernel_rfl) (fun _ _ _ h => h) (by rfl) ?_ (by assumption) ?_
    · intro w hSw
      skip
      go_simp
    simp only [Act.put, List.setIfInBounds_toArray, List.set_cons_zero, List.set_cons_succ]
    refine take_do (i := 3) (v := (.pointer (some ⟨pb, 0, none⟩))) rfl (by kernel_rfl) (by kernel_rfl) (by kernel_rfl) (fun _ _ _ h => h) (by rfl) ?_ (by assumption) ?_
    · intro w hSw
      skip
      go_simp
    simp only [Act.put, List.setIfInBounds_toArray, List.set_cons_zero, List.set_cons_succ]
    refine take_do (i := 4) (v := (.slice ma m mk)) rfl (by kernel_rfl) (by kernel_rfl) (by kernel_rfl) (fun _ _ _ h => h) (by rfl) ?_ (by assumption) ?_
    · intro w hSw
      have x0 : w.cell? ⟨pb, 0, none⟩ = some (.slice ma m mk) := (wrow_below HP.out.row hSw).cell (i := 0) (by omega)
      go_simp
    simp only [Act.put, List.setIfInBounds_toArray, List.set_cons_zero, List.set_cons_succ]
    refine wpAnyH_ready (rs := [5, 10, 11]) (by kernel_rfl) (by simp) (AllReadyH.cons (at_drop (i := 5) rfl) (fun K2 hK => ?_) (AllReadyH.cons (at_drop (i := 10) rfl) (fun K2 hK => ?_) (AllReadyH.cons (at_drop (i := 11) rfl) (fun K2 hK => ?_) (AllReadyH.nil))))
    · go_simp
      refine (settleB_any wt a n kk f ma m mk mi _ (HI.out.below hHeld) HN.out (HMI.out.below hHeld) HM.out).mono ?_
      rintro e Z1 ⟨hst, hb⟩
      obtain ⟨x, y, er, rfl, hg⟩ := stEnd_form hst
      have HG := Lib.hid hg
      clear hst hg
      go_wp2_with fail
      refine hK.out _ _ (hHeld.trans (hb.mono hHeld.size)) (fun hHeld2 => ?_)
      clear hK hHeld
      have hHeld := hHeld2
      clear hHeld2
      clear hb
      refine take_do (i := 6) (v := (.tuple #[(btV x.wt x.pa x.n x.k), (btV y.wt y.pa y.n y.k), er])) rfl (by kernel_rfl) (by kernel_rfl) (by kernel_rfl) (fun _ _ _ h => h) (by rfl) ?_ (by assumption) ?_
      · intro w hSw
        skip
        go_simp
      simp only [Act.put, List.setIfInBounds_toArray, List.set_cons_zero, List.set_cons_succ]
      refine take_do (i := 7) (v := (btV x.wt x.pa x.n x.k)) rfl (by kernel_rfl) (by kernel_rfl) (by kernel_rfl) (fun _ _ _ h => h) (by rfl) ?_ (by assumption) ?_
      · intro w hSw
        skip
        go_simp
      simp only [Act.put, List.setIfInBounds_toArray, List.set_cons_zero, List.set_cons_succ]
      refine take_do (i := 8) (v := (btV y.wt y.pa y.n y.k)) rfl (by kernel_rfl) (by kernel_rfl) (by kernel_rfl) (fun _ _ _ h => h) (by rfl) ?_ (by assumption) ?_
      · intro w hSw
        skip
        go_simp
      simp only [Act.put, List.setIfInBounds_toArray, List.set_cons_zero, List.set_cons_succ]
      refine take_do (i := 9) (v := er) rfl (by kernel_rfl) (by kernel_rfl) (by kernel_rfl) (fun _ _ _ h => h) (by rfl) ?_ (by assumption) ?_
      · intro w hSw
        skip
        go_simp
      simp only [Act.put, List.setIfInBounds_toArray, List.set_cons_zero, List.set_cons_succ]
      refine wpAnyH_ready (rs := [10, 11]) (by kernel_rfl) (by simp) (AllReadyH.cons (at_drop (i := 10) rfl) (fun K2 hK => ?_) (AllReadyH.cons (at_drop (i := 11) rfl) (fun K2 hK => ?_) (AllReadyH.nil)))
      · obtain ⟨Z2, hZ2⟩ : ∃ Z2, Z2 = Z1.alloc (.cells #[.int .i64 0, .slice none 0 0] 28) := ⟨_, rfl⟩
        have hb : Below Z1.heap.size Z1 Z2 := by rw [hZ2]; exact bel_alloc _ _
        obtain ⟨g6, hg6⟩ : ∃ g6, g6 = Z1.heap.size := ⟨_, rfl⟩
        have H6 : Hid (Z2.rowIs g6 28 2 (r2 (.int .i64 0) (.slice none 0 0))) := by show World.rowIs _ _ _ _ _; rw [hZ2, hg6]; exact row2 _ _ _ _
        have Gg6 : Hid (W1.heap.size ≤ g6) := by show _ ≤ _; rw [hg6]; exact hHeld.size
        replace HG := Lib.hid (HG.out.below hb)
        go_simp
        rw [← hZ2, ← hg6]
        refine hK.out _ _ (hHeld.trans (hb.mono hHeld.size)) (fun hHeld2 => ?_)
        clear hK hHeld
        have hHeld := hHeld2
        clear hHeld2
        clear hb hZ2 hg6
        refine take_call (i := 11) rfl (by kernel_rfl) (fun K2 hK => ?_)
        obtain ⟨Z3, hZ3⟩ : ∃ Z3, Z3 = Z2.alloc (.cells #[.int .i64 0, .slice none 0 0] 28) := ⟨_, rfl⟩
        have hb : Below Z2.heap.size Z2 Z3 := by rw [hZ3]; exact bel_alloc _ _
        obtain ⟨g7, hg7⟩ : ∃ g7, g7 = Z2.heap.size := ⟨_, rfl⟩
        have H7 : Hid (Z3.rowIs g7 28 2 (r2 (.int .i64 0) (.slice none 0 0))) := by show World.rowIs _ _ _ _ _; rw [hZ3, hg7]; exact row2 _ _ _ _
        have Gg7 : Hid (W1.heap.size ≤ g7) := by show _ ≤ _; rw [hg7]; exact hHeld.size
        have G67 : Hid (g6 ≠ g7) := by have h9 := H6.out.lt; show g6 ≠ g7; omega
        replace H6 := Lib.hid (wrow_below H6.out hb)
        replace HG := Lib.hid (HG.out.below hb)
        go_simp
        rw [← hZ3, ← hg7]
        refine hK.out _ _ (hHeld.trans (hb.mono hHeld.size)) (fun hHeld2 => ?_)
        clear hK hHeld
        have hHeld := hHeld2
        clear hHeld2
        clear hb hZ3 hg7
        have e67 := G67.out
        have e6 := Gg6.out
        have e7 := Gg7.out
        obtain ⟨⟨o0, o1⟩, z0, z1⟩ := row2_cells H6.out
        have l6 := H6.out.lt
        obtain ⟨Y1, hY1⟩ : ∃ Y1, Y1 = (Z3.setCell ⟨g6, 0, none⟩ (.int .i64 x.wt)).setCell ⟨g6, 1, none⟩ (.slice x.pa x.n x.k) := ⟨_, rfl⟩
        have J6 : Hid (Y1.rowIs g6 28 2 (r2 (.int .i64 x.wt) (.slice x.pa x.n x.k))) := by show World.rowIs _ _ _ _ _; rw [hY1]; exact row2_put H6.out _ _
        have J7 : Hid (Y1.rowIs g7 28 2 (r2 (.int .i64 0) (.slice none 0 0))) := by show World.rowIs _ _ _ _ _; rw [hY1]; exact wrow_set (wrow_set H7.out (p := ⟨g6, 0, none⟩) (fun e => e67 e.symm) _) (p := ⟨g6, 1, none⟩) (fun e => e67 e.symm) _
        have JG : Hid (StG wt n f m mi x y er Y1) := by show StG _ _ _ _ _ _ _ _ _; rw [hY1]; exact (HG.out.set H6.out 0 _).set (wrow_keep H6.out 0 _) 1 _
        have JB : Hid (Below W1.heap.size W1 Y1) := by show Below _ _ _; rw [hY1]; exact (hHeld.setCell (p := ⟨g6, 0, none⟩) e6 _).setCell (p := ⟨g6, 1, none⟩) e6 _
        refine take_call (i := 12) rfl (by kernel_rfl) (fun K2 hK => ?_)
        go_simp
        rw [← hY1]
        refine hK.out _ _ JB.out (fun hHeld2 => ?_)
        clear hK hHeld hY1 H6 H7 HG o0 o1 z0 z1 l6
        have hHeld := hHeld2
        clear hHeld2
        obtain ⟨⟨o0, o1⟩, z0, z1⟩ := row2_cells J7.out
        have l7 := J7.out.lt
        obtain ⟨Y2, hY2⟩ : ∃ Y2, Y2 = (Y1.setCell ⟨g7, 0, none⟩ (.int .i64 y.wt)).setCell ⟨g7, 1, none⟩ (.slice y.pa y.n y.k) := ⟨_, rfl⟩
        have JC : Hid (SeC W1 wt n f m mi (.pointer (some ⟨g6, 0, none⟩)) (.pointer (some ⟨g7, 0, none⟩)) er Y2) := by
          refine ⟨g6, g7, x, y, rfl, rfl, ?_, ⟨e6, e7, e67⟩, ?_, ?_, ?_⟩
          · rw [hY2]; exact (hHeld.setCell (p := ⟨g7, 0, none⟩) e7 _).setCell (p := ⟨g7, 1, none⟩) e7 _
          · rw [hY2]; exact wrow_set (wrow_set J6.out (p := ⟨g7, 0, none⟩) e67 _) (p := ⟨g7, 1, none⟩) e67 _
          · rw [hY2]; exact row2_put J7.out _ _
          · rw [hY2]; exact (JG.out.set J7.out 0 _).set (wrow_keep J7.out 0 _) 1 _
        refine take_call (i := 13) rfl (by kernel_rfl) (fun K2 hK => ?_)
        go_simp
        rw [← hY2]
        have hB9 := seC_below JC.out
        refine hK.out _ _ hB9 (fun hHeld2 => ?_)
        clear hK hHeld hY2 hB9 o0 o1 z0 z1 l7 J6 J7 JG JB
        have hHeld := hHeld2
        clear hHeld2
        refine take_call (i := 14) rfl (by kernel_rfl) (fun K2 hK => ?_)
        go_simp
        refine hK.out _ _ hHeld (fun _ => ?_)
        refine wpAnyH_done (by kernel_rfl) ?_ _
        clear hHeld
        go_wp2_with fail
        go_meet
        case rel => exact JC
      · obtain ⟨Z4, hZ4⟩ : ∃ Z4, Z4 = Z1.alloc (.cells #[.int .i64 0, .slice none 0 0] 28) := ⟨_, rfl⟩
        have hb : Below Z1.heap.size Z1 Z4 := by rw [hZ4]; exact bel_alloc _ _
        obtain ⟨g7, hg7⟩ : ∃ g7, g7 = Z1.heap.size := ⟨_, rfl⟩
        have H7 : Hid (Z4.rowIs g7 28 2 (r2 (.int .i64 0) (.slice none 0 0))) := by show World.rowIs _ _ _ _ _; rw [hZ4, hg7]; exact row2 _ _ _ _
        have Gg7 : Hid (W1.heap.size ≤ g7) := by show _ ≤ _; rw [hg7]; exact hHeld.size
        replace HG := Lib.hid (HG.out.below hb)
        go_simp
        rw [← hZ4, ← hg7]
        refine hK.out _ _ (hHeld.trans (hb.mono hHeld.size)) (fun hHeld2 => ?_)
        clear hK hHeld
        have hHeld := hHeld2
        clear hHeld2
        clear hb hZ4 hg7
        refine take_call (i := 10) rfl (by kernel_rfl) (fun K2 hK => ?_)
        obtain ⟨Z5, hZ5⟩ : ∃ Z5, Z5 = Z4.alloc (.cells #[.int .i64 0, .slice none 0 0] 28) := ⟨_, rfl⟩
        have hb : Below Z4.heap.size Z4 Z5 := by rw [hZ5]; exact bel_alloc _ _
        obtain ⟨g6, hg6⟩ : ∃ g6, g6 = Z4.heap.size := ⟨_, rfl⟩
        have H6 : Hid (Z5.rowIs g6 28 2 (r2 (.int .i64 0) (.slice none 0 0))) := by show World.rowIs _ _ _ _ _; rw [hZ5, hg6]; exact row2 _ _ _ _
        have Gg6 : Hid (W1.heap.size ≤ g6) := by show _ ≤ _; rw [hg6]; exact hHeld.size
        have G67 : Hid (g6 ≠ g7) := by have h9 := H7.out.lt; show g6 ≠ g7; omega
        replace H7 := Lib.hid (wrow_below H7.out hb)
        replace HG := Lib.hid (HG.out.below hb)
        go_simp
        rw [← hZ5, ← hg6]
        refine hK.out _ _ (hHeld.trans (hb.mono hHeld.size)) (fun hHeld2 => ?_)
        clear hK hHeld
        have hHeld := hHeld2
        clear hHeld2
        clear hb hZ5 hg6
        have e67 := G67.out
        have e6 := Gg6.out
        have e7 := Gg7.out
        obtain ⟨⟨o0, o1⟩, z0, z1⟩ := row2_cells H6.out
        have l6 := H6.out.lt
        obtain ⟨Y1, hY1⟩ : ∃ Y1, Y1 = (Z5.setCell ⟨g6, 0, none⟩ (.int .i64 x.wt)).setCell ⟨g6, 1, none⟩ (.slice x.pa x.n x.k) := ⟨_, rfl⟩
        have J6 : Hid (Y1.rowIs g6 28 2 (r2 (.int .i64 x.wt) (.slice x.pa x.n x.k))) := by show World.rowIs _ _ _ _ _; rw [hY1]; exact row2_put H6.out _ _
        have J7 : Hid (Y1.rowIs g7 28 2 (r2 (.int .i64 0) (.slice none 0 0))) := by show World.rowIs _ _ _ _ _; rw [hY1]; exact wrow_set (wrow_set H7.out (p := ⟨g6, 0, none⟩) (fun e => e67 e.symm) _) (p := ⟨g6, 1, none⟩) (fun e => e67 e.symm) _
        have JG : Hid (StG wt n f m mi x y er Y1) := by show StG _ _ _ _ _ _ _ _ _; rw [hY1]; exact (HG.out.set H6.out 0 _).set (wrow_keep H6.out 0 _) 1 _
        have JB : Hid (Below W1.heap.size W1 Y1) := by show Below _ _ _; rw [hY1]; exact (hHeld.setCell (p := ⟨g6, 0, none⟩) e6 _).setCell (p := ⟨g6, 1, none⟩) e6 _
        refine take_call (i := 12) rfl (by kernel_rfl) (fun K2 hK => ?_)
        go_simp
        rw [← hY1]
        refine hK.out _ _ JB.out (fun hHeld2 => ?_)
        clear hK hHeld hY1 H6 H7 HG o0 o1 z0 z1 l6
        have hHeld := hHeld2
        clear hHeld2
        obtain ⟨⟨o0, o1⟩, z0, z1⟩ := row2_cells J7.out
        have l7 := J7.out.lt
        obtain ⟨Y2, hY2⟩ : ∃ Y2, Y2 = (Y1.setCell ⟨g7, 0, none⟩ (.int .i64 y.wt)).setCell ⟨g7, 1, none⟩ (.slice y.pa y.n y.k) := ⟨_, rfl⟩
        have JC : Hid (SeC W1 wt n f m mi (.pointer (some ⟨g6, 0, none⟩)) (.pointer (some ⟨g7, 0, none⟩)) er Y2) := by
          refine ⟨g6, g7, x, y, rfl, rfl, ?_, ⟨e6, e7, e67⟩, ?_, ?_, ?_⟩
          · rw [hY2]; exact (hHeld.setCell (p := ⟨g7, 0, none⟩) e7 _).setCell (p := ⟨g7, 1, none⟩) e7 _
          · rw [hY2]; exact wrow_set (wrow_set J6.out (p := ⟨g7, 0, none⟩) e67 _) (p := ⟨g7, 1, none⟩) e67 _
          · rw [hY2]; exact row2_put J7.out _ _
          · rw [hY2]; exact (JG.out.set J7.out 0 _).set (wrow_keep J7.out 0 _) 1 _
        refine take_call (i := 13) rfl (by kernel_rfl) (fun K2 hK => ?_)
        go_simp
        rw [← hY2]
        have hB9 := seC_below JC.out
        refine hK.out _ _ hB9 (fun hHeld2 => ?_)
        clear hK hHeld hY2 hB9 o0 o1 z0 z1 l7 J6 J7 JG JB
        have hHeld := hHeld2
        clear hHeld2
        refine take_call (i := 14) rfl (by kernel_rfl) (fun K2 hK => ?_)
        go_simp
        refine hK.out _ _ hHeld (fun _ => ?_)
        refine wpAnyH_done (by kernel_rfl) ?_ _
        clear hHeld
        go_wp2_with fail
        go_meet
        case rel => exact JC
    · obtain ⟨Z6, hZ6⟩ : ∃ Z6, Z6 = Z.alloc (.cells #[.int .i64 0, .slice none 0 0] 28) := ⟨_, rfl⟩
      have hb : Below Z.heap.size Z Z6 := by rw [hZ6]; exact bel_alloc _ _
      obtain ⟨g6, hg6⟩ : ∃ g6, g6 = Z.heap.size := ⟨_, rfl⟩
      have H6 : Hid (Z6.rowIs g6 28 2 (r2 (.int .i64 0) (.slice none 0 0))) := by show World.rowIs _ _ _ _ _; rw [hZ6, hg6]; exact row2 _ _ _ _
      have Gg6 : Hid (W1.heap.size ≤ g6) := by show _ ≤ _; rw [hg6]; exact hHeld.size
      go_simp
      rw [← hZ6, ← hg6]
      refine hK.out _ _ (hHeld.trans (hb.mono hHeld.size)) (fun hHeld2 => ?_)
      clear hK hHeld
      have hHeld := hHeld2
      clear hHeld2
      clear hb hZ6 hg6
      refine wpAnyH_ready (rs := [5, 11]) (by kernel_rfl) (by simp) (AllReadyH.cons (at_drop (i := 5) rfl) (fun K2 hK => ?_) (AllReadyH.cons (at_drop (i := 11) rfl) (fun K2 hK => ?_) (AllReadyH.nil)))
      · go_simp
        refine (settleB_any wt a n kk f ma m mk mi _ (HI.out.below hHeld) HN.out (HMI.out.below hHeld) HM.out).mono ?_
        rintro e Z7 ⟨hst, hb⟩
        obtain ⟨x, y, er, rfl, hg⟩ := stEnd_form hst
        have HG := Lib.hid hg
        clear hst hg
        replace H6 := Lib.hid (wrow_below H6.out hb)
        go_wp2_with fail
        refine hK.out _ _ (hHeld.trans (hb.mono hHeld.size)) (fun hHeld2 => ?_)
        clear hK hHeld
        have hHeld := hHeld2
        clear hHeld2
        clear hb
        refine take_do (i := 6) (v := (.tuple #[(btV x.wt x.pa x.n x.k), (btV y.wt y.pa y.n y.k), er])) rfl (by kernel_rfl) (by kernel_rfl) (by kernel_rfl) (fun _ _ _ h => h) (by rfl) ?_ (by assumption) ?_
        · intro w hSw
          skip
          go_simp
        simp only [Act.put, List.setIfInBounds_toArray, List.set_cons_zero, List.set_cons_succ]
        refine take_do (i := 7) (v := (btV x.wt x.pa x.n x.k)) rfl (by kernel_rfl) (by kernel_rfl) (by kernel_rfl) (fun _ _ _ h => h) (by rfl) ?_ (by assumption) ?_
        · intro w hSw
          skip
          go_simp
        simp only [Act.put, List.setIfInBounds_toArray, List.set_cons_zero, List.set_cons_succ]
        refine take_do (i := 8) (v := (btV y.wt y.pa y.n y.k)) rfl (by kernel_rfl) (by kernel_rfl) (by kernel_rfl) (fun _ _ _ h => h) (by rfl) ?_ (by assumption) ?_
        · intro w hSw
          skip
          go_simp
        simp only [Act.put, List.setIfInBounds_toArray, List.set_cons_zero, List.set_cons_succ]
        refine take_do (i := 9) (v := er) rfl (by kernel_rfl) (by kernel_rfl) (by kernel_rfl) (fun _ _ _ h => h) (by rfl) ?_ (by assumption) ?_
        · intro w hSw
          skip
          go_simp
        simp only [Act.put, List.setIfInBounds_toArray, List.set_cons_zero, List.set_cons_succ]
        refine take_call (i := 11) rfl (by kernel_rfl) (fun K2 hK => ?_)
        obtain ⟨Z8, hZ8⟩ : ∃ Z8, Z8 = Z7.alloc (.cells #[.int .i64 0, .slice none 0 0] 28) := ⟨_, rfl⟩
        have hb : Below Z7.heap.size Z7 Z8 := by rw [hZ8]; exact bel_alloc _ _
        obtain ⟨g7, hg7⟩ : ∃ g7, g7 = Z7.heap.size := ⟨_, rfl⟩
        have H7 : Hid (Z8.rowIs g7 28 2 (r2 (.int .i64 0) (.slice none 0 0))) := by show World.rowIs _ _ _ _ _; rw [hZ8, hg7]; exact row2 _ _ _ _
        have Gg7 : Hid (W1.heap.size ≤ g7) := by show _ ≤ _; rw [hg7]; exact hHeld.size
        have G67 : Hid (g6 ≠ g7) := by have h9 := H6.out.lt; show g6 ≠ g7; omega
        replace H6 := Lib.hid (wrow_below H6.out hb)
        replace HG := Lib.hid (HG.out.below hb)
        go_simp
        rw [← hZ8, ← hg7]
        refine hK.out _ _ (hHeld.trans (hb.mono hHeld.size)) (fun hHeld2 => ?_)
        clear hK hHeld
        have hHeld := hHeld2
        clear hHeld2
        clear hb hZ8 hg7
        have e67 := G67.out
        have e6 := Gg6.out
        have e7 := Gg7.out
        obtain ⟨⟨o0, o1⟩, z0, z1⟩ := row2_cells H6.out
        have l6 := H6.out.lt
        obtain ⟨Y1, hY1⟩ : ∃ Y1, Y1 = (Z8.setCell ⟨g6, 0, none⟩ (.int .i64 x.wt)).setCell ⟨g6, 1, none⟩ (.slice x.pa x.n x.k) := ⟨_, rfl⟩
        have J6 : Hid (Y1.rowIs g6 28 2 (r2 (.int .i64 x.wt) (.slice x.pa x.n x.k))) := by show World.rowIs _ _ _ _ _; rw [hY1]; exact row2_put H6.out _ _
        have J7 : Hid (Y1.rowIs g7 28 2 (r2 (.int .i64 0) (.slice none 0 0))) := by show World.rowIs _ _ _ _ _; rw [hY1]; exact wrow_set (wrow_set H7.out (p := ⟨g6, 0, none⟩) (fun e => e67 e.symm) _) (p := ⟨g6, 1, none⟩) (fun e => e67 e.symm) _
        have JG : Hid (StG wt n f m mi x y er Y1) := by show StG _ _ _ _ _ _ _ _ _; rw [hY1]; exact (HG.out.set H6.out 0 _).set (wrow_keep H6.out 0 _) 1 _
        have JB : Hid (Below W1.heap.size W1 Y1) := by show Below _ _ _; rw [hY1]; exact (hHeld.setCell (p := ⟨g6, 0, none⟩) e6 _).setCell (p := ⟨g6, 1, none⟩) e6 _
        refine take_call (i := 12) rfl (by kernel_rfl) (fun K2 hK => ?_)
        go_simp
        rw [← hY1]
        refine hK.out _ _ JB.out (fun hHeld2 => ?_)
        clear hK hHeld hY1 H6 H7 HG o0 o1 z0 z1 l6
        have hHeld := hHeld2
        clear hHeld2
        obtain ⟨⟨o0, o1⟩, z0, z1⟩ := row2_cells J7.out
        have l7 := J7.out.lt
        obtain ⟨Y2, hY2⟩ : ∃ Y2, Y2 = (Y1.setCell ⟨g7, 0, none⟩ (.int .i64 y.wt)).setCell ⟨g7, 1, none⟩ (.slice y.pa y.n y.k) := ⟨_, rfl⟩
        have JC : Hid (SeC W1 wt n f m mi (.pointer (some ⟨g6, 0, none⟩)) (.pointer (some ⟨g7, 0, none⟩)) er Y2) := by
          refine ⟨g6, g7, x, y, rfl, rfl, ?_, ⟨e6, e7, e67⟩, ?_, ?_, ?_⟩
          · rw [hY2]; exact (hHeld.setCell (p := ⟨g7, 0, none⟩) e7 _).setCell (p := ⟨g7, 1, none⟩) e7 _
          · rw [hY2]; exact wrow_set (wrow_set J6.out (p := ⟨g7, 0, none⟩) e67 _) (p := ⟨g7, 1, none⟩) e67 _
          · rw [hY2]; exact row2_put J7.out _ _
          · rw [hY2]; exact (JG.out.set J7.out 0 _).set (wrow_keep J7.out 0 _) 1 _
        refine take_call (i := 13) rfl (by kernel_rfl) (fun K2 hK => ?_)
        go_simp
        rw [← hY2]
        have hB9 := seC_below JC.out
        refine hK.out _ _ hB9 (fun hHeld2 => ?_)
        clear hK hHeld hY2 hB9 o0 o1 z0 z1 l7 J6 J7 JG JB
        have hHeld := hHeld2
        clear hHeld2
        refine take_call (i := 14) rfl (by kernel_rfl) (fun K2 hK => ?_)
        go_simp
        refine hK.out _ _ hHeld (fun _ => ?_)
        refine wpAnyH_done (by kernel_rfl) ?_ _
        clear hHeld
        go_wp2_with fail
        go_meet
        case rel => exact JC
      · obtain ⟨Z9, hZ9⟩ : ∃ Z9, Z9 = Z6.alloc (.cells #[.int .i64 0, .slice none 0 0] 28) := ⟨_, rfl⟩
        have hb : Below Z6.heap.size Z6 Z9 := by rw [hZ9]; exact bel_alloc _ _
        obtain ⟨g7, hg7⟩ : ∃ g7, g7 = Z6.heap.size := ⟨_, rfl⟩
        have H7 : Hid (Z9.rowIs g7 28 2 (r2 (.int .i64 0) (.slice none 0 0))) := by show World.rowIs _ _ _ _ _; rw [hZ9, hg7]; exact row2 _ _ _ _
        have Gg7 : Hid (W1.heap.size ≤ g7) := by show _ ≤ _; rw [hg7]; exact hHeld.size
        have G67 : Hid (g6 ≠ g7) := by have h9 := H6.out.lt; show g6 ≠ g7; omega
        replace H6 := Lib.hid (wrow_below H6.out hb)
        go_simp
        rw [← hZ9, ← hg7]
        refine hK.out _ _ (hHeld.trans (hb.mono hHeld.size)) (fun hHeld2 => ?_)
        clear hK hHeld
        have hHeld := hHeld2
        clear hHeld2
        clear hb hZ9 hg7
        refine take_call (i := 5) rfl (by kernel_rfl) (fun K2 hK => ?_)
        go_simp
        refine (settleB_any wt a n kk f ma m mk mi _ (HI.out.below hHeld) HN.out (HMI.out.below hHeld) HM.out).mono ?_
        rintro e Z10 ⟨hst, hb⟩
        obtain ⟨x, y, er, rfl, hg⟩ := stEnd_form hst
        have HG := Lib.hid hg
        clear hst hg
        replace H6 := Lib.hid (wrow_below H6.out hb)
        replace H7 := Lib.hid (wrow_below H7.out hb)
        go_wp2_with fail
        refine hK.out _ _ (hHeld.trans (hb.mono hHeld.size)) (fun hHeld2 => ?_)
        clear hK hHeld
        have hHeld := hHeld2
        clear hHeld2
        clear hb
        refine take_do (i := 6) (v := (.tuple #[(btV x.wt x.pa x.n x.k), (btV y.wt y.pa y.n y.k), er])) rfl (by kernel_rfl) (by kernel_rfl) (by kernel_rfl) (fun _ _ _ h => h) (by rfl) ?_ (by assumption) ?_
        · intro w hSw
          skip
          go_simp
        simp only [Act.put, List.setIfInBounds_toArray, List.set_cons_zero, List.set_cons_succ]
        refine take_do (i := 7) (v := (btV x.wt x.pa x.n x.k)) rfl (by kernel_rfl) (by kernel_rfl) (by kernel_rfl) (fun _ _ _ h => h) (by rfl) ?_ (by assumption) ?_
        · intro w hSw
          skip
          go_simp
        simp only [Act.put, List.setIfInBounds_toArray, List.set_cons_zero, List.set_cons_succ]
        refine take_do (i := 8) (v := (btV y.wt y.pa y.n y.k)) rfl (by kernel_rfl) (by kernel_rfl) (by kernel_rfl) (fun _ _ _ h => h) (by rfl) ?_ (by assumption) ?_
        · intro w hSw
          skip
          go_simp
        simp only [Act.put, List.setIfInBounds_toArray, List.set_cons_zero, List.set_cons_succ]
        refine take_do (i := 9) (v := er) rfl (by kernel_rfl) (by kernel_rfl) (by kernel_rfl) (fun _ _ _ h => h) (by rfl) ?_ (by assumption) ?_
        · intro w hSw
          skip
          go_simp
        simp only [Act.put, List.setIfInBounds_toArray, List.set_cons_zero, List.set_cons_succ]
        have e67 := G67.out
        have e6 := Gg6.out
        have e7 := Gg7.out
        obtain ⟨⟨o0, o1⟩, z0, z1⟩ := row2_cells H6.out
        have l6 := H6.out.lt
        obtain ⟨Y1, hY1⟩ : ∃ Y1, Y1 = (Z10.setCell ⟨g6, 0, none⟩ (.int .i64 x.wt)).setCell ⟨g6, 1, none⟩ (.slice x.pa x.n x.k) := ⟨_, rfl⟩
        have J6 : Hid (Y1.rowIs g6 28 2 (r2 (.int .i64 x.wt) (.slice x.pa x.n x.k))) := by show World.rowIs _ _ _ _ _; rw [hY1]; exact row2_put H6.out _ _
        have J7 : Hid (Y1.rowIs g7 28 2 (r2 (.int .i64 0) (.slice none 0 0))) := by show World.rowIs _ _ _ _ _; rw [hY1]; exact wrow_set (wrow_set H7.out (p := ⟨g6, 0, none⟩) (fun e => e67 e.symm) _) (p := ⟨g6, 1, none⟩) (fun e => e67 e.symm) _
        have JG : Hid (StG wt n f m mi x y er Y1) := by show StG _ _ _ _ _ _ _ _ _; rw [hY1]; exact (HG.out.set H6.out 0 _).set (wrow_keep H6.out 0 _) 1 _
        have JB : Hid (Below W1.heap.size W1 Y1) := by show Below _ _ _; rw [hY1]; exact (hHeld.setCell (p := ⟨g6, 0, none⟩) e6 _).setCell (p := ⟨g6, 1, none⟩) e6 _
        refine take_call (i := 12) rfl (by kernel_rfl) (fun K2 hK => ?_)
        go_simp
        rw [← hY1]
        refine hK.out _ _ JB.out (fun hHeld2 => ?_)
        clear hK hHeld hY1 H6 H7 HG o0 o1 z0 z1 l6
        have hHeld := hHeld2
        clear hHeld2
        obtain ⟨⟨o0, o1⟩, z0, z1⟩ := row2_cells J7.out
        have l7 := J7.out.lt
        obtain ⟨Y2, hY2⟩ : ∃ Y2, Y2 = (Y1.setCell ⟨g7, 0, none⟩ (.int .i64 y.wt)).setCell ⟨g7, 1, none⟩ (.slice y.pa y.n y.k) := ⟨_, rfl⟩
        have JC : Hid (SeC W1 wt n f m mi (.pointer (some ⟨g6, 0, none⟩)) (.pointer (some ⟨g7, 0, none⟩)) er Y2) := by
          refine ⟨g6, g7, x, y, rfl, rfl, ?_, ⟨e6, e7, e67⟩, ?_, ?_, ?_⟩
          · rw [hY2]; exact (hHeld.setCell (p := ⟨g7, 0, none⟩) e7 _).setCell (p := ⟨g7, 1, none⟩) e7 _
          · rw [hY2]; exact wrow_set (wrow_set J6.out (p := ⟨g7, 0, none⟩) e67 _) (p := ⟨g7, 1, none⟩) e67 _
          · rw [hY2]; exact row2_put J7.out _ _
          · rw [hY2]; exact (JG.out.set J7.out 0 _).set (wrow_keep J7.out 0 _) 1 _
        refine take_call (i := 13) rfl (by kernel_rfl) (fun K2 hK => ?_)
        go_simp
        rw [← hY2]
        have hB9 := seC_below JC.out
        refine hK.out _ _ hB9 (fun hHeld2 => ?_)
        clear hK hHeld hY2 hB9 o0 o1 z0 z1 l7 J6 J7 JG JB
        have hHeld := hHeld2
        clear hHeld2
        refine take_call (i := 14) rfl (by kernel_rfl) (fun K2 hK => ?_)
        go_simp
        refine hK.out _ _ hHeld (fun _ => ?_)
        refine wpAnyH_done (by kernel_rfl) ?_ _
        clear hHeld
        go_wp2_with fail
        go_meet
        case rel => exact JC
    · obtain ⟨Z11, hZ11⟩ : ∃ Z11, Z11 = Z.alloc (.cells #[.int .i64 0, .slice none 0 0] 28) := ⟨_, rfl⟩
      have hb : Below Z.heap.size Z Z11 := by rw [hZ11]; exact bel_alloc _ _
      obtain ⟨g7, hg7⟩ : ∃ g7, g7 = Z.heap.size := ⟨_, rfl⟩
      have H7 : Hid (Z11.rowIs g7 28 2 (r2 (.int .i64 0) (.slice none 0 0))) := by show World.rowIs _ _ _ _ _; rw [hZ11, hg7]; exact row2 _ _ _ _
      have Gg7 : Hid (W1.heap.size ≤ g7) := by show _ ≤ _; rw [hg7]; exact hHeld.size
      go_simp
      rw [← hZ11, ← hg7]
      refine hK.out _ _ (hHeld.trans (hb.mono hHeld.size)) (fun hHeld2 => ?_)
      clear hK hHeld
      have hHeld := hHeld2
      clear hHeld2
      clear hb hZ11 hg7
      refine wpAnyH_ready (rs := [5, 10]) (by kernel_rfl) (by simp) (AllReadyH.cons (at_drop (i := 5) rfl) (fun K2 hK => ?_) (AllReadyH.cons (at_drop (i := 10) rfl) (fun K2 hK => ?_) (AllReadyH.nil)))
      · go_simp
        refine (settleB_any wt a n kk f ma m mk mi _ (HI.out.below hHeld) HN.out (HMI.out.below hHeld) HM.out).mono ?_
        rintro e Z12 ⟨hst, hb⟩
        obtain ⟨x, y, er, rfl, hg⟩ := stEnd_form hst
        have HG := Lib.hid hg
        clear hst hg
        replace H7 := Lib.hid (wrow_below H7.out hb)
        go_wp2_with fail
        refine hK.out _ _ (hHeld.trans (hb.mono hHeld.size)) (fun hHeld2 => ?_)
        clear hK hHeld
        have hHeld := hHeld2
        clear hHeld2
        clear hb
        refine take_do (i := 6) (v := (.tuple #[(btV x.wt x.pa x.n x.k), (btV y.wt y.pa y.n y.k), er])) rfl (by kernel_rfl) (by kernel_rfl) (by kernel_rfl) (fun _ _ _ h => h) (by rfl) ?_ (by assumption) ?_
        · intro w hSw
          skip
          go_simp
        simp only [Act.put, List.setIfInBounds_toArray, List.set_cons_zero, List.set_cons_succ]
        refine take_do (i := 7) (v := (btV x.wt x.pa x.n x.k)) rfl (by kernel_rfl) (by kernel_rfl) (by kernel_rfl) (fun _ _ _ h => h) (by rfl) ?_ (by assumption) ?_
        · intro w hSw
          skip
          go_simp
        simp only [Act.put, List.setIfInBounds_toArray, List.set_cons_zero, List.set_cons_succ]
        refine take_do (i := 8) (v := (btV y.wt y.pa y.n y.k)) rfl (by kernel_rfl) (by kernel_rfl) (by kernel_rfl) (fun _ _ _ h => h) (by rfl) ?_ (by assumption) ?_
        · intro w hSw
          skip
          go_simp
        simp only [Act.put, List.setIfInBounds_toArray, List.set_cons_zero, List.set_cons_succ]
        refine take_do (i := 9) (v := er) rfl (by kernel_rfl) (by kernel_rfl) (by kernel_rfl) (fun _ _ _ h => h) (by rfl) ?_ (by assumption) ?_
        · intro w hSw
          skip
          go_simp
        simp only [Act.put, List.setIfInBounds_toArray, List.set_cons_zero, List.set_cons_succ]
        refine take_call (i := 10) rfl (by kernel_rfl) (fun K2 hK => ?_)
        obtain ⟨Z13, hZ13⟩ : ∃ Z13, Z13 = Z12.alloc (.cells #[.int .i64 0, .slice none 0 0] 28) := ⟨_, rfl⟩
        have hb : Below Z12.heap.size Z12 Z13 := by rw [hZ13]; exact bel_alloc _ _
        obtain ⟨g6, hg6⟩ : ∃ g6, g6 = Z12.heap.size := ⟨_, rfl⟩
        have H6 : Hid (Z13.rowIs g6 28 2 (r2 (.int .i64 0) (.slice none 0 0))) := by show World.rowIs _ _ _ _ _; rw [hZ13, hg6]; exact row2 _ _ _ _
        have Gg6 : Hid (W1.heap.size ≤ g6) := by show _ ≤ _; rw [hg6]; exact hHeld.size
        have G67 : Hid (g6 ≠ g7) := by have h9 := H7.out.lt; show g6 ≠ g7; omega
        replace H7 := Lib.hid (wrow_below H7.out hb)
        replace HG := Lib.hid (HG.out.below hb)
        go_simp
        rw [← hZ13, ← hg6]
        refine hK.out _ _ (hHeld.trans (hb.mono hHeld.size)) (fun hHeld2 => ?_)
        clear hK hHeld
        have hHeld := hHeld2
        clear hHeld2
        clear hb hZ13 hg6
        have e67 := G67.out
        have e6 := Gg6.out
        have e7 := Gg7.out
        obtain ⟨⟨o0, o1⟩, z0, z1⟩ := row2_cells H6.out
        have l6 := H6.out.lt
        obtain ⟨Y1, hY1⟩ : ∃ Y1, Y1 = (Z13.setCell ⟨g6, 0, none⟩ (.int .i64 x.wt)).setCell ⟨g6, 1, none⟩ (.slice x.pa x.n x.k) := ⟨_, rfl⟩
        have J6 : Hid (Y1.rowIs g6 28 2 (r2 (.int .i64 x.wt) (.slice x.pa x.n x.k))) := by show World.rowIs _ _ _ _ _; rw [hY1]; exact row2_put H6.out _ _
        have J7 : Hid (Y1.rowIs g7 28 2 (r2 (.int .i64 0) (.slice none 0 0))) := by show World.rowIs _ _ _ _ _; rw [hY1]; exact wrow_set (wrow_set H7.out (p := ⟨g6, 0, none⟩) (fun e => e67 e.symm) _) (p := ⟨g6, 1, none⟩) (fun e => e67 e.symm) _
        have JG : Hid (StG wt n f m mi x y er Y1) := by show StG _ _ _ _ _ _ _ _ _; rw [hY1]; exact (HG.out.set H6.out 0 _).set (wrow_keep H6.out 0 _) 1 _
        have JB : Hid (Below W1.heap.size W1 Y1) := by show Below _ _ _; rw [hY1]; exact (hHeld.setCell (p := ⟨g6, 0, none⟩) e6 _).setCell (p := ⟨g6, 1, none⟩) e6 _
        refine take_call (i := 12) rfl (by kernel_rfl) (fun K2 hK => ?_)
        go_simp
        rw [← hY1]
        refine hK.out _ _ JB.out (fun hHeld2 => ?_)
        clear hK hHeld hY1 H6 H7 HG o0 o1 z0 z1 l6
        have hHeld := hHeld2
        clear hHeld2
        obtain ⟨⟨o0, o1⟩, z0, z1⟩ := row2_cells J7.out
        have l7 := J7.out.lt
        obtain ⟨Y2, hY2⟩ : ∃ Y2, Y2 = (Y1.setCell ⟨g7, 0, none⟩ (.int .i64 y.wt)).setCell ⟨g7, 1, none⟩ (.slice y.pa y.n y.k) := ⟨_, rfl⟩
        have JC : Hid (SeC W1 wt n f m mi (.pointer (some ⟨g6, 0, none⟩)) (.pointer (some ⟨g7, 0, none⟩)) er Y2) := by
          refine ⟨g6, g7, x, y, rfl, rfl, ?_, ⟨e6, e7, e67⟩, ?_, ?_, ?_⟩
          · rw [hY2]; exact (hHeld.setCell (p := ⟨g7, 0, none⟩) e7 _).setCell (p := ⟨g7, 1, none⟩) e7 _
          · rw [hY2]; exact wrow_set (wrow_set J6.out (p := ⟨g7, 0, none⟩) e67 _) (p := ⟨g7, 1, none⟩) e67 _
          · rw [hY2]; exact row2_put J7.out _ _
          · rw [hY2]; exact (JG.out.set J7.out 0 _).set (wrow_keep J7.out 0 _) 1 _
        refine take_call (i := 13) rfl (by kernel_rfl) (fun K2 hK => ?_)
        go_simp
        rw [← hY2]
        have hB9 := seC_below JC.out
        refine hK.out _ _ hB9 (fun hHeld2 => ?_)
        clear hK hHeld hY2 hB9 o0 o1 z0 z1 l7 J6 J7 JG JB
        have hHeld := hHeld2
        clear hHeld2
        refine take_call (i := 14) rfl (by kernel_rfl) (fun K2 hK => ?_)
        go_simp
        refine hK.out _ _ hHeld (fun _ => ?_)
        refine wpAnyH_done (by kernel_rfl) ?_ _
        clear hHeld
        go_wp2_with fail
        go_meet
        case rel => exact JC
      · obtain ⟨Z14, hZ14⟩ : ∃ Z14, Z14 = Z11.alloc (.cells #[.int .i64 0, .slice none 0 0] 28) := ⟨_, rfl⟩
        have hb : Below Z11.heap.size Z11 Z14 := by rw [hZ14]; exact bel_alloc _ _
        obtain ⟨g6, hg6⟩ : ∃ g6, g6 = Z11.heap.size := ⟨_, rfl⟩
        have H6 : Hid (Z14.rowIs g6 28 2 (r2 (.int .i64 0) (.slice none 0 0))) := by show World.rowIs _ _ _ _ _; rw [hZ14, hg6]; exact row2 _ _ _ _
        have Gg6 : Hid (W1.heap.size ≤ g6) := by show _ ≤ _; rw [hg6]; exact hHeld.size
        have G67 : Hid (g6 ≠ g7) := by have h9 := H7.out.lt; show g6 ≠ g7; omega
        replace H7 := Lib.hid (wrow_below H7.out hb)
        go_simp
        rw [← hZ14, ← hg6]
        refine hK.out _ _ (hHeld.trans (hb.mono hHeld.size)) (fun hHeld2 => ?_)
        clear hK hHeld
        have hHeld := hHeld2
        clear hHeld2
        clear hb hZ14 hg6
        refine take_call (i := 5) rfl (by kernel_rfl) (fun K2 hK => ?_)
        go_simp
        refine (settleB_any wt a n kk f ma m mk mi _ (HI.out.below hHeld) HN.out (HMI.out.below hHeld) HM.out).mono ?_
        rintro e Z15 ⟨hst, hb⟩
        obtain ⟨x, y, er, rfl, hg⟩ := stEnd_form hst
        have HG := Lib.hid hg
        clear hst hg
        replace H6 := Lib.hid (wrow_below H6.out hb)
        replace H7 := Lib.hid (wrow_below H7.out hb)
        go_wp2_with fail
        refine hK.out _ _ (hHeld.trans (hb.mono hHeld.size)) (fun hHeld2 => ?_)
        clear hK hHeld
        have hHeld := hHeld2
        clear hHeld2
        clear hb
        refine take_do (i := 6) (v := (.tuple #[(btV x.wt x.pa x.n x.k), (btV y.wt y.pa y.n y.k), er])) rfl (by kernel_rfl) (by kernel_rfl) (by kernel_rfl) (fun _ _ _ h => h) (by rfl) ?_ (by assumption) ?_
        · intro w hSw
          skip
          go_simp
        simp only [Act.put, List.setIfInBounds_toArray, List.set_cons_zero, List.set_cons_succ]
        refine take_do (i := 7) (v := (btV x.wt x.pa x.n x.k)) rfl (by kernel_rfl) (by kernel_rfl) (by kernel_rfl) (fun _ _ _ h => h) (by rfl) ?_ (by assumption) ?_
        · intro w hSw
          skip
          go_simp
        simp only [Act.put, List.setIfInBounds_toArray, List.set_cons_zero, List.set_cons_succ]
        refine take_do (i := 8) (v := (btV y.wt y.pa y.n y.k)) rfl (by kernel_rfl) (by kernel_rfl) (by kernel_rfl) (fun _ _ _ h => h) (by rfl) ?_ (by assumption) ?_
        · intro w hSw
          skip
          go_simp
        simp only [Act.put, List.setIfInBounds_toArray, List.set_cons_zero, List.set_cons_succ]
        refine take_do (i := 9) (v := er) rfl (by kernel_rfl) (by kernel_rfl) (by kernel_rfl) (fun _ _ _ h => h) (by rfl) ?_ (by assumption) ?_
        · intro w hSw
          skip
          go_simp
        simp only [Act.put, List.setIfInBounds_toArray, List.set_cons_zero, List.set_cons_succ]
        have e67 := G67.out
        have e6 := Gg6.out
        have e7 := Gg7.out
        obtain ⟨⟨o0, o1⟩, z0, z1⟩ := row2_cells H6.out
        have l6 := H6.out.lt
        obtain ⟨Y1, hY1⟩ : ∃ Y1, Y1 = (Z15.setCell ⟨g6, 0, none⟩ (.int .i64 x.wt)).setCell ⟨g6, 1, none⟩ (.slice x.pa x.n x.k) := ⟨_, rfl⟩
        have J6 : Hid (Y1.rowIs g6 28 2 (r2 (.int .i64 x.wt) (.slice x.pa x.n x.k))) := by show World.rowIs _ _ _ _ _; rw [hY1]; exact row2_put H6.out _ _
        have J7 : Hid (Y1.rowIs g7 28 2 (r2 (.int .i64 0) (.slice none 0 0))) := by show World.rowIs _ _ _ _ _; rw [hY1]; exact wrow_set (wrow_set H7.out (p := ⟨g6, 0, none⟩) (fun e => e67 e.symm) _) (p := ⟨g6, 1, none⟩) (fun e => e67 e.symm) _
        have JG : Hid (StG wt n f m mi x y er Y1) := by show StG _ _ _ _ _ _ _ _ _; rw [hY1]; exact (HG.out.set H6.out 0 _).set (wrow_keep H6.out 0 _) 1 _
        have JB : Hid (Below W1.heap.size W1 Y1) := by show Below _ _ _; rw [hY1]; exact (hHeld.setCell (p := ⟨g6, 0, none⟩) e6 _).setCell (p := ⟨g6, 1, none⟩) e6 _
        refine take_call (i := 12) rfl (by kernel_rfl) (fun K2 hK => ?_)
        go_simp
        rw [← hY1]
        refine hK.out _ _ JB.out (fun hHeld2 => ?_)
        clear hK hHeld hY1 H6 H7 HG o0 o1 z0 z1 l6
        have hHeld := hHeld2
        clear hHeld2
        obtain ⟨⟨o0, o1⟩, z0, z1⟩ := row2_cells J7.out
        have l7 := J7.out.lt
        obtain ⟨Y2, hY2⟩ : ∃ Y2, Y2 = (Y1.setCell ⟨g7, 0, none⟩ (.int .i64 y.wt)).setCell ⟨g7, 1, none⟩ (.slice y.pa y.n y.k) := ⟨_, rfl⟩
        have JC : Hid (SeC W1 wt n f m mi (.pointer (some ⟨g6, 0, none⟩)) (.pointer (some ⟨g7, 0, none⟩)) er Y2) := by
          refine ⟨g6, g7, x, y, rfl, rfl, ?_, ⟨e6, e7, e67⟩, ?_, ?_, ?_⟩
          · rw [hY2]; exact (hHeld.setCell (p := ⟨g7, 0, none⟩) e7 _).setCell (p := ⟨g7, 1, none⟩) e7 _
          · rw [hY2]; exact wrow_set (wrow_set J6.out (p := ⟨g7, 0, none⟩) e67 _) (p := ⟨g7, 1, none⟩) e67 _
          · rw [hY2]; exact row2_put J7.out _ _
          · rw [hY2]; exact (JG.out.set J7.out 0 _).set (wrow_keep J7.out 0 _) 1 _
        refine take_call (i := 13) rfl (by kernel_rfl) (fun K2 hK => ?_)
        go_simp
        rw [← hY2]
        have hB9 := seC_below JC.out
        refine hK.out _ _ hB9 (fun hHeld2 => ?_)
        clear hK hHeld hY2 hB9 o0 o1 z0 z1 l7 J6 J7 JG JB
        have hHeld := hHeld2
        clear hHeld2
        refine take_call (i := 14) rfl (by kernel_rfl) (fun K2 hK => ?_)
        go_simp
        refine hK.out _ _ hHeld (fun _ => ?_)
        refine wpAnyH_done (by kernel_rfl) ?_ _
        clear hHeld
        go_wp2_with fail
        go_meet
        case rel => exact JC
  case rest =>
    obtain ⟨g6, g7, x, y, rfl, rfl, hV, hgg, r6, r7, hG⟩ := hcut.out
    clear hcut
    replace HP := Lib.hid (HP.out.below hV)
    have HRO2 := Lib.hid (wrow_below HRO.out hV)
    have HBV : Hid (Below w.heap.size w wc) := HB1.out.trans (hV.mono HB1.out.size)
    have hw1 : w.heap.size + 1 < W1.heap.size := HRO.out.lt
    have n1 := HCB.out _ (Nat.le_succ w.heap.size)
    have n7 := HCB.out g7 (by omega)
    have n6 := HCB.out g6 (by omega)
    have hpl : pb < w.heap.size := by have := HP.out.low; have := HSZ.out; omega
    rcases hG with ⟨hok, rfl, hx, hy, hpx, hpy⟩ | ⟨hno, her⟩
    · have HOK := Lib.hid hok
      have HXX := Lib.hid hx
      have HPX0 := Lib.hid hpx
      have HIP := Lib.hid hpy
      have HXB : Hid (y.b = D wn) := hy.trans (HD.out hok).symm
      have HX : Hid (wc.cell? ⟨g7, 0, none⟩ = some (.int .i64 y.wt) ∧ wc.cell? ⟨g7, 1, none⟩ = some (.slice y.pa y.n y.k)) := (row2_cells r7).1
      have HR6 := Lib.hid r6
      have HBO : Hid (wv.ownBlock ≠ some g7) := n7.2
      have HN1 := Lib.hid n1
      have HN6 := Lib.hid n6
      have HGG := Lib.hid hgg
      have HPL := Lib.hid hpl
      have HRL := Lib.hid hw1
      have HPW := HP
      clear hok hx hy hpx hpy r6 r7 n1 n6 n7 hgg hpl hw1 hV
      go_wp2_with fail
      have hxc := HX.out
      refine region_L (fun V => V.rowIs pb 66 8 (rowL (plL (.slice ma m mk) fl cv wv k)) ∧ V.cell? ⟨g7, 0, none⟩ = some (.int .i64 y.wt) ∧ V.cell? ⟨g7, 1, none⟩ = some (.slice y.pa y.n y.k)) 10 (by kernel_rfl) ⟨HP.out.row.of_block rfl, hxc.1, hxc.2⟩ (fun hHeld => ?_)
      obtain ⟨Z, hZ⟩ : ∃ Z, Z = wc.drew := ⟨_, rfl⟩
      replace HP : Hid (PlS B pb (.slice ma m mk) fl cv cn C wv wn D k Z) := by show PlS _ _ _ _ _ _ _ _ _ _ _ _; rw [hZ]; exact HP.out.below (Below.refl _ _).drew
      have HZB : Hid (Below wc.heap.size wc Z) := by show Below _ _ _; rw [hZ]; exact (Below.refl _ _).drew
      rw [← hZ] at hHeld ⊢
      clear hZ hxc HX
      refine takeL_do (i := 0) (v := (.pointer (some ⟨pb, 0, none⟩))) rfl (by kernel_rfl) (by kernel_rfl) (by kernel_rfl) (by kernel_rfl) (fun _ _ _ h => h) (by rfl) ?_ (by assumption) ?_
      · intro w hSw
        skip
        go_simp
      simp only [Act.put, List.setIfInBounds_toArray, List.set_cons_zero, List.set_cons_succ]
      refine takeL_do (i := 1) (v := (.pointer (some ⟨pb, 0, none⟩))) rfl (by kernel_rfl) (by kernel_rfl) (by kernel_rfl) (by kernel_rfl) (fun _ _ _ h => h) (by rfl) ?_ (by assumption) ?_
      · intro w hSw
        skip
        go_simp
      simp only [Act.put, List.setIfInBounds_toArray, List.set_cons_zero, List.set_cons_succ]
      refine takeL_do (i := 2) (v := (.pointer (some ⟨pb, 0, none⟩))) rfl (by kernel_rfl) (by kernel_rfl) (by kernel_rfl) (by kernel_rfl) (fun _ _ _ h => h) (by rfl) ?_ (by assumption) ?_
      · intro w hSw
        skip
        go_simp
      simp only [Act.put, List.setIfInBounds_toArray, List.set_cons_zero, List.set_cons_succ]
      refine takeL_do (i := 3) (v := (.pointer (some ⟨pb, 6, none⟩))) rfl (by kernel_rfl) (by kernel_rfl) (by kernel_rfl) (by kernel_rfl) (fun _ _ _ h => h) (by rfl) ?_ (by assumption) ?_
      · intro w hSw
        skip
        go_simp
      simp only [Act.put, List.setIfInBounds_toArray, List.set_cons_zero, List.set_cons_succ]
      refine takeL_do (i := 4) (v := wv) rfl (by kernel_rfl) (by kernel_rfl) (by kernel_rfl) (by kernel_rfl) (fun _ _ _ h => h) (by rfl) ?_ (by assumption) ?_
      · intro w hSw
        have x0 : w.cell? ⟨pb, 6, none⟩ = some wv := hSw.1.cell (i := 6) (by omega)
        go_simp
      simp only [Act.put, List.setIfInBounds_toArray, List.set_cons_zero, List.set_cons_succ]
      refine takeL_do (i := 5) (v := (btV y.wt y.pa y.n y.k)) rfl (by kernel_rfl) (by kernel_rfl) (by kernel_rfl) (by kernel_rfl) (fun _ _ _ h => h) (by rfl) ?_ (by assumption) ?_
      · intro w hSw
        obtain ⟨_, x0, x1⟩ := hSw
        go_simp
      simp only [Act.put, List.setIfInBounds_toArray, List.set_cons_zero, List.set_cons_succ]
      refine takeL_call (i := 6) rfl (by kernel_rfl) (fun K2 hK => ?_)
      obtain ⟨Z1, hZ1⟩ : ∃ Z1, Z1 = Z.alloc (.cells #[.int .i64 y.wt, .slice y.pa y.n y.k] 28) := ⟨_, rfl⟩
      have hb1 : Below Z.heap.size Z Z1 := by rw [hZ1]; exact bel_alloc _ _
      obtain ⟨gs, hgs⟩ : ∃ gs, gs = Z.heap.size := ⟨_, rfl⟩
      have HL : Hid (Z1.rowIs gs 28 2 (r2 (.int .i64 y.wt) (.slice y.pa y.n y.k))) := by show World.rowIs _ _ _ _ _; rw [hZ1, hgs]; exact row2 _ _ _ _
      replace HP := Lib.hid (HP.out.below hb1)
      replace HZB : Hid (Below wc.heap.size wc Z1) := HZB.out.trans (hb1.mono HZB.out.size)
      go_simp
      rw [← hZ1, ← hgs]
      have hH1 := hHeld.2.1
      have hH2 := hHeld.2.2
      refine hK.out _ _ ⟨HP.out.row, (hb1.cell (World.block_lt_of_cell? _ _ hH1)).trans hH1, (hb1.cell (World.block_lt_of_cell? _ _ hH2)).trans hH2⟩ (fun hHeld2 => ?_)
      clear hK hHeld hb1 hZ1 hgs hH1 hH2
      have hHeld := hHeld2
      clear hHeld2
      refine takeL_call (i := 7) rfl (by kernel_rfl) (fun K2 hK => ?_)
      obtain ⟨cs, hown, hcs⟩ := HP.out.wl
      refine ap_at rfl (.tmp 29) (.tmp 31) 35 rfl B 28 i0 (.agg #[.int .i64 0, .slice none 0 0]) 2 32 Tryd.underlying35 hi0 hz0 hz1 hz2 rfl (by decide) wv wn _ rfl hown ⟨gs, 0, none⟩ 1 1 [.int .i64 y.wt, .slice y.pa y.n y.k] rfl rfl ?_ ?_ (by unfold maxLen; omega) (by omega) HP.out.sz ?_
      · obtain ⟨⟨c0, c1⟩, _⟩ := row2_cells HL.out
        intro j u hj
        match j, hj with
        | 0, hj => simp at hj; subst hj; simpa [Addr.add] using c0
        | 1, hj => simp at hj; subst hj; simpa [Addr.add] using c1
      · intro u hu
        simp at hu
        rcases hu with rfl | rfl <;> rfl
      intro v' Z2 hown2 hgrow hwhere
      obtain ⟨hrow2, hps, hfr, hgw⟩ := HP.out.appW hgrow hwhere (PlL.push hcs HXB.out (by obtain ⟨g, e, h2⟩ := HIP.out; exact ⟨g, e, h2.block (HZB.out.block _ h2.lt)⟩) hown hgrow hown2)
      obtain ⟨WZ, hWZ⟩ : ∃ WZ, WZ = Z2.setCell ⟨pb, 6, none⟩ v' := ⟨_, rfl⟩
      have HPX : Hid (PlS B pb (.slice ma m mk) fl cv cn C v' (wn + 1) D k WZ) := by show PlS _ _ _ _ _ _ _ _ _ _ _ _; rw [hWZ]; exact hps
      have HFX : Hid (Fr pb cv wv wc WZ) := by show Fr _ _ _ _ _; rw [hWZ]; exact (Fr.of_below HZB.out).trans hfr (Gw.refl _ _) (Gw.refl _ _)
      have HGX : Hid (Gw wv v' wc.heap.size) := (Gw.refl _ _).trans hgw HZB.out.size
      have hK1 : Z2.cell? ⟨pb, 6, none⟩ = some wv := hrow2.cell (i := 6) (by omega)
      have hK2 := hrow2.frozen 6
      have hK3 := hrow2.lt
      have HH1 := Lib.hid hrow2
      have HWZ := Lib.hid hWZ
      obtain ⟨a9, k9, rfl⟩ := PlL.shape (PlL.push hcs HXB.out (by obtain ⟨g, e, h2⟩ := HIP.out; exact ⟨g, e, h2.block (HZB.out.block _ h2.lt)⟩) hown hgrow hown2)
      refine hK.out _ _ ⟨HH1.out, ?_, ?_⟩ (fun hHeld2 => ?_)
      · exact (World.cell?_of_block (a := ⟨g7, 0, none⟩) (hgrow.block _ (World.block_lt_of_cell? _ _ hHeld.2.1) (fun e => HBO.out e.symm))).trans hHeld.2.1
      · exact (World.cell?_of_block (a := ⟨g7, 0 + 1, none⟩) (hgrow.block _ (World.block_lt_of_cell? _ _ hHeld.2.2) (fun e => HBO.out e.symm))).trans hHeld.2.2
      clear hK hHeld hown hown2 hcs hgrow hwhere hrow2 hps hfr hgw HL HZB HP HH1 hWZ
      have hHeld := hHeld2
      clear hHeld2
      simp only [Act.put, List.setIfInBounds_toArray, List.set_cons_zero, List.set_cons_succ]
      refine takeL_call (i := 8) rfl (by kernel_rfl) (fun K2 hK => ?_)
      go_simp
      refine hK.out _ _ hHeld (fun hHeld2 => ?_)
      clear hK hHeld
      have hHeld := hHeld2
      clear hHeld2
      refine takeL_do (i := 9) (v := (.pointer (some ⟨pb, 6, none⟩))) rfl (by kernel_rfl) (by kernel_rfl) (by kernel_rfl) (by kernel_rfl) (fun _ _ _ h => h) (by rfl) ?_ (by assumption) ?_
      · intro w hSw
        skip
        go_simp
      simp only [Act.put, List.setIfInBounds_toArray, List.set_cons_zero, List.set_cons_succ]
      refine takeL_last rfl (by kernel_rfl) (by kernel_rfl) (fun K2 hK => ?_)
      go_simp
      rw [← HWZ.out]
      refine hK.out _ _ ?_
      clear hK hHeld HWZ hK1 hK2 hK3
      have hgg := HGG.out
      have hpl := HPL.out
      have hrl := HRL.out
      have R6 := HR6.out.of_block (HFX.out.block _ HR6.out.lt (by omega) HN6.out.1 HN6.out.2)
      have RO := HRO2.out.of_block (HFX.out.block _ HRO2.out.lt (by omega) HN1.out.1 HN1.out.2)
      have HIX : Hid (∃ g, x.pa = some ⟨g, 0, none⟩ ∧ InBlk g x.n x.f WZ) := by
        obtain ⟨g, e, h2⟩ := HPX0.out
        exact ⟨g, e, h2.block (HFX.out.block _ h2.lt (blk_ne (inBlk_type h2) (rowIs_type HPW.out.row) (by decide)) (fun e2 => blk_ne (inBlk_type h2) (HPW.out.cl.type e2) (by decide) rfl) (fun e2 => blk_ne (inBlk_type h2) (HPW.out.wl.type e2) (by decide) rfl))⟩
      obtain ⟨⟨x0, x1⟩, _⟩ := row2_cells R6
      obtain ⟨⟨o0, o1⟩, z0, z1⟩ := row2_cells RO
      have HRO3 := Lib.hid RO
      have hol : w.heap.size + 1 < WZ.heap.size := RO.lt
      have hnn : g6 ≠ w.heap.size + 1 := by omega
      have HM1 : Hid (Value.ownBlock (.slice a9 (wn + 1) k9) ≠ some (w.heap.size + 1)) := HGX.out.ne HRO2.out.lt HN1.out.2
      clear R6 RO hgg hpl hrl
      go_wp2_with fail
      refine bodyPost_ret (v := .tuple #[btV x.wt x.pa x.n x.k, .nilIface]) ?_ rfl (Or.inl ⟨HOK.out, x, _, rfl, HXX.out, ?_, HPX.out.put2 HRO3.out HN1.out.1 HM1.out _ _, ?_, (Gw.refl _ _).trans HGX.out HBV.out.size⟩)
      · obtain ⟨⟨a0, a1⟩, _⟩ := row2_cells (row2_put HRO3.out (.int .i64 x.wt) (.slice x.pa x.n x.k))
        simp only [results, Tryd.results49]
        simp [go_sem, a0, a1]
      · obtain ⟨g, e, h2⟩ := HIX.out
        have e9 := blk_ne (inBlk_type h2) (rowIs_type HRO3.out) (by decide)
        exact ⟨g, e, h2.block ((Below.heap_setCell _ ⟨w.heap.size + 1, 1, none⟩ _ _ e9).trans (Below.heap_setCell _ ⟨w.heap.size + 1, 0, none⟩ _ _ e9))⟩
      · exact (((Fr.of_below HBV.out).trans HFX.out (Gw.refl _ _) (Gw.refl _ _)).above (Nat.le_succ _) 0 _).above (Nat.le_succ _) 1 _
    · obtain ⟨ey, rfl, hey⟩ := her
      have HEY := Lib.hid hey
      have HNO := Lib.hid hno
      obtain ⟨⟨o0, o1⟩, z0, z1⟩ := row2_cells HRO2.out
      have hol : w.heap.size + 1 < wc.heap.size := HRO2.out.lt
      clear hey hno r6 r7 n1 n6 n7 hgg hpl hw1 hV
      go_wp2_with fail
      refine bodyPost_ret (v := .tuple #[nilB, .iface 64 (.agg #[.string ⟨#[115, 101, 116, 116, 108, 105, 110, 103]⟩, .iface 64 ey])]) ?_ rfl (Or.inr ⟨HNO.out, _, rfl, ErrIs.wrap ⟨ey, rfl, HEY.out⟩ _, ?_⟩)
      · obtain ⟨⟨a0, a1⟩, _⟩ := row2_cells (row2_put HRO2.out (.int .i64 0) (.slice none 0 0))
        simp only [results, Tryd.results49]
        simp [go_sem, a0, a1]
      · exact ((Fr.of_below HBV.out).above (Nat.le_succ _) 0 _).above (Nat.le_succ _) 1 _
end Go.Proofs.YtcjeieagpcphjaaDoor
