/-
  Accounts: the model's.
-/
import Derived.Test.YtnbnfifgajfomaaDoorBiAr
import Derived.Test.YtnbnfifgajfomaaDoorBiMs
namespace Go.Proofs.YtnbnfifgajfomaaDoor
open Go.RowKit Go.Deep

/-- The model's account in memory. -/
structure AsS (v : Value) (o : List Int) (c p : Int) (w W : World) : Prop where
  row : W.rowIs (w.heap.size + 1) 38 4 (rowN [v, .int .i64 c, .int .i64 p, .int .i64 0])
  rr : W.rowIs w.heap.size 38 4 (rowN [.slice none 0 0, .int .i64 0, .int .i64 0, .int .i64 0])
  q : OwnQ w.heap.size v o W
  bel : Below w.heap.size w W
section
variable {v v' : Value} {o o' : List Int} {c p : Int} {w W W' : World}
theorem AsS.below (h : AsS v o c p w W) (hb : Below W.heap.size W W') : AsS v o c p w W' := ⟨nrow_below h.row hb, nrow_below h.rr hb, h.q.below hb, h.bel.trans (hb.mono h.bel.size)⟩
theorem AsS.ne1 (h : AsS v o c p w W) {k : Nat} (hk : v.ownBlock = some k) : k ≠ w.heap.size + 1 ∧ k ≠ w.heap.size := ⟨fun e => h.q.ne h.row (by decide) (by rw [hk, e]), fun e => h.q.ne h.rr (by decide) (by rw [hk, e])⟩
theorem AsS.credit (h : AsS v o c p w W) (x : Int) : AsS v o x p w (W.setCell ⟨w.heap.size + 1, 1, none⟩ (.int .i64 x)) :=
  ⟨rowN_put h.row 1 _ (by simp), nrow_set h.rr (by show w.heap.size ≠ w.heap.size + 1; omega) _, h.q.same (fun k hk _ => Below.heap_setCell _ _ _ _ (h.ne1 hk).1), h.bel.setCell (p := ⟨w.heap.size + 1, 1, none⟩) (by show w.heap.size ≤ w.heap.size + 1; omega) _⟩
theorem AsS.paid (h : AsS v o c p w W) (x : Int) : AsS v o c x w (W.setCell ⟨w.heap.size + 1, 2, none⟩ (.int .i64 x)) :=
  ⟨rowN_put h.row 2 _ (by simp), nrow_set h.rr (by show w.heap.size ≠ w.heap.size + 1; omega) _, h.q.same (fun k hk _ => Below.heap_setCell _ _ _ _ (h.ne1 hk).1), h.bel.setCell (p := ⟨w.heap.size + 1, 2, none⟩) (by show w.heap.size ≤ w.heap.size + 1; omega) _⟩
theorem AsS.open_ (h : AsS v o c p w W) (ho : OwnQ w.heap.size v' o' W') (hg : W.grownBy W' v.ownBlock) : AsS v' o' c p w (W'.setCell ⟨w.heap.size + 1, 0, none⟩ v') ∧ W'.rowIs (w.heap.size + 1) 38 4 (rowN [v, .int .i64 c, .int .i64 p, .int .i64 0]) := by
  have hr : W'.rowIs (w.heap.size + 1) 38 4 (rowN [v, .int .i64 c, .int .i64 p, .int .i64 0]) := h.row.of_block (hg.block _ h.row.lt (fun e => h.q.ne h.row (by decide) e.symm))
  have hr2 := h.rr.of_block (hg.block _ h.rr.lt (fun e => h.q.ne h.rr (by decide) e.symm))
  exact ⟨⟨rowN_put hr 0 v' (by simp), nrow_set hr2 (by show w.heap.size ≠ w.heap.size + 1; omega) _, ho.same (fun k hk _ => Below.heap_setCell _ _ _ _ (by
    show k ≠ w.heap.size + 1
    rintro rfl
    exact ho.ne hr (by decide) hk)), (h.bel.grown hg h.bel.size (fun j hj => (h.q.lt hj).1)).setCell (p := ⟨w.heap.size + 1, 0, none⟩) (by show w.heap.size ≤ w.heap.size + 1; omega) _⟩, hr⟩
theorem AsS.head {g ob c' M : Nat} {F : Nat → Value} {y : Int} {ys : List Int} (h : AsS (.slice (some ⟨g, ob, none⟩) (ys.length + 1) (c' + 1)) (y :: ys) c p w W) (z : Int) (h1 : w.heap.size ≤ g) (h2 : ys.length ≤ c') (h3 : ob + 1 + c' ≤ M) (h4 : W.rowIs g 2 M F) (h6 : ∀ j, j < ys.length → F (ob + 1 + j) = .int .i64 (ys.getD j 0)) : AsS (.slice (some ⟨g, ob, none⟩) (ys.length + 1) (c' + 1)) (z :: ys) c p w (W.setCell ⟨g, ob, none⟩ (.int .i64 z)) :=
  ⟨nrow_set h.row (by show w.heap.size + 1 ≠ g; exact Ne.symm (h.ne1 rfl).1) _, nrow_set h.rr (by show w.heap.size ≠ g; exact Ne.symm (h.ne1 rfl).2) _, ownQ_head z h1 h2 h3 h4 h6, h.bel.setCell (p := ⟨g, ob, none⟩) h1 _⟩
theorem AsS.drew (h : AsS v o c p w W) : AsS v o c p w W.drew := h.below (Below.refl _ _).drew
end
theorem pay_stop {o : List Int} {z m : Int} {x : List Int} (hP : Bi.AllPos o) (h : o = [] ∨ z = 0) (e : Bi.payO o z = Bi.payO x m ∧ Bi.payL o z = Bi.payL x m) : o = Bi.payO x m ∧ z = Bi.payL x m := by
  rw [← e.1, ← e.2]
  rcases h with rfl | rfl
  · exact ⟨rfl, rfl⟩
  · cases o with
    | nil => exact ⟨rfl, rfl⟩
    | cons y ys =>
      have := hP y List.mem_cons_self
      rw [Bi.payO_gt (by omega), Bi.payL_gt (by omega)]
      simp
set_option maxRecDepth 100000 in
set_option maxHeartbeats 16000000 in
theorem specAcc_any (la : Option Addr) (n cap : Nat) (E : Nat → Int) (w : World) (hE : IsAt la (n * 2) E w) (hn9 : n ≤ 9223372036854775807) :
    Calls Tryd.prog 14 #[.slice la n cap] w fun e w' => AcEnd w.heap.size E n e w' ∧ Below w.heap.size w w' := by
  have H := Lib.hid hE
  clear hE
  by_cases c0 : (100 : Int) < (n : Int)
  · have hcd : Bi.code E n = 2 := Bi.code_big (by omega)
    have HE : Hid (Bi.ansO E n = [] ∧ Bi.ansC E n = 0 ∧ Bi.ansP E n = 0 ∧ Bi.code E n = 2) := by show _ ∧ _ ∧ _ ∧ _; unfold Bi.ansO Bi.ansC Bi.ansP; rw [hcd]; exact ⟨rfl, rfl, rfl, rfl⟩
    clear hcd
    go_enter Tryd.func14, Tryd.ntmps14
    go_wp2_with fail
    exact bodyPost_ret (v := acV 0 0 2 0 none 0) (by simp only [results, Tryd.results14]; simp [go_sem]) rfl ⟨⟨none, 0, by rw [HE.out.1, HE.out.2.1, HE.out.2.2.1, HE.out.2.2.2]; rfl, by rw [HE.out.1]; exact Or.inl ⟨rfl, rfl, rfl⟩⟩, nbel_alloc _ _⟩
  have hn : n ≤ 100 := by omega
  obtain ⟨W, hW⟩ : ∃ W, W = (w.alloc (.cells #[.slice none 0 0, .int .i64 0, .int .i64 0, .int .i64 0] 38)).alloc (.cells #[.slice none 0 0, .int .i64 0, .int .i64 0, .int .i64 0] 38) := ⟨_, rfl⟩
  have HS0 : Hid (AsS (.slice none 0 0) [] 0 0 w W) := by
    show AsS _ _ _ _ _ _
    rw [hW]
    exact ⟨rowN_alloc' (by simp) _ _, nrow_below (rowN_alloc w _ _) (nbel_alloc _ _), OwnQ.nil _ _, (nbel_alloc _ _).alloc (by simp) _⟩
  have HW := Lib.hid hW
  obtain ⟨i1, hi1, hi0, hi2, hi3⟩ := info_parts bbinfo_i64
  clear hW
  go_enter Tryd.func14, Tryd.ntmps14
  go_wp2_with fail
  rw [← HW.out]
  clear HW
  go_loopw [4] (fun iv wr => ∃ (i : Nat) (v : Value), i ≤ n ∧ iv = .int .i64 i ∧ Hid (Bi.Good E i) ∧ Hid (AsS v (Bi.at_ E i).o (Bi.at_ E i).c (Bi.sum (Bi.pd E) i) w wr)) (fun iv _ => n - (intOf iv).toNat)
  case atStart => exact ⟨0, _, Nat.zero_le _, rfl, fun j hj => absurd hj (Nat.not_lt_zero _), HS0⟩
  case round =>
    obtain ⟨i, v, hi, rfl, hGd, hS⟩ := hrel
    clear HS0
    by_cases hlt : i < n
    case neg =>
      obtain rfl : i = n := by omega
      have hcd : Bi.code E i = 0 := Bi.code_good (by omega) hGd.out
      have HE : Hid (Bi.code E i = 0 ∧ Bi.ansO E i = (Bi.at_ E i).o ∧ Bi.ansC E i = (Bi.at_ E i).c ∧ Bi.ansP E i = Bi.sum (Bi.pd E) i) := by show _ ∧ _ ∧ _ ∧ _; unfold Bi.ansO Bi.ansC Bi.ansP; rw [if_pos hcd, if_pos hcd, if_pos hcd]; exact ⟨hcd, rfl, rfl, rfl⟩
      obtain ⟨av, cv, rfl, _⟩ := hS.out.q.shape
      obtain ⟨⟨r0, r1, r2, r3⟩, f0, f1, f2, f3⟩ := rowN4 hS.out.row
      obtain ⟨⟨o0, o1, o2, o3⟩, z0, z1, z2, z3⟩ := rowN4 hS.out.rr
      have hol := hS.out.rr.lt
      have hrl := hS.out.row.lt
      obtain ⟨a9, c9, e9, h9⟩ := hS.out.q.qs
      cases e9
      have ZQ := Lib.hid h9
      have ZN : Hid (∀ k, (Value.slice av (Bi.at_ E i).o.length cv).ownBlock = some k → k ≠ w.heap.size) := fun k hk => (hS.out.ne1 hk).2
      have zr := Lib.hid (ac4 hS.out.rr (.slice av (Bi.at_ E i).o.length cv) (.int .i64 (Bi.at_ E i).c) (.int .i64 (Bi.sum (Bi.pd E) i)) (.int .i64 0))
      have zb := Lib.hid (ac4b hS.out.bel (Nat.le_refl _) (.slice av (Bi.at_ E i).o.length cv) (.int .i64 (Bi.at_ E i).c) (.int .i64 (Bi.sum (Bi.pd E) i)) (.int .i64 0))
      clear hcd hS h9 hGd
      go_wp2_with fail
      refine bodyPost_ret (v := acV (Bi.at_ E i).c (Bi.sum (Bi.pd E) i) 0 (Bi.at_ E i).o.length av cv) ?_ rfl ⟨⟨av, cv, by rw [HE.out.1, HE.out.2.1, HE.out.2.2.1, HE.out.2.2.2], by rw [HE.out.2.1]; exact ZQ.out.same (fun j hj _ => ac4o (ZN.out j hj) _ _ _ _)⟩, zb.out⟩
      obtain ⟨⟨c0, c1, c2, c3⟩, _⟩ := rowN4 zr.out
      simp only [results, Tryd.results14]
      simp [go_sem, c0, c1, c2, c3]
    have hltz : (i : Int) < (n : Int) := by omega
    obtain ⟨b, rfl, q0, q1⟩ := (H.out.below hS.out.bel).at2 hlt
    have hwb : b < wr.heap.size := World.block_lt_of_cell? _ _ q0
    have HINV := Lib.hid (Bi.inv_at i hGd.out)
    have hpdb := Bi.pd_bd i hGd.out
    have hcr0 := HINV.out.c0
    have hcr1 := HINV.out.c1
    obtain ⟨X, hX⟩ : ∃ X, X = Bi.at_ E i := ⟨_, rfl⟩
    obtain ⟨pp, hpp⟩ : ∃ pp, pp = Bi.sum (Bi.pd E) i := ⟨_, rfl⟩
    obtain ⟨kk, hkk⟩ : ∃ kk, kk = E (i * 2) := ⟨_, rfl⟩
    obtain ⟨mm, hmm⟩ : ∃ mm, mm = E (i * 2 + 1) := ⟨_, rfl⟩
    rw [← hX] at hcr0 hcr1
    rw [← hX, ← hpp] at hS
    rw [← hpp] at hpdb
    rw [← hkk] at q0
    rw [← hmm] at q1
    have hcrb : X.c ≤ 100000000000 := by omega
    have hppb : -100000000000 ≤ pp ∧ pp ≤ 100000000000 := by omega
    have HNX : Hid (Bi.at_ E (i + 1) = Bi.stepA X kk mm ∧ Bi.sum (Bi.pd E) (i + 1) = pp + (if kk = 2 then mm else if kk = 3 then - mm else 0)) := by
      show _ ∧ _
      rw [hkk, hmm, hX, hpp]
      exact ⟨rfl, rfl⟩
    have HOA : Hid (Bi.OkAt E i ↔ (Bi.EntOk kk mm ∧ (kk = 3 → mm ≤ X.c))) := by show _ ↔ _; rw [hkk, hmm, hX]; exact Iff.rfl
    have HCA : Hid ((¬ Bi.EntOk kk mm → Bi.codeAt E i = 1) ∧ (Bi.EntOk kk mm → Bi.codeAt E i = 9)) := by show _ ∧ _; rw [hkk, hmm]; exact ⟨Bi.codeAt_form, Bi.codeAt_state⟩
    have HBAD : Hid (¬ Bi.OkAt E i → Bi.ansO E n = [] ∧ Bi.ansC E n = 0 ∧ Bi.ansP E n = 0 ∧ Bi.code E n = Bi.codeAt E i) := fun hno => by
      have hcd := Bi.code_first (by omega) (⟨hlt, hGd.out, hno⟩ : Bi.First E n i)
      have hne : Bi.code E n ≠ 0 := by
        rw [hcd]
        by_cases hk : Bi.EntOk kk mm
        · rw [HCA.out.2 hk]; omega
        · rw [HCA.out.1 hk]; omega
      unfold Bi.ansO Bi.ansC Bi.ansP
      rw [if_neg hne, if_neg hne, if_neg hne]
      exact ⟨rfl, rfl, rfl, hcd⟩
    have HG2 : Hid (Bi.EntOk kk mm → (kk = 3 → mm ≤ X.c) → Bi.Good E (i + 1)) := fun h1 h2 j hj => by
      by_cases e : j = i
      · rw [e]; exact HOA.out.2 ⟨h1, h2⟩
      · exact hGd.out j (by omega)
    rw [← hX] at HINV
    obtain ⟨VV, hVV⟩ : ∃ VV, VV = wr.alloc (.cells #[.int .i64 kk, .int .i64 mm] 41) := ⟨_, rfl⟩
    have HSV : Hid (AsS v X.o X.c pp w VV) := by show AsS _ _ _ _ _ _; rw [hVV]; exact hS.out.below (nbel_alloc _ _)
    have HREV : Hid (VV.rowIs wr.heap.size 41 2 (rowN [.int .i64 kk, .int .i64 mm])) := by show VV.rowIs _ _ _ _; rw [hVV]; exact rowN_alloc _ _ _
    have HSR := Lib.hid (Bi.pd_bd i hGd.out)
    have HVV := Lib.hid hVV
    have HSW := hS
    clear hX hpp hkk hmm hS hVV hpdb hcr1 HSR
    by_cases k0 : kk < 1
    · have hno : ¬ Bi.EntOk kk mm := fun h => by have := h.1; have := h.2; omega
      have HE : Hid (Bi.ansO E n = [] ∧ Bi.ansC E n = 0 ∧ Bi.ansP E n = 0 ∧ Bi.code E n = 1) := by have := HBAD.out (fun h => hno (HOA.out.1 h).1); rw [HCA.out.1 hno] at this; exact this
      obtain ⟨⟨o0, o1, o2, o3⟩, j0, j1, j2, j3⟩ := rowN4 HSW.out.rr
      have hol := HSW.out.rr.lt
      have zr := Lib.hid (nrow_below (ac4 HSW.out.rr (.slice none 0 0) (.int .i64 0) (.int .i64 0) (.int .i64 1)) (nbel_alloc _ (.cells #[.int .i64 kk, .int .i64 mm] 41)))
      have zb := Lib.hid ((ac4b HSW.out.bel (Nat.le_refl _) (.slice none 0 0) (.int .i64 0) (.int .i64 0) (.int .i64 1)).alloc (by have := HSW.out.bel.size; simp; omega) (.cells #[.int .i64 kk, .int .i64 mm] 41))
      clear hno HOA HCA HNX HG2 HBAD HSV HREV HSW
      go_wp2_with fail
      refine bodyPost_ret (v := acV 0 0 1 0 none 0) ?_ rfl ⟨⟨none, 0, by rw [HE.out.1, HE.out.2.1, HE.out.2.2.1, HE.out.2.2.2]; rfl, by rw [HE.out.1]; exact Or.inl ⟨rfl, rfl, rfl⟩⟩, zb.out⟩
      obtain ⟨⟨c0, c1, c2, c3⟩, _⟩ := rowN4 zr.out
      simp only [results, Tryd.results14]
      simp [go_sem, c0, c1, c2, c3]
    by_cases k1 : 3 < kk
    · have hno : ¬ Bi.EntOk kk mm := fun h => by have := h.1; have := h.2; omega
      have HE : Hid (Bi.ansO E n = [] ∧ Bi.ansC E n = 0 ∧ Bi.ansP E n = 0 ∧ Bi.code E n = 1) := by have := HBAD.out (fun h => hno (HOA.out.1 h).1); rw [HCA.out.1 hno] at this; exact this
      obtain ⟨⟨o0, o1, o2, o3⟩, j0, j1, j2, j3⟩ := rowN4 HSW.out.rr
      have hol := HSW.out.rr.lt
      have zr := Lib.hid (nrow_below (ac4 HSW.out.rr (.slice none 0 0) (.int .i64 0) (.int .i64 0) (.int .i64 1)) (nbel_alloc _ (.cells #[.int .i64 kk, .int .i64 mm] 41)))
      have zb := Lib.hid ((ac4b HSW.out.bel (Nat.le_refl _) (.slice none 0 0) (.int .i64 0) (.int .i64 0) (.int .i64 1)).alloc (by have := HSW.out.bel.size; simp; omega) (.cells #[.int .i64 kk, .int .i64 mm] 41))
      clear hno HOA HCA HNX HG2 HBAD HSV HREV HSW
      go_wp2_with fail
      refine bodyPost_ret (v := acV 0 0 1 0 none 0) ?_ rfl ⟨⟨none, 0, by rw [HE.out.1, HE.out.2.1, HE.out.2.2.1, HE.out.2.2.2]; rfl, by rw [HE.out.1]; exact Or.inl ⟨rfl, rfl, rfl⟩⟩, zb.out⟩
      obtain ⟨⟨c0, c1, c2, c3⟩, _⟩ := rowN4 zr.out
      simp only [results, Tryd.results14]
      simp [go_sem, c0, c1, c2, c3]
    by_cases k2 : mm < 1
    · have hno : ¬ Bi.EntOk kk mm := fun h => by have := h.1; have := h.2; omega
      have HE : Hid (Bi.ansO E n = [] ∧ Bi.ansC E n = 0 ∧ Bi.ansP E n = 0 ∧ Bi.code E n = 1) := by have := HBAD.out (fun h => hno (HOA.out.1 h).1); rw [HCA.out.1 hno] at this; exact this
      obtain ⟨⟨o0, o1, o2, o3⟩, j0, j1, j2, j3⟩ := rowN4 HSW.out.rr
      have hol := HSW.out.rr.lt
      have zr := Lib.hid (nrow_below (ac4 HSW.out.rr (.slice none 0 0) (.int .i64 0) (.int .i64 0) (.int .i64 1)) (nbel_alloc _ (.cells #[.int .i64 kk, .int .i64 mm] 41)))
      have zb := Lib.hid ((ac4b HSW.out.bel (Nat.le_refl _) (.slice none 0 0) (.int .i64 0) (.int .i64 0) (.int .i64 1)).alloc (by have := HSW.out.bel.size; simp; omega) (.cells #[.int .i64 kk, .int .i64 mm] 41))
      clear hno HOA HCA HNX HG2 HBAD HSV HREV HSW
      go_wp2_with fail
      refine bodyPost_ret (v := acV 0 0 1 0 none 0) ?_ rfl ⟨⟨none, 0, by rw [HE.out.1, HE.out.2.1, HE.out.2.2.1, HE.out.2.2.2]; rfl, by rw [HE.out.1]; exact Or.inl ⟨rfl, rfl, rfl⟩⟩, zb.out⟩
      obtain ⟨⟨c0, c1, c2, c3⟩, _⟩ := rowN4 zr.out
      simp only [results, Tryd.results14]
      simp [go_sem, c0, c1, c2, c3]
    by_cases k3 : 1000000000 < mm
    · have hno : ¬ Bi.EntOk kk mm := fun h => by have := h.1; have := h.2; omega
      have HE : Hid (Bi.ansO E n = [] ∧ Bi.ansC E n = 0 ∧ Bi.ansP E n = 0 ∧ Bi.code E n = 1) := by have := HBAD.out (fun h => hno (HOA.out.1 h).1); rw [HCA.out.1 hno] at this; exact this
      obtain ⟨⟨o0, o1, o2, o3⟩, j0, j1, j2, j3⟩ := rowN4 HSW.out.rr
      have hol := HSW.out.rr.lt
      have zr := Lib.hid (nrow_below (ac4 HSW.out.rr (.slice none 0 0) (.int .i64 0) (.int .i64 0) (.int .i64 1)) (nbel_alloc _ (.cells #[.int .i64 kk, .int .i64 mm] 41)))
      have zb := Lib.hid ((ac4b HSW.out.bel (Nat.le_refl _) (.slice none 0 0) (.int .i64 0) (.int .i64 0) (.int .i64 1)).alloc (by have := HSW.out.bel.size; simp; omega) (.cells #[.int .i64 kk, .int .i64 mm] 41))
      clear hno HOA HCA HNX HG2 HBAD HSV HREV HSW
      go_wp2_with fail
      refine bodyPost_ret (v := acV 0 0 1 0 none 0) ?_ rfl ⟨⟨none, 0, by rw [HE.out.1, HE.out.2.1, HE.out.2.2.1, HE.out.2.2.2]; rfl, by rw [HE.out.1]; exact Or.inl ⟨rfl, rfl, rfl⟩⟩, zb.out⟩
      obtain ⟨⟨c0, c1, c2, c3⟩, _⟩ := rowN4 zr.out
      simp only [results, Tryd.results14]
      simp [go_sem, c0, c1, c2, c3]
    have HOKE : Hid (Bi.EntOk kk mm) := ⟨⟨by omega, by omega⟩, by omega, by omega⟩
    have hmb : 1 ≤ mm ∧ mm ≤ 1000000000 := HOKE.out.2
    obtain ⟨av, cv, rfl, _⟩ := HSV.out.q.shape
    obtain ⟨⟨r0, r1, r2, r3⟩, f0, f1, f2, f3⟩ := rowN4 HSW.out.row
    have hrl := HSW.out.row.lt
    have hewl : wr.heap.size ≠ w.heap.size + 1 := fun e => by
      obtain ⟨_, g1, _⟩ := HREV.out
      obtain ⟨_, g2, _⟩ := HSV.out.row
      rw [e, g2] at g1
      simp at g1
    have HLE : Hid (X.o.length ≤ 1000) := Nat.le_trans HINV.out.len (by omega)
    by_cases d1 : kk = 1
    · have b1 : (kk == 1) = true := by simp [d1]
      have HG3 : Hid (Bi.Good E (i + 1)) := HG2.out HOKE.out (fun h => by omega)
      have HN1 : Hid (Bi.at_ E (i + 1) = Bi.billA X mm ∧ Bi.sum (Bi.pd E) (i + 1) = pp) := by
        show _ ∧ _
        rw [HNX.out.1, HNX.out.2, d1]
        exact ⟨Bi.step1 _ _, by simp⟩
      clear HOA HCA HNX HG2 HBAD d1
      go_wp2_with fail
      rw [← HVV.out]
      refine (bmin_any _ _ _).mono ?_
      rintro e w2 ⟨rfl, hw2⟩
      subst hw2
      clear r0 r1 r2 r3 f0 f1 f2 f3 hrl q0 q1 hwb HSW
      obtain ⟨⟨r0, r1, r2, r3⟩, f0, f1, f2, f3⟩ := rowN4 HSV.out.row
      obtain ⟨⟨e0, e1⟩, _⟩ := rowN2 HREV.out
      have hrl := HSV.out.row.lt
      by_cases c1 : X.c < mm
      · have hmin : min X.c mm = X.c := by omega
        rw [hmin]
        have HE : Hid (Bi.billA X mm = ⟨X.o ++ [mm - X.c], 0⟩) := by
          show _ = _
          unfold Bi.billA
          rw [hmin, if_pos c1]
          simp
        have HSC := Lib.hid (HSV.out.credit 0)
        clear hmin
        go_wp2_with (at_builtin; refine wpList_append_q _ rfl _ _ 28 rfl i1 Tryd.underlying28 hi1 hi0 hi2 hi3 w.heap.size _ X.o rfl ((HSC.out.below (nbel_alloc _ _)).q) (Nat.le_trans HLE.out (by omega)) (by have := HSV.out.bel.size; simp; omega) ⟨w2.heap.size, 0, none⟩ 1 (mm - X.c) rfl (qcell2 (by simp) _ _) ?_)
        intro v' W3 hown hgrow _
        obtain ⟨hS3, hr3⟩ := (HSC.out.below (nbel_alloc _ _)).open_ hown hgrow
        have S3 : Hid (AsS v' (Bi.at_ E (i + 1)).o (Bi.at_ E (i + 1)).c (Bi.sum (Bi.pd E) (i + 1)) w (W3.setCell ⟨w.heap.size + 1, 0, none⟩ v')) := by
          show AsS _ _ _ _ _ _
          rw [HN1.out.1, HN1.out.2, HE.out]
          exact hS3
        obtain ⟨av2, cv2, rfl, _⟩ := hown.shape
        rw [List.length_append, List.length_singleton] at S3
        clear r0 r1 r2 r3 f0 f1 f2 f3 hrl e0 e1
        obtain ⟨⟨r0, r1, r2, r3⟩, f0, f1, f2, f3⟩ := rowN4 hr3
        have hrl := hr3.lt
        clear hS3 hr3 hown hgrow HSC HSV HREV HVV
        go_wp2_with fail
        go_roundw
        case rel => exact ⟨i + 1, _, by omega, by go_num, HG3, S3⟩
        case measure => simp [intOf]; omega
      · have hmin : min X.c mm = mm := by omega
        rw [hmin]
        have HE : Hid (Bi.billA X mm = ⟨X.o, X.c - mm⟩) := by
          show _ = _
          unfold Bi.billA
          rw [hmin]
          simp
        have S3 : Hid (AsS (.slice av X.o.length cv) (Bi.at_ E (i + 1)).o (Bi.at_ E (i + 1)).c (Bi.sum (Bi.pd E) (i + 1)) w (w2.setCell ⟨w.heap.size + 1, 1, none⟩ (.int .i64 (X.c - mm)))) := by
          show AsS _ _ _ _ _ _
          rw [HN1.out.1, HN1.out.2, HE.out]
          exact HSV.out.credit _
        clear hmin HSV HREV HVV
        go_wp2_with fail
        go_roundw
        case rel => exact ⟨i + 1, _, by omega, by go_num, HG3, S3⟩
        case measure => simp [intOf]; omega
    have b1 : (kk == 1) = false := by simp [d1]
    by_cases d2 : kk = 2
    · have b2 : (kk == 2) = true := by simp [d2]
      have HG3 : Hid (Bi.Good E (i + 1)) := HG2.out HOKE.out (fun h => by omega)
      have HN1 : Hid (Bi.at_ E (i + 1) = Bi.payA X mm ∧ Bi.sum (Bi.pd E) (i + 1) = pp + mm) := by
        show _ ∧ _
        rw [HNX.out.1, HNX.out.2, d2]
        exact ⟨Bi.step2 _ _, by simp⟩
      have HPS : Hid (AsS (.slice av X.o.length cv) X.o X.c (pp + mm) w ((wr.setCell ⟨w.heap.size + 1, 2, none⟩ (.int .i64 (pp + mm))).alloc (.cells #[.int .i64 kk, .int .i64 mm] 41))) := (HSW.out.paid (pp + mm)).below (nbel_alloc _ _)
      have HPR : Hid (Bi.AllPos X.o ∧ X.o.length ≤ 1000) := ⟨HINV.out.pos, HLE.out⟩
      clear HOA HCA HNX HG2 HBAD d1 d2 HSV HREV
      go_wp2_with fail
      go_loopw [7] (fun mv wr => ∃ (o : List Int) (z : Int) (v : Value), mv = .int .i64 z ∧ Hid (0 ≤ z ∧ z ≤ mm) ∧ Hid (Bi.AllPos o ∧ o.length ≤ 1000) ∧ Hid (Bi.payO o z = Bi.payO X.o mm ∧ Bi.payL o z = Bi.payL X.o mm) ∧ Hid (AsS v o X.c (pp + mm) w wr)) (fun mv _ => (intOf mv).toNat)
      case atStart => exact ⟨X.o, mm, _, rfl, ⟨by omega, Int.le_refl _⟩, HPR, ⟨rfl, rfl⟩, HPS⟩
      case round =>
        obtain ⟨o, z, v, rfl, hz, hP, hE, hS⟩ := hrel
        rename World => wr2
        clear HPS HPR
        obtain ⟨z0, z1⟩ := hz.out
        obtain ⟨⟨r0, r1, r2, r3⟩, f0, f1, f2, f3⟩ := rowN4 hS.out.row
        have hrl := hS.out.row.lt
        cases o with
        | nil =>
          obtain ⟨av, cv, rfl, _⟩ := hS.out.q.shape
          have HF := pay_stop hP.out.1 (Or.inl rfl) hE.out
          have S3 : Hid (AsS (.slice av 0 cv) (Bi.at_ E (i + 1)).o (Bi.at_ E (i + 1)).c (Bi.sum (Bi.pd E) (i + 1)) w (wr2.setCell ⟨w.heap.size + 1, 1, none⟩ (.int .i64 (X.c + z)))) := by
            show AsS _ _ _ _ _ _
            rw [HN1.out.1, HN1.out.2]
            show AsS _ (Bi.payO X.o mm) (X.c + Bi.payL X.o mm) _ _ _
            rw [← HF.1, ← HF.2]
            exact hS.out.credit _
          clear hS hE hP hz HF
          go_wp2_with fail
          go_roundw
          case rel => exact ⟨i + 1, _, by omega, by go_num, HG3, S3⟩
          case measure => simp [intOf]; omega
        | cons y ys =>
          obtain ⟨g, ob, c, M, F, rfl, h1, h2, h3, h4, h5, h6⟩ := hS.out.q.pos
          have hy := hP.out.1 y List.mem_cons_self
          have k0 : wr2.cell? ⟨g, ob, none⟩ = some (.int .i64 y) := by rw [h4.cell (by omega), h5]
          have fk := h4.frozen ob
          have hgk := h4.lt
          have hne : ¬ ys.length + 1 = 0 := by omega
          have hnz : (0 : Int) < ((ys.length + 1 : Nat) : Int) := by omega
          have hgg : g ≠ w.heap.size + 1 := (hS.out.ne1 rfl).1
          have hgg2 : g ≠ w.heap.size := (hS.out.ne1 rfl).2
          by_cases hz0 : z = 0
          · subst hz0
            have HF := pay_stop hP.out.1 (Or.inr rfl) hE.out
            have S3 : Hid (AsS (.slice (some ⟨g, ob, none⟩) (ys.length + 1) (c + 1)) (Bi.at_ E (i + 1)).o (Bi.at_ E (i + 1)).c (Bi.sum (Bi.pd E) (i + 1)) w (wr2.setCell ⟨w.heap.size + 1, 1, none⟩ (.int .i64 (X.c + 0)))) := by
              show AsS _ _ _ _ _ _
              rw [HN1.out.1, HN1.out.2]
              show AsS _ (Bi.payO X.o mm) (X.c + Bi.payL X.o mm) _ _ _
              rw [← HF.1, ← HF.2]
              exact hS.out.credit _
            rw [Int.add_zero] at S3
            clear hS hE hP hz HF
            go_wp2_with fail
            go_roundw
            case rel => exact ⟨i + 1, _, by omega, by go_num, HG3, S3⟩
            case measure => simp [intOf]; omega
          have hzp : 0 < z := by omega
          by_cases hle : y ≤ z
          · have HE2 : Hid (Bi.payO ys (z - y) = Bi.payO X.o mm ∧ Bi.payL ys (z - y) = Bi.payL X.o mm) := ⟨by rw [← Bi.payO_le hle]; exact hE.out.1, by rw [← Bi.payL_le hle]; exact hE.out.2⟩
            have HP2 : Hid (Bi.AllPos ys ∧ ys.length ≤ 1000) := ⟨fun u hu => hP.out.1 u (List.mem_cons_of_mem _ hu), by have := hP.out.2; simp at this; omega⟩
            have HZ2 : Hid (0 ≤ z - y ∧ z - y ≤ mm) := ⟨by omega, by omega⟩
            have HS1 : Hid (AsS (.slice (some ⟨g, ob, none⟩) (ys.length + 1) (c + 1)) (0 :: ys) X.c (pp + mm) w (wr2.setCell ⟨g, ob, none⟩ (.int .i64 0)).drew) := (hS.out.head 0 h1 h2 h3 h4 h6).drew
            obtain ⟨Z1, hZ1⟩ : ∃ Z1, Z1 = (wr2.setCell ⟨g, ob, none⟩ (.int .i64 0)).drew := ⟨_, rfl⟩
            rw [← hZ1] at HS1
            have HZ1 := Lib.hid hZ1
            have hmin : min z y = y := by omega
            clear hZ1 hS hE hP hz h1 h2 h3 h4 h5 h6
            go_wp2_with fail
            refine (bmin_any _ _ _).mono ?_
            rintro e w3 ⟨rfl, hw3⟩
            subst hw3
            rw [hmin]
            clear hmin
            go_wp2_with fail
            go_region
            rw [← HZ1.out]
            clear HZ1 r0 r1 r2 r3 f0 f1 f2 f3 hrl k0 fk hgk
            obtain ⟨⟨r0, r1, r2, r3⟩, f0, f1, f2, f3⟩ := rowN4 HS1.out.row
            have hrl := HS1.out.row.lt
            obtain ⟨g', ob', c', M', F', e', g1, g2, g3, g4, g5, g6⟩ := HS1.out.q.pos
            cases e'
            have k0 : Z1.cell? ⟨g, ob, none⟩ = some (.int .i64 0) := by rw [g4.cell (by omega), g5]
            by_cases hc : c = 0
            · subst hc
              have hys : ys = [] := List.eq_nil_of_length_eq_zero (by omega)
              subst hys
              have S3 : Hid (AsS (.slice (some ⟨g, ob, none⟩) 0 0) [] X.c (pp + mm) w (Z1.setCell ⟨w.heap.size + 1, 0, none⟩ (.slice (some ⟨g, ob, none⟩) 0 0))) := (HS1.out.open_ (v' := .slice (some ⟨g, ob, none⟩) 0 0) (o' := []) (Or.inr ⟨g, ob, 0, M', F', rfl, g1, Nat.le_refl _, by omega, g4, fun j hj => absurd hj (by simp)⟩) ⟨rfl, rfl, rfl, Nat.le_refl _, fun _ _ _ => rfl⟩).1
              clear HS1 g1 g2 g3 g4 g5 g6
              go_wp2_with fail
              go_roundw
              case rel => exact ⟨[], z - y, _, rfl, HZ2, HP2, HE2, S3⟩
              case measure => simp [intOf]; omega
            ·
              have S3 : Hid (AsS (.slice (some ⟨g, ob + 1, none⟩) ys.length c) ys X.c (pp + mm) w (Z1.setCell ⟨w.heap.size + 1, 0, none⟩ (.slice (some ⟨g, ob + 1, none⟩) ys.length c))) := (HS1.out.open_ (v' := .slice (some ⟨g, ob + 1, none⟩) ys.length c) (o' := ys) (ownQ_tail g1 g2 g3 g4 g6) ⟨rfl, rfl, rfl, Nat.le_refl _, fun _ _ _ => rfl⟩).1
              clear HS1 g1 g2 g3 g4 g5 g6
              go_wp2_with fail
              go_roundw
              case rel => exact ⟨ys, z - y, _, rfl, HZ2, HP2, HE2, S3⟩
              case measure => simp [intOf]; omega
          · have HE2 : Hid (Bi.payO ((y - z) :: ys) 0 = Bi.payO X.o mm ∧ Bi.payL ((y - z) :: ys) 0 = Bi.payL X.o mm) := by
              have e1 := hE.out.1
              have e2 := hE.out.2
              rw [Bi.payO_gt hle] at e1
              rw [Bi.payL_gt hle] at e2
              show _ ∧ _
              rw [Bi.payO_gt (by omega), Bi.payL_gt (by omega), ← e1, ← e2]
              simp
            have HP2 : Hid (Bi.AllPos ((y - z) :: ys) ∧ ((y - z) :: ys).length ≤ 1000) := ⟨fun u hu => by
              rcases List.mem_cons.1 hu with rfl | hu
              · omega
              · exact hP.out.1 u (List.mem_cons_of_mem _ hu), by have := hP.out.2; simpa using this⟩
            have HZ2 : Hid ((0 : Int) ≤ 0 ∧ 0 ≤ mm) := ⟨by omega, by omega⟩
            have HS1 : Hid (AsS (.slice (some ⟨g, ob, none⟩) (ys.length + 1) (c + 1)) ((y - z) :: ys) X.c (pp + mm) w (wr2.setCell ⟨g, ob, none⟩ (.int .i64 (y - z))).drew) := (hS.out.head (y - z) h1 h2 h3 h4 h6).drew
            obtain ⟨Z1, hZ1⟩ : ∃ Z1, Z1 = (wr2.setCell ⟨g, ob, none⟩ (.int .i64 (y - z))).drew := ⟨_, rfl⟩
            rw [← hZ1] at HS1
            have HZ1 := Lib.hid hZ1
            have hmin : min z y = z := by omega
            have hyz : (y - z == 0) = false := by simp; omega
            clear hZ1 hS hE hP hz h1 h2 h3 h4 h5 h6
            go_wp2_with fail
            refine (bmin_any _ _ _).mono ?_
            rintro e w3 ⟨rfl, hw3⟩
            subst hw3
            rw [hmin]
            clear hmin
            go_wp2_with fail
            go_region
            rw [← HZ1.out]
            clear HZ1 r0 r1 r2 r3 f0 f1 f2 f3 hrl k0 fk hgk
            obtain ⟨⟨r0, r1, r2, r3⟩, f0, f1, f2, f3⟩ := rowN4 HS1.out.row
            obtain ⟨g', ob', c', M', F', e', g1, g2, g3, g4, g5, g6⟩ := HS1.out.q.pos
            cases e'
            have k0 : Z1.cell? ⟨g, ob, none⟩ = some (.int .i64 (y - z)) := by rw [g4.cell (by omega), g5]
            clear g1 g2 g3 g4 g5 g6
            go_wp2_with fail
            go_roundw
            case rel => exact ⟨_, 0, _, rfl, HZ2, HP2, HE2, HS1⟩
            case measure => simp [intOf]; omega
    have b2 : (kk == 2) = false := by simp [d2]
    have d3 : kk = 3 := by omega
    have HN1 : Hid (Bi.at_ E (i + 1) = Bi.backA X mm ∧ Bi.sum (Bi.pd E) (i + 1) = pp - mm) := by
      show _ ∧ _
      rw [HNX.out.1, HNX.out.2, d3]
      exact ⟨Bi.step3 _ _, by simp; omega⟩
    by_cases c9 : X.c < mm
    · have hno : ¬ Bi.OkAt E i := fun h => by have := (HOA.out.1 h).2 d3; omega
      have HE : Hid (Bi.ansO E n = [] ∧ Bi.ansC E n = 0 ∧ Bi.ansP E n = 0 ∧ Bi.code E n = 9) := by have := HBAD.out hno; rw [HCA.out.2 HOKE.out] at this; exact this
      obtain ⟨⟨o0, o1, o2, o3⟩, j0, j1, j2, j3⟩ := rowN4 HSW.out.rr
      have hol := HSW.out.rr.lt
      have zr := Lib.hid (nrow_below (ac4 HSW.out.rr (.slice none 0 0) (.int .i64 0) (.int .i64 0) (.int .i64 9)) (nbel_alloc _ (.cells #[.int .i64 kk, .int .i64 mm] 41)))
      have zb := Lib.hid ((ac4b HSW.out.bel (Nat.le_refl _) (.slice none 0 0) (.int .i64 0) (.int .i64 0) (.int .i64 9)).alloc (by have := HSW.out.bel.size; simp; omega) (.cells #[.int .i64 kk, .int .i64 mm] 41))
      clear hno HOA HCA HNX HG2 HBAD HSV HREV HSW d1 d2 d3
      go_wp2_with fail
      refine bodyPost_ret (v := acV 0 0 9 0 none 0) ?_ rfl ⟨⟨none, 0, by rw [HE.out.1, HE.out.2.1, HE.out.2.2.1, HE.out.2.2.2]; rfl, by rw [HE.out.1]; exact Or.inl ⟨rfl, rfl, rfl⟩⟩, zb.out⟩
      obtain ⟨⟨c0, c1, c2, c3⟩, _⟩ := rowN4 zr.out
      simp only [results, Tryd.results14]
      simp [go_sem, c0, c1, c2, c3]
    · have HG3 : Hid (Bi.Good E (i + 1)) := HG2.out HOKE.out (fun _ => by omega)
      have S3 : Hid (AsS (.slice av X.o.length cv) (Bi.at_ E (i + 1)).o (Bi.at_ E (i + 1)).c (Bi.sum (Bi.pd E) (i + 1)) w (((wr.setCell ⟨w.heap.size + 1, 1, none⟩ (.int .i64 (X.c - mm))).setCell ⟨w.heap.size + 1, 2, none⟩ (.int .i64 (pp - mm))).alloc (.cells #[.int .i64 kk, .int .i64 mm] 41))) := by
        show AsS _ _ _ _ _ _
        rw [HN1.out.1, HN1.out.2]
        exact ((HSW.out.credit _).paid _).below (nbel_alloc _ _)
      clear HOA HCA HNX HG2 HBAD HSV HREV HSW d1 d2 d3
      go_wp2_with fail
      go_roundw
      case rel => exact ⟨i + 1, _, by omega, by go_num, HG3, S3⟩
      case measure => simp [intOf]; omega
end Go.Proofs.YtnbnfifgajfomaaDoor
