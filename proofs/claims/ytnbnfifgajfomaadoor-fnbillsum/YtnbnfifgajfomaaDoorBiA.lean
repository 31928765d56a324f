/-
  Accounts: the program's steps.
-/
import Derived.Test.YtnbnfifgajfomaaDoorBiQx
import Derived.Test.YtnbnfifgajfomaaDoorBiAcc
import Derived.Test.YtnbnfifgajfomaaDoorBiW
import Derived.Test.YtnbnfifgajfomaaDoorWkErr
import Derived.Test.YtnbnfifgajfomaaDoorBiB
namespace Go.Proofs.YtnbnfifgajfomaaDoor
open Go.RowKit Go.Deep

/-- An account in memory: its book, what is open, its credit; the old memory. -/
structure AcS (ga : Nat) (la : Option Addr) (n cap : Nat) (B : Nat) (v : Value) (x : Bi.Ac) (w W : World) : Prop where
  row : W.rowIs ga 89 3 (rowN [.slice la n cap, v, .int .i64 x.c])
  q : OwnQ B v x.o W
  bel : Below B w W
  lo : B ≤ ga
section
variable {ga : Nat} {la : Option Addr} {n cap B : Nat} {v v' : Value} {x : Bi.Ac} {w W W' : World}
theorem AcS.below (h : AcS ga la n cap B v x w W) (hb : Below W.heap.size W W') : AcS ga la n cap B v x w W' := ⟨nrow_below h.row hb, h.q.below hb, h.bel.trans (hb.mono (Nat.le_trans h.lo (Nat.le_of_lt h.row.lt))), h.lo⟩
theorem AcS.credit (h : AcS ga la n cap B v x w W) (c : Int) : AcS ga la n cap B v ⟨x.o, c⟩ w (W.setCell ⟨ga, 2, none⟩ (.int .i64 c)) :=
  ⟨rowN_put h.row 2 _ (by simp), h.q.same (fun k hk _ => Below.heap_setCell _ _ _ _ (by
    show k ≠ ga
    rintro rfl
    exact h.q.ne h.row (by decide) hk)), h.bel.setCell (p := ⟨ga, 2, none⟩) h.lo _, h.lo⟩
theorem AcS.open_ (h : AcS ga la n cap B v x w W) {o : List Int} (ho : OwnQ B v' o W') (hg : W.grownBy W' v.ownBlock) : AcS ga la n cap B v' ⟨o, x.c⟩ w (W'.setCell ⟨ga, 1, none⟩ v') ∧ W'.rowIs ga 89 3 (rowN [.slice la n cap, v, .int .i64 x.c]) := by
  have hr : W'.rowIs ga 89 3 (rowN [.slice la n cap, v, .int .i64 x.c]) := h.row.of_block (hg.block _ h.row.lt (fun e => h.q.ne h.row (by decide) e.symm))
  have hs := h.row.lt
  refine ⟨⟨rowN_put hr 1 v' (by simp), ho.same (fun k hk _ => Below.heap_setCell _ _ _ _ (by
    show k ≠ ga
    rintro rfl
    exact ho.ne hr (by decide) hk)), (h.bel.grown hg (by have := h.lo; omega) (fun j hj => (h.q.lt hj).1)).setCell (p := ⟨ga, 1, none⟩) h.lo _, h.lo⟩, hr⟩
end
theorem qcell2 {W : World} {g : Nat} (e : W.heap.size = g) (v : Value) (T : TypeId) : (W.alloc (.cells #[v] T)).cell? ⟨g, 0, none⟩ = some v := by subst e; exact qcell _ _ _
set_option maxRecDepth 100000 in
set_option maxHeartbeats 4000000 in
theorem abill_any (ga : Nat) (la : Option Addr) (n cap B : Nat) (v : Value) (x : Bi.Ac) (N : Nat) (m : Int) (w0 w : World) (h : AcS ga la n cap B v x w0 w) (hi : Bi.Inv x N) (hN : N ≤ 1000) (hm : 1 ≤ m ∧ m ≤ 1000000000) :
    Calls Tryd.prog 75 #[.pointer (some ⟨ga, 0, none⟩), .int .i64 m] w fun e w' => e = .returned (.tuple #[]) ∧ ∃ v', AcS ga la n cap B v' (Bi.billA x m) w0 w' := by
  obtain ⟨av, cv, rfl, _⟩ := h.q.shape
  obtain ⟨i1, hi1, hi0, hi2, hi3⟩ := info_parts bbinfo_i64
  have hc0 := hi.c0
  have hc1 : x.c ≤ 1000000000000 := by have := hi.c1; have : (N : Int) * 1000000000 ≤ 1000 * 1000000000 := Int.mul_le_mul_of_nonneg_right (by omega) (by omega); omega
  have HLE : Hid (x.o.length ≤ 1000) := Nat.le_trans hi.len hN
  obtain ⟨⟨r0, r1, r2⟩, f0, f1, f2⟩ := rowN3 h.row
  have hgl := h.row.lt
  have HS := Lib.hid h
  clear h hi
  by_cases c1 : x.c < m
  · have HE : Hid (Bi.billA x m = ⟨x.o ++ [m - x.c], 0⟩) := by
      show _ = _
      unfold Bi.billA
      rw [show min x.c m = x.c by omega, if_pos c1]
      simp
    have HSC := Lib.hid (HS.out.credit 0)
    go_enter Tryd.func75, Tryd.ntmps75
    go_wp2_with (at_builtin; refine wpList_append_q _ rfl _ _ 28 rfl i1 Tryd.underlying28 hi1 hi0 hi2 hi3 B _ x.o rfl ((HSC.out.below (nbel_alloc _ _)).q) (Nat.le_trans HLE.out (by omega)) (by have := HS.out.lo; simp; omega) ⟨w.heap.size, 0, none⟩ 1 (m - x.c) rfl (qcell2 (by simp) _ _) ?_)
    intro v' W3 hown hgrow _
    obtain ⟨hS3, hr3⟩ := (HSC.out.below (nbel_alloc _ _)).open_ hown hgrow
    have S3 := Lib.hid hS3
    obtain ⟨av2, cv2, rfl, _⟩ := hown.shape
    rw [List.length_append, List.length_singleton] at S3
    clear r0 r1 r2 f0 f1 f2 hgl
    obtain ⟨⟨r0, r1, r2⟩, f0, f1, f2⟩ := rowN3 hr3
    have hgl := hr3.lt
    clear hS3 hr3 hown hgrow HSC HS
    go_wp2_with fail
    exact bodyPost_end (v := .tuple #[]) (by simp [results, Tryd.results75, go_sem]) rfl ⟨rfl, _, by rw [HE.out]; exact S3.out⟩
  · have HE : Hid (Bi.billA x m = ⟨x.o, x.c - m⟩) := by
      show _ = _
      unfold Bi.billA
      rw [show min x.c m = m by omega]
      simp
    have HSC := Lib.hid (HS.out.credit (x.c - m))
    have c2 : m ≤ x.c := by omega
    by_cases c3 : x.c ≤ m
    · obtain rfl : m = x.c := by omega
      clear c3 c2
      have e0 : x.c - x.c = 0 := by omega
      rw [e0] at HSC
      rw [e0] at HE
      go_enter Tryd.func75, Tryd.ntmps75
      go_wp2_with fail
      exact bodyPost_end (v := .tuple #[]) (by simp [results, Tryd.results75, go_sem]) rfl ⟨rfl, _, by rw [HE.out]; exact HSC.out⟩
    · go_enter Tryd.func75, Tryd.ntmps75
      go_wp2_with fail
      exact bodyPost_end (v := .tuple #[]) (by simp [results, Tryd.results75, go_sem]) rfl ⟨rfl, _, by rw [HE.out]; exact HSC.out⟩
set_option maxRecDepth 100000 in
set_option maxHeartbeats 8000000 in
theorem apay_any (ga : Nat) (la : Option Addr) (n cap B : Nat) (v : Value) (x : Bi.Ac) (N : Nat) (m : Int) (w0 w : World) (h : AcS ga la n cap B v x w0 w) (hi : Bi.Inv x N) (hN : N ≤ 1000) (hm : 1 ≤ m ∧ m ≤ 1000000000) :
    Calls Tryd.prog 76 #[.pointer (some ⟨ga, 0, none⟩), .int .i64 m] w fun e w' => e = .returned (.tuple #[]) ∧ ∃ v', AcS ga la n cap B v' (Bi.payA x m) w0 w' := by
  have hc0 := hi.c0
  have hc1 : x.c ≤ 1000000000000 := by have := hi.c1; have : (N : Int) * 1000000000 ≤ 1000 * 1000000000 := Int.mul_le_mul_of_nonneg_right (by omega) (by omega); omega
  have HP : Hid (Bi.AllPos x.o ∧ x.o.length ≤ 1000) := ⟨hi.pos, Nat.le_trans hi.len hN⟩
  have HS := Lib.hid h
  clear h hi
  go_enter Tryd.func76, Tryd.ntmps76
  go_wp2_with fail
  go_loopw [1] (fun mv wr => ∃ (o : List Int) (z : Int) (v : Value), mv = .int .i64 z ∧ Hid (0 ≤ z ∧ z ≤ m) ∧ Hid (Bi.AllPos o ∧ o.length ≤ 1000) ∧ Hid (Bi.payO o z = Bi.payO x.o m ∧ Bi.payL o z = Bi.payL x.o m) ∧ Hid (AcS ga la n cap B v ⟨o, x.c⟩ w0 wr)) (fun _ wr => match wr.cell? ⟨ga, 1, none⟩ with | some (.slice _ k _) => k | _ => 0)
  case atStart => exact ⟨x.o, m, v, rfl, ⟨by omega, Int.le_refl _⟩, HP, ⟨rfl, rfl⟩, HS⟩
  case round =>
    obtain ⟨o, z, v, rfl, hz, hP, hE, hS⟩ := hrel
    clear HP HS
    obtain ⟨z0, z1⟩ := hz.out
    obtain ⟨⟨r0, r1, r2⟩, f0, f1, f2⟩ := rowN3 hS.out.row
    have hgl := hS.out.row.lt
    cases o with
    | nil =>
      obtain ⟨av, cv, rfl, _⟩ := hS.out.q.shape
      have HE : Hid (Bi.payA x m = ⟨[], x.c + z⟩) := by
        show _ = _
        unfold Bi.payA
        rw [← hE.out.1, ← hE.out.2]
        rfl
      have HSC := Lib.hid (hS.out.credit (x.c + z))
      clear hS hE hP
      go_wp2_with fail
      exact bodyPost_end (v := .tuple #[]) (by simp [results, Tryd.results76, go_sem]) rfl ⟨rfl, _, by rw [HE.out]; exact HSC.out⟩
    | cons y ys =>
      obtain ⟨g, ob, c, M, F, rfl, h1, h2, h3, h4, h5, h6⟩ := hS.out.q.pos
      have hy := hP.out.1 y List.mem_cons_self
      have k0 : wr.cell? ⟨g, ob, none⟩ = some (.int .i64 y) := by rw [h4.cell (by omega), h5]
      have fk := h4.frozen ob
      have hgk := h4.lt
      have hne : ¬ ys.length + 1 = 0 := by omega
      have hnz : (0 : Int) < ((ys.length + 1 : Nat) : Int) := by omega
      have hgg : g ≠ ga := fun e => hS.out.q.ne hS.out.row (by decide) (by rw [e]; rfl)
      by_cases hle : y ≤ z
      · have HE2 : Hid (Bi.payO ys (z - y) = Bi.payO x.o m ∧ Bi.payL ys (z - y) = Bi.payL x.o m) := ⟨by rw [← Bi.payO_le hle]; exact hE.out.1, by rw [← Bi.payL_le hle]; exact hE.out.2⟩
        have HP2 : Hid (Bi.AllPos ys ∧ ys.length ≤ 1000) := ⟨fun u hu => hP.out.1 u (List.mem_cons_of_mem _ hu), by have := hP.out.2; simp at this; omega⟩
        have HZ2 : Hid (0 ≤ z - y ∧ z - y ≤ m) := ⟨by omega, by omega⟩
        by_cases hc : c = 0
        · subst hc
          have hys : ys = [] := List.eq_nil_of_length_eq_zero (by omega)
          subst hys
          have HM0 := Lib.hid r1
          have S3 : Hid (AcS ga la n cap B (.slice (some ⟨g, ob, none⟩) 0 0) ⟨[], x.c⟩ w0 (wr.setCell ⟨ga, 1, none⟩ (.slice (some ⟨g, ob, none⟩) 0 0))) := (hS.out.open_ (v' := .slice (some ⟨g, ob, none⟩) 0 0) (o := []) (Or.inr ⟨g, ob, 0, M, F, rfl, h1, Nat.le_refl _, by omega, h4, fun j hj => absurd hj (by simp)⟩) ⟨rfl, rfl, rfl, Nat.le_refl _, fun _ _ _ => rfl⟩).1
          have HM : Hid ((wr.setCell ⟨ga, 1, none⟩ (.slice (some ⟨g, ob, none⟩) 0 0)).cell? ⟨ga, 1, none⟩ = some (.slice (some ⟨g, ob, none⟩) 0 0)) := S3.out.row.cell (i := 1) (by omega)
          clear hS hE hP hz h1 h2 h3 h4 h5 h6
          go_wp2_with fail
          go_roundw
          case rel => exact ⟨[], z - y, _, rfl, HZ2, HP2, HE2, S3⟩
          case measure =>
            rw [HM.out, HM0.out]
            show 0 < 0 + 1
            omega
        · have HM0 := Lib.hid r1
          have S3 : Hid (AcS ga la n cap B (.slice (some ⟨g, ob + 1, none⟩) ys.length c) ⟨ys, x.c⟩ w0 (wr.setCell ⟨ga, 1, none⟩ (.slice (some ⟨g, ob + 1, none⟩) ys.length c))) := (hS.out.open_ (v' := .slice (some ⟨g, ob + 1, none⟩) ys.length c) (o := ys) (ownQ_tail h1 h2 h3 h4 h6) ⟨rfl, rfl, rfl, Nat.le_refl _, fun _ _ _ => rfl⟩).1
          have HM : Hid ((wr.setCell ⟨ga, 1, none⟩ (.slice (some ⟨g, ob + 1, none⟩) ys.length c)).cell? ⟨ga, 1, none⟩ = some (.slice (some ⟨g, ob + 1, none⟩) ys.length c)) := S3.out.row.cell (i := 1) (by omega)
          clear hS hE hP hz h1 h2 h3 h4 h5 h6
          go_wp2_with fail
          go_roundw
          case rel => exact ⟨ys, z - y, _, rfl, HZ2, HP2, HE2, S3⟩
          case measure =>
            rw [HM.out, HM0.out]
            show ys.length < ys.length + 1
            omega
      · have HE2 : Hid (Bi.payA x m = ⟨(y - z) :: ys, x.c⟩) := by
          show _ = _
          unfold Bi.payA
          rw [← hE.out.1, ← hE.out.2, Bi.payO_gt hle, Bi.payL_gt hle]
          simp
        have S3 : Hid (AcS ga la n cap B (.slice (some ⟨g, ob, none⟩) (ys.length + 1) (c + 1)) ⟨(y - z) :: ys, x.c⟩ w0 (wr.setCell ⟨g, ob, none⟩ (.int .i64 (y - z)))) :=
          ⟨nrow_set hS.out.row (by show ga ≠ g; exact Ne.symm hgg) _, ownQ_head (y - z) h1 h2 h3 h4 h6, hS.out.bel.setCell (p := ⟨g, ob, none⟩) h1 _, hS.out.lo⟩
        clear hS hE hP hz h1 h2 h3 h4 h5 h6
        go_wp2_with fail
        exact bodyPost_ret (v := .tuple #[]) (by simp [results, Tryd.results76, go_sem]) rfl ⟨rfl, _, by rw [HE2.out]; exact S3.out⟩
/-- What money back ends with. -/
def BackEnd (ga : Nat) (la : Option Addr) (n cap B : Nat) (v : Value) (x : Bi.Ac) (m : Int) (w0 : World) (e : Ending) (w' : World) : Prop := (m ≤ x.c ∧ e = .returned .nilIface ∧ AcS ga la n cap B v (Bi.backA x m) w0 w') ∨ (¬ m ≤ x.c ∧ (∃ ev, e = .returned ev ∧ ErrIs ev 9) ∧ AcS ga la n cap B v x w0 w')
set_option maxRecDepth 100000 in
set_option maxHeartbeats 4000000 in
theorem aback_any (ga : Nat) (la : Option Addr) (n cap B : Nat) (v : Value) (x : Bi.Ac) (N : Nat) (m : Int) (w0 w : World) (h : AcS ga la n cap B v x w0 w) (hi : Bi.Inv x N) (hN : N ≤ 1000) (hm : 1 ≤ m ∧ m ≤ 1000000000) :
    Calls Tryd.prog 77 #[.pointer (some ⟨ga, 0, none⟩), .int .i64 m] w (BackEnd ga la n cap B v x m w0) := by
  have hc0 := hi.c0
  have hc1 : x.c ≤ 1000000000000 := by have := hi.c1; have : (N : Int) * 1000000000 ≤ 1000 * 1000000000 := Int.mul_le_mul_of_nonneg_right (by omega) (by omega); omega
  obtain ⟨⟨r0, r1, r2⟩, f0, f1, f2⟩ := rowN3 h.row
  have hgl := h.row.lt
  have HS := Lib.hid h
  clear h hi
  by_cases c1 : x.c < m
  · have HN : Hid (¬ m ≤ x.c) := by show ¬ _; omega
    go_enter Tryd.func77, Tryd.ntmps77
    go_wp2_with fail
    go_ret
    exact Or.inr ⟨by have := HN.out; omega, ⟨_, rfl, errIs_one ⟨#[109, 111, 110, 101, 121, 32, 98, 97, 99, 107]⟩ 9⟩, HS.out⟩
  · have HN : Hid (m ≤ x.c) := by show _ ≤ _; omega
    have HSC := Lib.hid (HS.out.credit (x.c - m))
    go_enter Tryd.func77, Tryd.ntmps77
    go_wp2_with fail
    go_ret
    exact Or.inl ⟨HN.out, rfl, HSC.out⟩
set_option maxRecDepth 100000 in
set_option maxHeartbeats 2000000 in
theorem entryRight_any (k m : Int) (w : World) :
    Calls Tryd.prog 74 #[.agg #[.int .i64 k, .int .i64 m]] w fun e w' => e = .returned (.bool (Bi.dB (Bi.EntOk k m))) ∧ Below w.heap.size w w' := by
  obtain ⟨W, hW⟩ : ∃ W, W = w.alloc (.cells #[.int .i64 k, .int .i64 m] 41) := ⟨_, rfl⟩
  have HB : Hid (Below w.heap.size w W) := by show Below _ _ _; rw [hW]; exact nbel_alloc _ _
  have HR : Hid (W.rowIs w.heap.size 41 2 (rowN [.int .i64 k, .int .i64 m])) := by show W.rowIs _ _ _ _; rw [hW]; exact rowN_alloc w _ _
  have HW := Lib.hid hW
  clear hW
  go_enter Tryd.func74, Tryd.ntmps74
  go_wp2_with fail
  rw [← HW.out]
  clear HW
  refine (biholds_any _ _ _ _).mono ?_
  rintro e w1 ⟨rfl, hb⟩
  obtain ⟨⟨r0, r1⟩, _⟩ := rowN2 (nrow_below HR.out hb)
  have HB1 : Hid (Below w.heap.size w w1) := HB.out.trans (hb.mono HB.out.size)
  clear hb
  by_cases c1 : 1 ≤ k ∧ k ≤ 3
  case neg =>
    rw [decide_eq_false c1]
    have HE : Hid (Bi.dB (Bi.EntOk k m) = false) := Bi.dB_ff (fun h => c1 h.1)
    clear c1
    go_wp2_with fail
    go_ret
    exact ⟨by rw [HE.out]; rfl, HB1.out⟩
  rw [decide_eq_true c1]
  have HC1 := Lib.hid c1
  clear c1
  go_wp2_with fail
  refine (biholds_any _ _ _ _).mono ?_
  rintro e w2 ⟨rfl, hb⟩
  have HB2 : Hid (Below w.heap.size w w2) := HB1.out.trans (hb.mono HB1.out.size)
  clear hb
  by_cases c2 : 1 ≤ m ∧ m ≤ 1000000000
  · rw [decide_eq_true c2]
    have HE : Hid (Bi.dB (Bi.EntOk k m) = true) := Bi.dB_tt ⟨HC1.out, c2⟩
    clear c2
    go_wp2_with fail
    go_ret
    exact ⟨by rw [HE.out]; rfl, HB2.out⟩
  · rw [decide_eq_false c2]
    have HE : Hid (Bi.dB (Bi.EntOk k m) = false) := Bi.dB_ff (fun h => c2 h.2)
    clear c2
    go_wp2_with fail
    go_ret
    exact ⟨by rw [HE.out]; rfl, HB2.out⟩
end Go.Proofs.YtnbnfifgajfomaaDoor
