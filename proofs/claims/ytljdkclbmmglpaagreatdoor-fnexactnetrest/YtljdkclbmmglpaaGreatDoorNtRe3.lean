/-
  What the model tells to be left at the nodes of a net.
-/
import Derived.Test.YtljdkclbmmglpaaGreatDoorNtFl3
import Derived.Test.YtljdkclbmmglpaaGreatDoorNtReM
namespace Go.Proofs.YtljdkclbmmglpaaGreatDoor
open Go.RowKit Go.Deep

/-- What stands in this walk: as in the flows', and all that lies below the reckoning's block. -/
structure SpR (n : Nt.Net) (la : Option Addr) (lk : Nat) (fa : Option Addr) (fk : Nat) (wa : Option Addr) (wk gc go i : Nat) (f : Nat → Int × Int) (z : Int) (v : Value) (W1 w W : World) : Prop where
  s : SpS n la lk fa fk wa wk gc go i f z v w W
  b : Below gc W1 W
section
variable {n : Nt.Net} {la : Option Addr} {lk : Nat} {fa : Option Addr} {fk : Nat} {wa : Option Addr} {wk gc go i : Nat} {f : Nat → Int × Int} {z : Int} {v : Value} {W1 w W W' : World}
theorem SpR.below (h : SpR n la lk fa fk wa wk gc go i f z v W1 w W) (hb : Below W.heap.size W W') : SpR n la lk fa fk wa wk gc go i f z v W1 w W' := ⟨h.s.below hb, h.b.trans (hb.mono (by have := h.s.rc.lt; omega))⟩
theorem SpR.take {z' : Int} (h : SpR n la lk fa fk wa wk gc go i f z v W1 w W) (hr : W'.rowIs gc 65 1 (rowN [.int .i64 z'])) (ho : Only gc W W') : SpR n la lk fa fk wa wk gc go i f z' v W1 w W' := ⟨h.s.take hr ho, h.b.trans (ho.below (Nat.le_refl _) (by have := h.s.rc.lt; omega))⟩
theorem SpR.grow {v' : Value} (h : SpR n la lk fa fk wa wk gc go i f z v W1 w W) (hown : W'.ownsRow (go + 1) 35 2 v' (i + 1) (frVs f (i + 1))) (hg : W.grownBy W' v.ownBlock) : SpR n la lk fa fk wa wk gc go (i + 1) f z v' W1 w (W'.setCell ⟨go, 0, none⟩ v') :=
  have hn := h.s.num
  ⟨h.s.grow hown hg, (h.b.grown hg (by have := h.s.rc.lt; omega) (fun k e => by have := (h.s.own.lt k e).1; omega)).setCell (p := ⟨go, 0, none⟩) (by show gc ≤ go; omega) _⟩
theorem SpR.ro (h : SpR n la lk fa fk wa wk gc go i f z v W1 w W) : W.rowIs go 31 3 (rowN [v, .int .i64 0, .int .i64 0]) := h.s.ro
theorem SpR.rc (h : SpR n la lk fa fk wa wk gc go i f z v W1 w W) : W.rowIs gc 65 1 (rowN [.int .i64 z]) := h.s.rc
theorem SpR.own (h : SpR n la lk fa fk wa wk gc go i f z v W1 w W) : W.ownsRow (go + 1) 35 2 v i (frVs f i) := h.s.own
theorem SpR.old (h : SpR n la lk fa fk wa wk gc go i f z v W1 w W) : Below w.heap.size w W := h.s.old
theorem SpR.congr {f' : Nat → Int × Int} (h : SpR n la lk fa fk wa wk gc go i f z v W1 w W) (ef : ∀ j, j < i → f j = f' j) : SpR n la lk fa fk wa wk gc go i f' z v W1 w W := ⟨h.s.congr rfl ef, h.b⟩
theorem SpR.belowG {gl : Nat} (h : SpR n la lk fa fk wa wk gc go i f z v W1 w W) (hb : Below gl W W') (hl : go < gl ∧ ∀ k, v.ownBlock = some k → k < gl) : SpR n la lk fa fk wa wk gc go i f z v W1 w W' :=
  have hn := h.s.num
  ⟨h.s.belowG hb hl, h.b.trans (hb.mono (by omega))⟩
end
namespace Nt
def Acc (n : Net) (hf : Nat → Int) (k : Nat) (f : Nat → Int × Int) (z : Int) : Prop := (z = 0 ∧ ∀ j, j < k → fin n hf j = some (f j)) ∨ (z = 5 ∧ ∃ j, j < nn n ∧ fin n hf j = none)
def AccI (n : Net) (hf : Nat → Int) (k i : Nat) (f : Nat → Int × Int) (z : Int) (x : Int × Int) : Prop := Fq.R x ∧ ((z = 0 ∧ (∀ j, j < k → fin n hf j = some (f j)) ∧ ra n hf k i = some x) ∨ (z = 5 ∧ ∃ j, j < nn n ∧ fin n hf j = none))
theorem accI_start {n : Net} {hf : Nat → Int} {k : Nat} {f : Nat → Int × Int} {z : Int} (h : Acc n hf k f z) : AccI n hf k 0 f z (0, 1) := by
  refine ⟨(Fq.whole_ok (z := 0) (by omega) (by omega)).2.2.2, ?_⟩
  rcases h with ⟨a, b⟩ | h
  · exact Or.inl ⟨a, b, rfl⟩
  · exact Or.inr h
theorem accI_q {n : Net} {hf : Nat → Int} {k i : Nat} {f : Nat → Int × Int} {z : Int} {x q : Int × Int} (hk : k < nn n) (hi : i < n.ln) (h : AccI n hf k i f z x) (hq : Fq.Fit q) (hr : ∀ v, ra n hf k i = some v → v = x → ra n hf k (i + 1) = okv q) : AccI n hf k (i + 1) f (Fq.tkz q z) (Fq.tkv q) := by
  refine ⟨Fq.tkv_right hq, ?_⟩
  rcases h.2 with ⟨a, b, c⟩ | ⟨a, b⟩
  · have h1 := hr x c rfl
    by_cases e : Fq.code q = 0
    · rw [Fq.tkz_ok e, Fq.tkv_ok e]; rw [okv_ok e] at h1; exact Or.inl ⟨a, b, h1⟩
    · rw [okv_bad e] at h1
      have : Fq.tkz q z = 5 := if_neg e
      rw [this]
      exact Or.inr ⟨rfl, k, hk, fin_none h1 (by omega)⟩
  · rw [a, Fq.tkz_five]; exact Or.inr ⟨rfl, b⟩
theorem accI_no {n : Net} {hf : Nat → Int} {k i : Nat} {f : Nat → Int × Int} {z : Int} {x : Int × Int} (h : AccI n hf k i f z x) (e1 : tt n i ≠ k) (e2 : fr n i ≠ k) : AccI n hf k (i + 1) f z x := by
  refine ⟨h.1, ?_⟩
  rcases h.2 with ⟨a, b, c⟩ | h
  · exact Or.inl ⟨a, b, ra_no c e1 e2⟩
  · exact Or.inr h
theorem acc_next {n : Net} {hf : Nat → Int} {k : Nat} {f : Nat → Int × Int} {z : Int} {x : Int × Int} (hk : k < nn n) (h : AccI n hf k n.ln f z x) : Acc n hf (k + 1) (updF f k (Fq.tkv (Fq.sub x (n.W k, 1)))) (Fq.tkz (Fq.sub x (n.W k, 1)) z) := by
  rcases h.2 with ⟨a, b, c⟩ | ⟨a, b⟩
  · have h1 : fin n hf k = okv (Fq.sub x (n.W k, 1)) := by unfold fin; rw [c]
    by_cases e : Fq.code (Fq.sub x (n.W k, 1)) = 0
    · rw [okv_ok e] at h1
      rw [Fq.tkz_ok e, Fq.tkv_ok e]
      refine Or.inl ⟨a, fun j hj => ?_⟩
      by_cases ej : j = k
      · subst ej; rw [updF_same]; exact h1
      · rw [updF_ne ej]; exact b j (by omega)
    · rw [okv_bad e] at h1
      have : Fq.tkz (Fq.sub x (n.W k, 1)) z = 5 := if_neg e
      rw [this]
      exact Or.inr ⟨rfl, k, hk, h1⟩
  · rw [a, Fq.tkz_five]; exact Or.inr ⟨rfl, b⟩
end Nt
set_option maxRecDepth 100000 in
set_option maxHeartbeats 16000000 in
theorem specRest_any (n : Nt.Net) (la : Option Addr) (lk : Nat) (fa : Option Addr) (fk : Nat) (wa : Option Addr) (wk : Nat) (ha : Option Addr) (hn hk : Nat) (hf : Nat → Int) (w : World) (h : NtAt n la fa wa w) (hs : NtSmall n) (hh : IsAt ha (hn * 2) hf w) (hm : hn ≤ 1048576) :
    Calls Tryz.prog 11 #[ntV n la lk fa fk wa wk, .slice ha hn hk] w fun e w' => AnsF w.heap.size (Nt.reCode n hn hf) (Nt.nn n) (Nt.cells2 (Nt.rev n hf)) e w' ∧ Below w.heap.size w w' := by
  have HA := Lib.hid h
  obtain ⟨W, hW⟩ : ∃ W, W = (w.alloc (.cells #[.int .i64 n.nodes, .slice la n.ln lk, .slice fa n.fn fk, .slice wa n.wn wk] 27)).alloc (.cells #[.slice none 0 0, .int .i64 0, .int .i64 0] 31) := ⟨_, rfl⟩
  have b0 : Below w.heap.size w W := by rw [hW]; exact ((Below.refl _ _).alloc (Nat.le_refl _) _).alloc (by simp) _
  have B0 := Lib.hid b0
  have R0 : Hid (W.rowIs w.heap.size 27 4 (rowN (ntL n la lk fa fk wa wk))) := by rw [hW]; exact nrow_below (rowN_alloc w _ _) (nbel_alloc _ _)
  have O0 : Hid (W.rowIs (w.heap.size + 1) 31 3 (rowN (noL none 0 0 0 0))) := by rw [hW]; exact rowN_alloc' (by simp) _ _
  have HX := Lib.hid (specFlows_any n la lk fa fk wa wk ha hn hk hf W (h.below b0) hs (hh.below b0) hm)
  have HW := Lib.hid hW
  have HWS : Hid (W.heap.size = w.heap.size + 2) := by show _ = _; rw [hW]; simp
  clear h hh hs hW b0
  go_enter Tryz.func11, Tryz.ntmps11
  go_wp2_with fail
  rw [← HW.out]
  refine HX.out.mono ?_
  rintro e w1 ⟨⟨a5, k5, rfl, hL⟩, hb⟩
  have B1 : Hid (Below w.heap.size w w1) := B0.out.trans (hb.mono B0.out.size)
  have R1 := Lib.hid (nrow_below R0.out hb)
  have O1 := Lib.hid (nrow_below O0.out hb)
  clear hb B0 R0 O0 HX
  obtain ⟨⟨r0, r1, r2, r3⟩, _⟩ := rowN4 R1.out
  obtain ⟨⟨p0, p1, p2⟩, z0, z1, z2⟩ := rowN3 O1.out
  have lw : w.heap.size + 1 < w1.heap.size := O1.out.lt
  by_cases hc : Nt.flCode n hn hf = 0
  case neg =>
    rw [if_neg hc] at hL ⊢
    have HC := Lib.hid (Nt.reCode_bad hc)
    have HN := Lib.hid hc
    obtain ⟨c5, hc5⟩ : ∃ c5, c5 = Nt.flCode n hn hf := ⟨_, rfl⟩
    have H5 := Lib.hid hc5
    rw [← hc5] at hc ⊢
    have hcz : (c5 != 0) = true := by simp [hc]
    have ea : a5 = none ∧ k5 = 0 ∨ ∃ g, a5 = some ⟨g, 0, none⟩ ∧ W.heap.size ≤ g ∧ g < w1.heap.size := by
      rcases hL with ⟨e1, _, e3⟩ | ⟨g, e, h1, h2⟩
      · exact Or.inl ⟨e1, e3⟩
      · exact Or.inr ⟨g, e, h1, h2.lt⟩
    have HE := Lib.hid ea
    have HLL := Lib.hid hL
    clear hc hc5 hL ea
    go_wp2_with fail
    obtain ⟨⟨x0, x1, x2⟩, _⟩ := rowN3 (nrow_below (rowN_put (rowN_put (rowN_put O1.out 0 (.slice a5 0 k5) (by simp)) 1 (.int .i64 0) (by simp)) 2 (.int .i64 c5) (by simp)) (nbel_alloc _ (.cells #[.slice a5 0 k5, .int .i64 0, .int .i64 c5] 31)))
    refine bodyPost_ret (v := noV a5 0 k5 0 c5) (by simp [results, Tryz.results11, go_sem, x0, x1, x2]) rfl ⟨⟨a5, k5, by rw [HC.out, if_neg HN.out, H5.out], ?_⟩, ?_⟩
    · rw [HC.out, if_neg HN.out]
      refine LsOwn.low (B := W.heap.size) ?_ (by have := HWS.out; omega)
      rcases HLL.out with k | ⟨g, e, h1, h2⟩
      · exact Or.inl k
      · have hne : g ≠ w.heap.size + 1 := by have := HWS.out; omega
        refine Or.inr ⟨g, e, h1, ?_⟩
        have h3 := (h2.congr (f' := Nt.cells2 (Nt.rev n hf)) (fun j hj => absurd hj (by omega)))
        refine h3.block ?_
        refine ((nbel_alloc _ _).block g ?_).trans ((Below.heap_setCell _ ⟨w.heap.size + 1, 2, none⟩ _ _ hne).trans ((Below.heap_setCell _ ⟨w.heap.size + 1, 1, none⟩ _ _ hne).trans (Below.heap_setCell _ ⟨w.heap.size + 1, 0, none⟩ _ _ hne)))
        simpa using h2.lt
    · exact (((B1.out.setCell (p := ⟨w.heap.size + 1, 0, none⟩) (Nat.le_succ _) _).setCell (p := ⟨w.heap.size + 1, 1, none⟩) (Nat.le_succ _) _).setCell (p := ⟨w.heap.size + 1, 2, none⟩) (Nat.le_succ _) _).alloc (by simpa using B1.out.size) _
  case pos =>
  rw [if_pos hc] at hL ⊢
  have HC0 := Lib.hid hc
  have RF := Lib.hid (Nt.reFit hc)
  rw [hc]
  clear hc
  have hln := RF.out.f.r.ln
  obtain ⟨hnn, hn1, hn2⟩ := RF.out.f.r.nn
  have hwn : Hid (n.wn = Nt.nn n) := by have := RF.out.f.r.wn; show _ = _; omega
  have HNN := Lib.hid hnn
  clear hnn
  obtain ⟨W1, hW1⟩ : ∃ W1, W1 = w1.alloc (.cells #[.slice a5 n.ln k5, .int .i64 0, .int .i64 0] 31) := ⟨_, rfl⟩
  have B2 : Hid (Below w.heap.size w W1) := by rw [hW1]; exact B1.out.alloc B1.out.size _
  have R2 : Hid (W1.rowIs w.heap.size 27 4 (rowN (ntL n la lk fa fk wa wk))) := by rw [hW1]; exact nrow_below R1.out (nbel_alloc _ _)
  have O2 : Hid (W1.rowIs (w.heap.size + 1) 31 3 (rowN (noL none 0 0 0 0))) := by rw [hW1]; exact nrow_below O1.out (nbel_alloc _ _)
  have P5 : Hid (W1.rowIs w1.heap.size 31 3 (rowN (noL a5 n.ln k5 0 0))) := by rw [hW1]; exact rowN_alloc w1 _ _
  have F5 : Hid (IsAt a5 (n.ln * 2) (Nt.cells2 (Nt.flv n hf)) W1) := by rw [hW1]; exact (hL.below (nbel_alloc _ _)).at_
  have Z1 : Hid (W1.heap.size = w1.heap.size + 1) := by show _ = _; rw [hW1]; simp
  have S0 : Hid (SpR n la lk fa fk wa wk W1.heap.size (W1.heap.size + 1) 0 (fun _ => (0, 1)) 0 (.slice none 0 0) W1 w ((W1.alloc (.cells #[.int .i64 0] 65)).alloc (.cells #[.slice none 0 0, .int .i64 0, .int .i64 0] 31))) :=
    ⟨⟨nrow_below (nrow_below R2.out (nbel_alloc _ _)) (nbel_alloc _ _), nrow_below (nrow_below O2.out (nbel_alloc _ _)) (nbel_alloc _ _), (B2.out.alloc B2.out.size _).alloc (by have := B2.out.size; simp; omega) _, nrow_below (rowN_alloc _ _ _) (nbel_alloc _ _), rowN_alloc' (by simp) _ _, World.ownsRow_nil _ _ _ _, by have := O2.out.lt; omega⟩, ((Below.refl _ _).alloc (Nat.le_refl _) _).alloc (by simp) _⟩
  have HW1 := Lib.hid hW1
  clear hW1 hL B1 R1 O1
  go_wp2_with fail
  rw [← HW1.out]
  clear r0 r1 r2 r3 p0 p1 p2 z0 z1 z2 lw HW1
  rw [Z1.out] at S0
  generalize w1.heap.size = g5 at *
  obtain ⟨gc, hgc⟩ : ∃ gc, gc = g5 + 1 := ⟨_, rfl⟩
  have L5 : Hid (g5 < gc) := by show _ < _; omega
  rw [← hgc] at S0 Z1 ⊢
  clear hgc
  obtain ⟨go, hgo⟩ : ∃ go, go = gc + 1 := ⟨_, rfl⟩
  rw [← hgo] at S0 ⊢
  clear hgo
  have A0 : Hid (Nt.Acc n hf 0 (fun _ => (0, 1)) 0) := Or.inl ⟨rfl, fun j hj => absurd hj (Nat.not_lt_zero _)⟩
  go_loopw [8] (fun iv wr => ∃ (k : Nat), k ≤ Nt.nn n ∧ iv = .int .i64 k ∧ ∃ f z v, Hid (SpR n la lk fa fk wa wk gc go k f z v W1 w wr) ∧ Hid (Nt.Acc n hf k f z)) (fun iv _ => Nt.nn n - (intOf iv).toNat)
  case atStart => exact ⟨0, Nat.zero_le _, rfl, _, _, _, S0, A0⟩
  case round =>
  obtain ⟨k, hk2, rfl, f, z, v, hS, hA⟩ := hrel
  clear S0 A0
  obtain ⟨⟨r0, r1, r2, r3⟩, _⟩ := rowN4 hS.out.s.row
  rw [HNN.out] at r0
  by_cases hkt : k < Nt.nn n
  case neg =>
    obtain rfl : k = Nt.nn n := by omega
    obtain ⟨⟨p0, p1, p2⟩, z0, z1, z2⟩ := rowN3 hS.out.s.res
    obtain ⟨⟨q0, q1, q2⟩, _⟩ := rowN3 hS.out.ro
    have hnum := hS.out.s.num
    have zr : w.heap.size + 1 < wr.heap.size := hS.out.s.res.lt
    have zo : go < wr.heap.size := hS.out.ro.lt
    have zc : gc < wr.heap.size := hS.out.rc.lt
    have rc0 := hS.out.rc.cell (i := 0) (by omega)
    simp only [rowN, List.getD_cons_zero] at rc0
    rcases hA.out with ⟨hz, hall⟩ | ⟨hz, j, hj, hbad⟩
    · have HC := Lib.hid (Nt.reCode_0 HC0.out (fun k hk => by rw [hall k hk]; rfl))
      have S5 := Lib.hid (hS.out.congr (f' := Nt.rev n hf) (fun j hj => by unfold Nt.rev; rw [hall j hj]; rfl))
      rw [hz] at rc0
      clear hall hS hA hz
      obtain ⟨a, c, hv, hL⟩ := fr_own S5.out.own
      subst hv
      have HL := Lib.hid hL
      clear hL
      go_wp2_with fail
      obtain ⟨⟨x0, x1, x2⟩, _⟩ := rowN3 (rowN_put (rowN_put (rowN_put S5.out.s.res 0 (.slice a (Nt.nn n) c) (by simp)) 1 (.int .i64 0) (by simp)) 2 (.int .i64 0) (by simp))
      refine bodyPost_ret (v := noV a (Nt.nn n) c 0 0) (by simp [results, Tryz.results11, go_sem, x0, x1, x2]) rfl ⟨⟨a, c, by rw [HC.out, if_pos rfl], ?_⟩, ?_⟩
      · rw [HC.out, if_pos rfl]
        refine LsOwn.low (HL.out.same (fun k h1 h2 => ?_)) (by omega)
        have hne : k ≠ w.heap.size + 1 := by omega
        exact (Below.heap_setCell _ ⟨w.heap.size + 1, 2, none⟩ _ _ hne).trans ((Below.heap_setCell _ ⟨w.heap.size + 1, 1, none⟩ _ _ hne).trans (Below.heap_setCell _ ⟨w.heap.size + 1, 0, none⟩ _ _ hne))
      · exact ((S5.out.old.setCell (p := ⟨w.heap.size + 1, 0, none⟩) (Nat.le_succ _) _).setCell (p := ⟨w.heap.size + 1, 1, none⟩) (Nat.le_succ _) _).setCell (p := ⟨w.heap.size + 1, 2, none⟩) (Nat.le_succ _) _
    · rw [hz] at rc0
      have HC := Lib.hid (Nt.reCode_5 HC0.out hj hbad)
      clear hz hj hbad hA
      go_wp2_with fail
      obtain ⟨⟨x0, x1, x2⟩, _⟩ := rowN3 (rowN_put (rowN_put (rowN_put hS.out.s.res 0 (.slice none 0 0) (by simp)) 1 (.int .i64 0) (by simp)) 2 (.int .i64 5) (by simp))
      exact bodyPost_ret (v := noV none 0 0 0 5) (by simp [results, Tryz.results11, go_sem, x0, x1, x2]) rfl ⟨by rw [HC.out]; exact AnsF.bad (by decide), ((hS.out.old.setCell (p := ⟨w.heap.size + 1, 0, none⟩) (Nat.le_succ _) _).setCell (p := ⟨w.heap.size + 1, 1, none⟩) (Nat.le_succ _) _).setCell (p := ⟨w.heap.size + 1, 2, none⟩) (Nat.le_succ _) _⟩
  have hktz : (k : Int) < (Nt.nn n : Int) := by omega
  have SA : Hid (SpR n la lk fa fk wa wk gc go k f z v W1 w (wr.alloc (.cells #[.int .i64 0, .int .i64 1] 35))) := hS.out.below (nbel_alloc _ _)
  have RV : Hid ((wr.alloc (.cells #[.int .i64 0, .int .i64 1] 35)).rowIs wr.heap.size 35 2 (rowN [.int .i64 0, .int .i64 1])) := rowN_alloc wr _ _
  have LO : Hid (go < wr.heap.size ∧ ∀ q, v.ownBlock = some q → q < wr.heap.size) := ⟨hS.out.ro.lt, fun q hq => (hS.out.own.lt q hq).2⟩
  have NUM : Hid (gc < go ∧ go < wr.heap.size) := ⟨hS.out.s.num.2, hS.out.ro.lt⟩
  have AI := Lib.hid (Nt.accI_start hA.out)
  have zw0 : w.heap.size < wr.heap.size := hS.out.s.row.lt
  clear hS hA
  go_wp2_with fail
  clear r0 r1 r2 r3 zw0
  generalize wr.heap.size = gv at *
  go_loopw [10] (fun iv wr => ∃ (i : Nat), i ≤ n.ln ∧ iv = .int .i64 i ∧ ∃ z x, Hid (SpR n la lk fa fk wa wk gc go k f z v W1 w wr) ∧ Hid (wr.rowIs gv 35 2 (rowN [.int .i64 x.1, .int .i64 x.2])) ∧ Hid (Nt.AccI n hf k i f z x)) (fun iv _ => n.ln - (intOf iv).toNat)
  case atStart => exact ⟨0, Nat.zero_le _, rfl, z, (0, 1), SA, RV, AI⟩
  case round =>
  obtain ⟨i, hi, rfl, z, x, hS, hR, hA⟩ := hrel
  clear SA RV AI
  obtain ⟨⟨r0, r1, r2, r3⟩, _⟩ := rowN4 hS.out.s.row
  by_cases hlt : i < n.ln
  case pos =>
    have hltz : (i : Int) < (n.ln : Int) := by omega
    obtain ⟨b, e, c0, c1, c2⟩ := (HA.out.below hS.out.old).l.at3 hlt
    obtain ⟨ef, hfr⟩ := RF.out.f.r.fr hlt
    obtain ⟨et, htt⟩ := RF.out.f.r.tt hlt
    rw [ef] at c0
    rw [et] at c1
    subst e
    clear ef et
    obtain ⟨bF, eF, y0, y1⟩ := F5.out.at2 hlt
    rw [Nt.cells2_0] at y0
    rw [Nt.cells2_1] at y1
    have zF0 : bF < W1.heap.size := World.block_lt_of_cell? _ _ y0
    have zF : bF < gc := by have := Z1.out; omega
    have D := Lib.hid (And.intro y0 (And.intro y1 zF))
    have P5b := P5
    rw [eF] at P5b
    have RFL := Lib.hid (RF.out.fl hlt)
    clear y0 y1 zF zF0 eF
    by_cases et : Nt.tt n i = k
    case pos =>
      have etz : ((Nt.tt n i : Int) == (k : Int)) = true := by simp [et]
      have HT := Lib.hid et
      clear et
      go_wp2_with fail
      clear c0 c1 c2 r0 r1 r2 r3
      refine wp_region_held_drew (S := fun V => Below gc W1 V) (by kernel_rfl) hS.out.b.drew (fun hHeld => ?_)
      obtain ⟨Z, hZ⟩ : ∃ Z, Z = wr.drew := ⟨_, rfl⟩
      have SP : Hid (SpR n (some ⟨b, 0, none⟩) lk fa fk wa wk gc go k f z v W1 w Z) := by rw [hZ]; exact hS.out.below (Below.refl _ _).drew
      have RV : Hid (Z.rowIs gv 35 2 (rowN [.int .i64 x.1, .int .i64 x.2])) := by rw [hZ]; exact nrow_below hR.out (Below.refl _ _).drew
      rw [← hZ] at hHeld ⊢
      clear hZ hS hR
      refine take_do (i := 0) (v := (.pointer (some ⟨gc, 0, none⟩))) rfl (by kernel_rfl) (by kernel_rfl) (by kernel_rfl) (fun _ _ _ h => h) (by rfl) ?_ (by assumption) ?_
      · intro w hSw
        skip
        go_simp
      simp only [Act.put, List.setIfInBounds_toArray, List.set_cons_zero, List.set_cons_succ]
      refine take_do (i := 2) (v := (.pointer (some ⟨g5, 0, none⟩))) rfl (by kernel_rfl) (by kernel_rfl) (by kernel_rfl) (fun _ _ _ h => h) (by rfl) ?_ (by assumption) ?_
      · intro w hSw
        skip
        go_simp
      simp only [Act.put, List.setIfInBounds_toArray, List.set_cons_zero, List.set_cons_succ]
      refine take_do (i := 3) (v := (.slice (some ⟨bF, 0, none⟩) n.ln k5)) rfl (by kernel_rfl) (by kernel_rfl) (by kernel_rfl) (fun _ _ _ h => h) (by rfl) ?_ (by assumption) ?_
      · intro w hSw
        obtain ⟨⟨p0, p1, p2⟩, _⟩ := rowN3 (P5b.out.of_block (hSw.block _ L5.out))
        go_simp
      simp only [Act.put, List.setIfInBounds_toArray, List.set_cons_zero, List.set_cons_succ]
      refine take_do (i := 4) (v := (.int .i64 i)) rfl (by kernel_rfl) (by kernel_rfl) (by kernel_rfl) (fun _ _ _ h => h) (by rfl) ?_ (by assumption) ?_
      · intro w hSw
        skip
        go_simp
      simp only [Act.put, List.setIfInBounds_toArray, List.set_cons_zero, List.set_cons_succ]
      refine take_do (i := 5) (v := (.pointer (some ⟨bF, i * 2, none⟩))) rfl (by kernel_rfl) (by kernel_rfl) (by kernel_rfl) (fun _ _ _ h => h) (by rfl) ?_ (by assumption) ?_
      · intro w hSw
        skip
        go_simp
      simp only [Act.put, List.setIfInBounds_toArray, List.set_cons_zero, List.set_cons_succ]
      refine take_do (i := 6) (v := (frV (Nt.flv n hf i))) rfl (by kernel_rfl) (by kernel_rfl) (by kernel_rfl) (fun _ _ _ h => h) (by rfl) ?_ (by assumption) ?_
      · intro w hSw
        have y0 := (hSw.cell (p := ⟨bF, i * 2, none⟩) D.out.2.2).trans D.out.1; have y1 := (hSw.cell (p := ⟨bF, i * 2 + 1, none⟩) D.out.2.2).trans D.out.2.1
        go_simp
      simp only [Act.put, List.setIfInBounds_toArray, List.set_cons_zero, List.set_cons_succ]
      obtain ⟨⟨t0, t1⟩, _⟩ := rowN2 RV.out
      refine take_call (i := 1) rfl (by kernel_rfl) (fun K2 hK => ?_)
      go_simp
      refine hK.out _ _ hHeld (fun hHeld2 => ?_)
      clear hK hHeld t0 t1
      have hHeld := hHeld2
      clear hHeld2
      refine take_call (i := 7) rfl (by kernel_rfl) (fun K2 hK => ?_)
      go_simp
      refine (nspecAdd x (Nt.flv n hf i) _ hA.out.1 RFL.out).mono ?_
      rintro e Q1 ⟨rfl, hb⟩
      have SP1 := Lib.hid (SP.out.below hb)
      have RV1 := Lib.hid (nrow_below RV.out hb)
      go_wp2_with fail
      refine hK.out _ _ SP1.out.b (fun hHeld2 => ?_)
      clear hK hHeld hb SP RV
      have hHeld := hHeld2
      clear hHeld2
      refine take_call (i := 8) rfl (by kernel_rfl) (fun K2 hK => ?_)
      go_simp
      refine (take_any gc (Fq.add x (Nt.flv n hf i)) _ _ SP1.out.rc).mono ?_
      rintro e Q2 ⟨rfl, hr, ho⟩
      have SP2 := Lib.hid (SP1.out.take hr ho)
      have RV2 := Lib.hid (RV1.out.of_block (ho.block _ RV1.out.lt (by have h1 := NUM.out; omega)))
      go_wp2_with fail
      refine hK.out _ _ SP2.out.b (fun hHeld2 => ?_)
      clear hK hHeld hr ho SP1 RV1
      have hHeld := hHeld2
      clear hHeld2
      obtain ⟨⟨o0, o1⟩, z0, z1⟩ := rowN2 RV2.out
      have l0 := RV2.out.lt
      obtain ⟨WZ, hWZ⟩ : ∃ WZ, WZ = (Q2.setCell ⟨gv, 0, none⟩ (.int .i64 (Fq.tkv (Fq.add x (Nt.flv n hf i))).1)).setCell ⟨gv, 1, none⟩ (.int .i64 (Fq.tkv (Fq.add x (Nt.flv n hf i))).2) := ⟨_, rfl⟩
      have hbz : Below gv Q2 WZ := by rw [hWZ]; exact ((Below.refl _ _).setCell (p := ⟨gv, 0, none⟩) (Nat.le_refl _) _).setCell (p := ⟨gv, 1, none⟩) (Nat.le_refl _) _
      have SZ := Lib.hid (SP2.out.belowG hbz LO.out)
      have RZ : Hid (WZ.rowIs gv 35 2 (rowN [.int .i64 (Fq.tkv (Fq.add x (Nt.flv n hf i))).1, .int .i64 (Fq.tkv (Fq.add x (Nt.flv n hf i))).2])) := by show World.rowIs _ _ _ _ _; rw [hWZ]; exact rowN_put (rowN_put RV2.out 0 _ (by simp)) 1 _ (by simp)
      have HWZ := Lib.hid hWZ
      clear hWZ hbz
      refine take_call (i := 9) rfl (by kernel_rfl) (fun K2 hK => ?_)
      go_simp
      rw [← HWZ.out]
      refine hK.out _ _ SZ.out.b (fun hHeld2 => ?_)
      clear hK hHeld hHeld2 HWZ o0 o1 z0 z1 l0 SP2 RV2
      refine wpAnyH_done (by kernel_rfl) ?_ _
      go_wp2_with fail
      go_roundw
      case rel => exact ⟨i + 1, by omega, by go_num, _, _, SZ, RZ, Nt.accI_q hkt hlt hA.out (Fq.add_fit hA.out.1 RFL.out) (fun v hv e => by subst e; exact Nt.ra_tt hv HT.out)⟩
      case measure => simp [intOf]; omega
    case neg =>
      have etz : ((Nt.tt n i : Int) == (k : Int)) = false := by simp; omega
      have HT := Lib.hid et
      clear et
      by_cases ef : Nt.fr n i = k
      case pos =>
        have efz : ((Nt.fr n i : Int) == (k : Int)) = true := by simp [ef]
        have HFK := Lib.hid ef
        clear ef
        go_wp2_with fail
        clear c0 c1 c2 r0 r1 r2 r3
        refine wp_region_held_drew (S := fun V => Below gc W1 V) (by kernel_rfl) hS.out.b.drew (fun hHeld => ?_)
        obtain ⟨Z, hZ⟩ : ∃ Z, Z = wr.drew := ⟨_, rfl⟩
        have SP : Hid (SpR n (some ⟨b, 0, none⟩) lk fa fk wa wk gc go k f z v W1 w Z) := by rw [hZ]; exact hS.out.below (Below.refl _ _).drew
        have RV : Hid (Z.rowIs gv 35 2 (rowN [.int .i64 x.1, .int .i64 x.2])) := by rw [hZ]; exact nrow_below hR.out (Below.refl _ _).drew
        rw [← hZ] at hHeld ⊢
        clear hZ hS hR
        refine take_do (i := 0) (v := (.pointer (some ⟨gc, 0, none⟩))) rfl (by kernel_rfl) (by kernel_rfl) (by kernel_rfl) (fun _ _ _ h => h) (by rfl) ?_ (by assumption) ?_
        · intro w hSw
          skip
          go_simp
        simp only [Act.put, List.setIfInBounds_toArray, List.set_cons_zero, List.set_cons_succ]
        refine take_do (i := 2) (v := (.pointer (some ⟨g5, 0, none⟩))) rfl (by kernel_rfl) (by kernel_rfl) (by kernel_rfl) (fun _ _ _ h => h) (by rfl) ?_ (by assumption) ?_
        · intro w hSw
          skip
          go_simp
        simp only [Act.put, List.setIfInBounds_toArray, List.set_cons_zero, List.set_cons_succ]
        refine take_do (i := 3) (v := (.slice (some ⟨bF, 0, none⟩) n.ln k5)) rfl (by kernel_rfl) (by kernel_rfl) (by kernel_rfl) (fun _ _ _ h => h) (by rfl) ?_ (by assumption) ?_
        · intro w hSw
          obtain ⟨⟨p0, p1, p2⟩, _⟩ := rowN3 (P5b.out.of_block (hSw.block _ L5.out))
          go_simp
        simp only [Act.put, List.setIfInBounds_toArray, List.set_cons_zero, List.set_cons_succ]
        refine take_do (i := 4) (v := (.int .i64 i)) rfl (by kernel_rfl) (by kernel_rfl) (by kernel_rfl) (fun _ _ _ h => h) (by rfl) ?_ (by assumption) ?_
        · intro w hSw
          skip
          go_simp
        simp only [Act.put, List.setIfInBounds_toArray, List.set_cons_zero, List.set_cons_succ]
        refine take_do (i := 5) (v := (.pointer (some ⟨bF, i * 2, none⟩))) rfl (by kernel_rfl) (by kernel_rfl) (by kernel_rfl) (fun _ _ _ h => h) (by rfl) ?_ (by assumption) ?_
        · intro w hSw
          skip
          go_simp
        simp only [Act.put, List.setIfInBounds_toArray, List.set_cons_zero, List.set_cons_succ]
        refine take_do (i := 6) (v := (frV (Nt.flv n hf i))) rfl (by kernel_rfl) (by kernel_rfl) (by kernel_rfl) (fun _ _ _ h => h) (by rfl) ?_ (by assumption) ?_
        · intro w hSw
          have y0 := (hSw.cell (p := ⟨bF, i * 2, none⟩) D.out.2.2).trans D.out.1; have y1 := (hSw.cell (p := ⟨bF, i * 2 + 1, none⟩) D.out.2.2).trans D.out.2.1
          go_simp
        simp only [Act.put, List.setIfInBounds_toArray, List.set_cons_zero, List.set_cons_succ]
        obtain ⟨⟨t0, t1⟩, _⟩ := rowN2 RV.out
        refine take_call (i := 1) rfl (by kernel_rfl) (fun K2 hK => ?_)
        go_simp
        refine hK.out _ _ hHeld (fun hHeld2 => ?_)
        clear hK hHeld t0 t1
        have hHeld := hHeld2
        clear hHeld2
        refine take_call (i := 7) rfl (by kernel_rfl) (fun K2 hK => ?_)
        go_simp
        refine (nspecSub x (Nt.flv n hf i) _ hA.out.1 RFL.out).mono ?_
        rintro e Q1 ⟨rfl, hb⟩
        have SP1 := Lib.hid (SP.out.below hb)
        have RV1 := Lib.hid (nrow_below RV.out hb)
        go_wp2_with fail
        refine hK.out _ _ SP1.out.b (fun hHeld2 => ?_)
        clear hK hHeld hb SP RV
        have hHeld := hHeld2
        clear hHeld2
        refine take_call (i := 8) rfl (by kernel_rfl) (fun K2 hK => ?_)
        go_simp
        refine (take_any gc (Fq.sub x (Nt.flv n hf i)) _ _ SP1.out.rc).mono ?_
        rintro e Q2 ⟨rfl, hr, ho⟩
        have SP2 := Lib.hid (SP1.out.take hr ho)
        have RV2 := Lib.hid (RV1.out.of_block (ho.block _ RV1.out.lt (by have h1 := NUM.out; omega)))
        go_wp2_with fail
        refine hK.out _ _ SP2.out.b (fun hHeld2 => ?_)
        clear hK hHeld hr ho SP1 RV1
        have hHeld := hHeld2
        clear hHeld2
        obtain ⟨⟨o0, o1⟩, z0, z1⟩ := rowN2 RV2.out
        have l0 := RV2.out.lt
        obtain ⟨WZ, hWZ⟩ : ∃ WZ, WZ = (Q2.setCell ⟨gv, 0, none⟩ (.int .i64 (Fq.tkv (Fq.sub x (Nt.flv n hf i))).1)).setCell ⟨gv, 1, none⟩ (.int .i64 (Fq.tkv (Fq.sub x (Nt.flv n hf i))).2) := ⟨_, rfl⟩
        have hbz : Below gv Q2 WZ := by rw [hWZ]; exact ((Below.refl _ _).setCell (p := ⟨gv, 0, none⟩) (Nat.le_refl _) _).setCell (p := ⟨gv, 1, none⟩) (Nat.le_refl _) _
        have SZ := Lib.hid (SP2.out.belowG hbz LO.out)
        have RZ : Hid (WZ.rowIs gv 35 2 (rowN [.int .i64 (Fq.tkv (Fq.sub x (Nt.flv n hf i))).1, .int .i64 (Fq.tkv (Fq.sub x (Nt.flv n hf i))).2])) := by show World.rowIs _ _ _ _ _; rw [hWZ]; exact rowN_put (rowN_put RV2.out 0 _ (by simp)) 1 _ (by simp)
        have HWZ := Lib.hid hWZ
        clear hWZ hbz
        refine take_call (i := 9) rfl (by kernel_rfl) (fun K2 hK => ?_)
        go_simp
        rw [← HWZ.out]
        refine hK.out _ _ SZ.out.b (fun hHeld2 => ?_)
        clear hK hHeld hHeld2 HWZ o0 o1 z0 z1 l0 SP2 RV2
        refine wpAnyH_done (by kernel_rfl) ?_ _
        go_wp2_with fail
        go_roundw
        case rel => exact ⟨i + 1, by omega, by go_num, _, _, SZ, RZ, Nt.accI_q hkt hlt hA.out (Fq.sub_fit hA.out.1 RFL.out) (fun v hv e => by subst e; exact Nt.ra_fr hv HT.out HFK.out)⟩
        case measure => simp [intOf]; omega
      case neg =>
        have efz : ((Nt.fr n i : Int) == (k : Int)) = false := by simp; omega
        have HFK := Lib.hid ef
        clear ef
        go_wp2_with fail
        go_roundw
        case rel => exact ⟨i + 1, by omega, by go_num, z, x, hS, hR, Nt.accI_no hA.out HT.out HFK.out⟩
        case measure => simp [intOf]; omega
  obtain rfl : i = n.ln := by omega
  obtain ⟨b, e, c0⟩ := (HA.out.below B2.out).w.at1 (i := k) (by rw [hwn.out]; exact hkt)
  subst e
  have zW0 : b < W1.heap.size := World.block_lt_of_cell? _ _ c0
  have zW : b < gc := by have := Z1.out; omega
  have D := Lib.hid (And.intro c0 zW)
  have hwz : (k : Int) < (n.wn : Int) := by have := hwn.out; omega
  have zRW : Hid (w.heap.size < gc) := by have := hS.out.s.num; show _ < _; omega
  have AN := Lib.hid (Nt.acc_next hkt hA.out)
  have RX := Lib.hid hA.out.1
  have RW := Lib.hid (Nt.want_right RF.out.f.r hkt)
  have WB := Lib.hid (RF.out.f.r.w k (by rw [hwn.out]; exact hkt))
  have hk40 : k ≤ 12 := by omega
  obtain ⟨V0, hV0⟩ : ∃ V0, V0 = wr := ⟨_, rfl⟩
  have SP : Hid (SpR n la lk fa fk (some ⟨b, 0, none⟩) wk gc go k (Nt.updF f k (Fq.tkv (Fq.sub x (n.W k, 1)))) z v W1 w V0) := by rw [hV0]; exact hS.out.congr (fun j hj => (Nt.updF_ne (by omega)).symm)
  rw [← hV0] at hR
  clear hA c0 zW zW0 hS
  go_wp2_with fail
  rw [← hV0]
  clear hV0 r0 r1 r2 r3
  refine wp_region_held_drew (S := fun V => Below gc W1 V ∧ V.rowIs gv 35 2 (rowN [.int .i64 x.1, .int .i64 x.2])) (by kernel_rfl) ⟨SP.out.b.drew, nrow_below hR.out (Below.refl _ _).drew⟩ (fun hHeld => ?_)
  obtain ⟨Z, hZ⟩ : ∃ Z, Z = V0.drew := ⟨_, rfl⟩
  replace SP := Lib.hid (SP.out.below (Below.refl _ _).drew)
  rw [← hZ] at hHeld SP ⊢
  clear hZ
  refine take_do (i := 0) (v := (.pointer (some ⟨go, 0, none⟩))) rfl (by kernel_rfl) (by kernel_rfl) (by kernel_rfl) (fun _ _ _ h => h) (by rfl) ?_ (by assumption) ?_
  · intro w hSw
    skip
    go_simp
  simp only [Act.put, List.setIfInBounds_toArray, List.set_cons_zero, List.set_cons_succ]
  refine take_do (i := 2) (v := (.pointer (some ⟨gc, 0, none⟩))) rfl (by kernel_rfl) (by kernel_rfl) (by kernel_rfl) (fun _ _ _ h => h) (by rfl) ?_ (by assumption) ?_
  · intro w hSw
    skip
    go_simp
  simp only [Act.put, List.setIfInBounds_toArray, List.set_cons_zero, List.set_cons_succ]
  refine take_do (i := 3) (v := (frV x)) rfl (by kernel_rfl) (by kernel_rfl) (by kernel_rfl) (fun _ _ _ h => h) (by rfl) ?_ (by assumption) ?_
  · intro w hSw
    obtain ⟨⟨y0, y1⟩, _⟩ := rowN2 hSw.2
    go_simp
  simp only [Act.put, List.setIfInBounds_toArray, List.set_cons_zero, List.set_cons_succ]
  refine take_do (i := 4) (v := (.pointer (some ⟨gc, 0, none⟩))) rfl (by kernel_rfl) (by kernel_rfl) (by kernel_rfl) (fun _ _ _ h => h) (by rfl) ?_ (by assumption) ?_
  · intro w hSw
    skip
    go_simp
  simp only [Act.put, List.setIfInBounds_toArray, List.set_cons_zero, List.set_cons_succ]
  refine take_do (i := 5) (v := (.pointer (some ⟨w.heap.size, 3, none⟩))) rfl (by kernel_rfl) (by kernel_rfl) (by kernel_rfl) (fun _ _ _ h => h) (by rfl) ?_ (by assumption) ?_
  · intro w hSw
    skip
    go_simp
  simp only [Act.put, List.setIfInBounds_toArray, List.set_cons_zero, List.set_cons_succ]
  refine take_do (i := 6) (v := (.slice (some ⟨b, 0, none⟩) n.wn wk)) rfl (by kernel_rfl) (by kernel_rfl) (by kernel_rfl) (fun _ _ _ h => h) (by rfl) ?_ (by assumption) ?_
  · intro w hSw
    obtain ⟨⟨p0, p1, p2, p3⟩, _⟩ := rowN4 (R2.out.of_block (hSw.1.block _ zRW.out))
    go_simp
  simp only [Act.put, List.setIfInBounds_toArray, List.set_cons_zero, List.set_cons_succ]
  refine take_do (i := 7) (v := (.int .i64 k)) rfl (by kernel_rfl) (by kernel_rfl) (by kernel_rfl) (fun _ _ _ h => h) (by rfl) ?_ (by assumption) ?_
  · intro w hSw
    skip
    go_simp
  simp only [Act.put, List.setIfInBounds_toArray, List.set_cons_zero, List.set_cons_succ]
  refine take_do (i := 8) (v := (.pointer (some ⟨b, k, none⟩))) rfl (by kernel_rfl) (by kernel_rfl) (by kernel_rfl) (fun _ _ _ h => h) (by rfl) ?_ (by assumption) ?_
  · intro w hSw
    skip
    go_simp
  simp only [Act.put, List.setIfInBounds_toArray, List.set_cons_zero, List.set_cons_succ]
  refine take_do (i := 9) (v := (.int .i64 (n.W k))) rfl (by kernel_rfl) (by kernel_rfl) (by kernel_rfl) (fun _ _ _ h => h) (by rfl) ?_ (by assumption) ?_
  · intro w hSw
    have y0 := (hSw.1.cell (p := ⟨b, k, none⟩) D.out.2).trans D.out.1
    go_simp
  simp only [Act.put, List.setIfInBounds_toArray, List.set_cons_zero, List.set_cons_succ]
  refine wpAnyH_ready (rs := [1, 10]) (by kernel_rfl) (by simp) (AllReadyH.cons (at_drop (i := 1) rfl) (fun K2 hK => ?_) (AllReadyH.cons (at_drop (i := 10) rfl) (fun K2 hK => ?_) (AllReadyH.nil)))
  · have o0 := SP.out.ro.cell (i := 0) (by omega)
    simp only [rowN, List.getD_cons_zero] at o0
    go_simp
    refine hK.out _ _ hHeld (fun hHeld2 => ?_)
    clear hK hHeld
    have hHeld := hHeld2
    clear hHeld2
    clear o0
    refine take_call (i := 10) rfl (by kernel_rfl) (fun K2 hK => ?_)
    go_simp
    refine (specOf_any (n.W k) 1 _ (by have := WB.out; unfold Nt.wantOk at this; omega) (by have := WB.out; unfold Nt.wantOk at this; omega) (by omega) (by omega)).mono ?_
    rintro e Z2 ⟨rfl, hb⟩
    replace SP := Lib.hid (SP.out.below hb)
    have hq := And.intro SP.out.b (nrow_below hHeld.2 hb)
    go_wp2_with fail
    refine hK.out _ _ hq (fun hHeld2 => ?_)
    clear hK hHeld
    have hHeld := hHeld2
    clear hHeld2
    clear hb hq
    refine take_call (i := 11) rfl (by kernel_rfl) (fun K2 hK => ?_)
    go_simp
    refine (take_of gc _ _ _ (by have := WB.out; unfold Nt.wantOk at this; omega) (by have := WB.out; unfold Nt.wantOk at this; omega) SP.out.rc).mono ?_
    rintro e Z3 ⟨rfl, hr, ho⟩
    have hq := And.intro (SP.out.take hr ho).b (hHeld.2.of_block (ho.block _ hHeld.2.lt (by have h1 := NUM.out; omega)))
    replace SP := Lib.hid (SP.out.take hr ho)
    go_wp2_with fail
    refine hK.out _ _ hq (fun hHeld2 => ?_)
    clear hK hHeld
    have hHeld := hHeld2
    clear hHeld2
    clear hr ho hq
    refine take_call (i := 12) rfl (by kernel_rfl) (fun K2 hK => ?_)
    go_simp
    refine (nspecSub x (n.W k, 1) _ RX.out RW.out).mono ?_
    rintro e Z4 ⟨rfl, hb⟩
    replace SP := Lib.hid (SP.out.below hb)
    have hq := And.intro SP.out.b (nrow_below hHeld.2 hb)
    go_wp2_with fail
    refine hK.out _ _ hq (fun hHeld2 => ?_)
    clear hK hHeld
    have hHeld := hHeld2
    clear hHeld2
    clear hb hq
    refine take_call (i := 13) rfl (by kernel_rfl) (fun K2 hK => ?_)
    go_simp
    refine (take_any gc (Fq.sub x (n.W k, 1)) _ _ SP.out.rc).mono ?_
    rintro e Z5 ⟨rfl, hr, ho⟩
    have hq := And.intro (SP.out.take hr ho).b (hHeld.2.of_block (ho.block _ hHeld.2.lt (by have h1 := NUM.out; omega)))
    replace SP := Lib.hid (SP.out.take hr ho)
    go_wp2_with fail
    refine hK.out _ _ hq (fun hHeld2 => ?_)
    clear hK hHeld
    have hHeld := hHeld2
    clear hHeld2
    clear hr ho hq
    refine take_call (i := 14) rfl (by kernel_rfl) (fun K2 hK => ?_)
    obtain ⟨Z6, hZ6⟩ : ∃ Z6, Z6 = Z5.alloc (.cells #[.int .i64 (Fq.tkv (Fq.sub x (n.W k, 1))).1, .int .i64 (Fq.tkv (Fq.sub x (n.W k, 1))).2] 35) := ⟨_, rfl⟩
    have hb : Below Z5.heap.size Z5 Z6 := by rw [hZ6]; exact nbel_alloc _ _
    obtain ⟨gx, hgx⟩ : ∃ gx, gx = Z5.heap.size := ⟨_, rfl⟩
    have RX : Hid (Z6.rowIs gx 35 2 (rowN [.int .i64 (Fq.tkv (Fq.sub x (n.W k, 1))).1, .int .i64 (Fq.tkv (Fq.sub x (n.W k, 1))).2])) := by show World.rowIs _ _ _ _ _; rw [hZ6, hgx]; exact rowN_alloc _ _ _
    replace SP := Lib.hid (SP.out.below hb)
    have hq := And.intro SP.out.b (nrow_below hHeld.2 hb)
    go_simp
    rw [← hZ6, ← hgx]
    refine hK.out _ _ hq (fun hHeld2 => ?_)
    clear hK hHeld
    have hHeld := hHeld2
    clear hHeld2
    clear hb hq hZ6 hgx
    refine take_call (i := 15) rfl (by kernel_rfl) (fun K2 hK => ?_)
    obtain ⟨i1, hi1, hy0, hy1, hy2⟩ := info_parts ninfo_fr
    have HO0 := Lib.hid SP.out.own
    have hsz := SP.out.ro.lt
    refine step_append_lies _ rfl (.tmp 70) (.tmp 83) 29 rfl (go + 1) 35 i1 (.agg #[.int .i64 0, .int .i64 0]) 2 16 Tryz.underlying29 hi1 hy0 hy1 hy2 rfl (by decide) v k _ rfl HO0.out ⟨gx, 0, none⟩ 1 1 [.int .i64 (Fq.tkv (Fq.sub x (n.W k, 1))).1, .int .i64 (Fq.tkv (Fq.sub x (n.W k, 1))).2] rfl rfl ?_ ?_ (by omega) (by unfold maxLen; omega) (by omega) (by omega) _ rfl ?_
    · intro j u hj
      match j, hj with
      | 0, hj => (simp at hj; subst hj; have := RX.out.cell (i := 0) (by omega); simpa [Addr.add, rowN] using this)
      | 1, hj => (simp at hj; subst hj; have := RX.out.cell (i := 1) (by omega); simpa [Addr.add, rowN] using this)
    · intro u hu
      simp at hu
      rcases hu with rfl | rfl <;> rfl
    intro g cap Z7 hown hgrow hat hlt3
    have hown2 : Z7.ownsRow (go + 1) 35 2 (.slice (some ⟨g, 0, none⟩) (k + 1) cap) (k + 1) (frVs (Nt.updF f k (Fq.tkv (Fq.sub x (n.W k, 1)))) (k + 1)) := by rw [frVs_succ, Nt.updF_same]; exact hown
    have SQ : Hid (Z7.rowIs go 31 3 (rowN [v, .int .i64 0, .int .i64 0]) ∧ SpR n la lk fa fk (some ⟨b, 0, none⟩) wk gc go (k + 1) (Nt.updF f k (Fq.tkv (Fq.sub x (n.W k, 1)))) (Fq.tkz (Fq.sub x (n.W k, 1)) z) (.slice (some ⟨g, 0, none⟩) (k + 1) cap) W1 w (Z7.setCell ⟨go, 0, none⟩ (.slice (some ⟨g, 0, none⟩) (k + 1) cap))) := ⟨SP.out.ro.of_block (hgrow.block _ SP.out.ro.lt (fun e => by have := (SP.out.own.lt _ e.symm).1; omega)), SP.out.grow hown2 hgrow⟩
    have hq := And.intro (SP.out.b.grown hgrow (by have := SP.out.rc.lt; omega) (fun q e => by have h1 := (SP.out.own.lt q e).1; have h2 := NUM.out; omega)) (hHeld.2.of_block (hgrow.block _ hHeld.2.lt (fun e => by have h1 := LO.out.2 _ e.symm; omega)))
    refine hK.out _ _ hq (fun hHeld2 => ?_)
    clear hK hHeld
    have hHeld := hHeld2
    clear hHeld2
    clear hq hown hown2 hgrow hat hlt3 SP HO0 hsz RX
    simp only [Act.put, List.setIfInBounds_toArray, List.set_cons_zero, List.set_cons_succ]
    refine take_do (i := 16) (v := (.pointer (some ⟨go, 0, none⟩))) rfl (by kernel_rfl) (by kernel_rfl) (by kernel_rfl) (fun _ _ _ h => h) (by rfl) ?_ (by assumption) ?_
    · intro w hSw
      skip
      go_simp
    simp only [Act.put, List.setIfInBounds_toArray, List.set_cons_zero, List.set_cons_succ]
    have RO := SQ.out.1
    have o0 := RO.cell (i := 0) (by omega)
    have z0 := RO.frozen 0
    have l0 := RO.lt
    obtain ⟨WZ, hWZ⟩ : ∃ WZ, WZ = Z7.setCell ⟨go, 0, none⟩ (.slice (some ⟨g, 0, none⟩) (k + 1) cap) := ⟨_, rfl⟩
    have SZ : Hid (SpR n la lk fa fk (some ⟨b, 0, none⟩) wk gc go (k + 1) (Nt.updF f k (Fq.tkv (Fq.sub x (n.W k, 1)))) (Fq.tkz (Fq.sub x (n.W k, 1)) z) (.slice (some ⟨g, 0, none⟩) (k + 1) cap) W1 w WZ) := by rw [hWZ]; exact SQ.out.2
    have hq : (fun V => Below gc W1 V ∧ V.rowIs gv 35 2 (rowN [.int .i64 x.1, .int .i64 x.2])) WZ := by rw [hWZ]; exact And.intro (hHeld.1.setCell (p := ⟨go, 0, none⟩) (by have h1 := NUM.out; show gc ≤ go; omega) _) (nrow_set hHeld.2 (p := ⟨go, 0, none⟩) (by have h1 := NUM.out; show gv ≠ go; omega) _)
    have HWZ := Lib.hid hWZ
    clear hWZ RO
    refine take_call (i := 17) rfl (by kernel_rfl) (fun K2 hK => ?_)
    go_simp
    rw [← HWZ.out]
    refine hK.out _ _ hq (fun hHeld2 => ?_)
    clear hK hHeld hHeld2 HWZ o0 z0 l0 SQ hq
    refine wpAnyH_done (by kernel_rfl) ?_ _
    go_wp2_with fail
    go_roundw
    case rel => exact ⟨k + 1, by omega, by go_num, _, _, _, SZ, AN⟩
    case measure => simp [intOf]; omega
  · go_simp
    refine (specOf_any (n.W k) 1 _ (by have := WB.out; unfold Nt.wantOk at this; omega) (by have := WB.out; unfold Nt.wantOk at this; omega) (by omega) (by omega)).mono ?_
    rintro e Z8 ⟨rfl, hb⟩
    replace SP := Lib.hid (SP.out.below hb)
    have hq := And.intro SP.out.b (nrow_below hHeld.2 hb)
    go_wp2_with fail
    refine hK.out _ _ hq (fun hHeld2 => ?_)
    clear hK hHeld
    have hHeld := hHeld2
    clear hHeld2
    clear hb hq
    refine wpAnyH_ready (rs := [1, 11]) (by kernel_rfl) (by simp) (AllReadyH.cons (at_drop (i := 1) rfl) (fun K2 hK => ?_) (AllReadyH.cons (at_drop (i := 11) rfl) (fun K2 hK => ?_) (AllReadyH.nil)))
    · have o0 := SP.out.ro.cell (i := 0) (by omega)
      simp only [rowN, List.getD_cons_zero] at o0
      go_simp
      refine hK.out _ _ hHeld (fun hHeld2 => ?_)
      clear hK hHeld
      have hHeld := hHeld2
      clear hHeld2
      clear o0
      refine take_call (i := 11) rfl (by kernel_rfl) (fun K2 hK => ?_)
      go_simp
      refine (take_of gc _ _ _ (by have := WB.out; unfold Nt.wantOk at this; omega) (by have := WB.out; unfold Nt.wantOk at this; omega) SP.out.rc).mono ?_
      rintro e Z10 ⟨rfl, hr, ho⟩
      have hq := And.intro (SP.out.take hr ho).b (hHeld.2.of_block (ho.block _ hHeld.2.lt (by have h1 := NUM.out; omega)))
      replace SP := Lib.hid (SP.out.take hr ho)
      go_wp2_with fail
      refine hK.out _ _ hq (fun hHeld2 => ?_)
      clear hK hHeld
      have hHeld := hHeld2
      clear hHeld2
      clear hr ho hq
      refine take_call (i := 12) rfl (by kernel_rfl) (fun K2 hK => ?_)
      go_simp
      refine (nspecSub x (n.W k, 1) _ RX.out RW.out).mono ?_
      rintro e Z11 ⟨rfl, hb⟩
      replace SP := Lib.hid (SP.out.below hb)
      have hq := And.intro SP.out.b (nrow_below hHeld.2 hb)
      go_wp2_with fail
      refine hK.out _ _ hq (fun hHeld2 => ?_)
      clear hK hHeld
      have hHeld := hHeld2
      clear hHeld2
      clear hb hq
      refine take_call (i := 13) rfl (by kernel_rfl) (fun K2 hK => ?_)
      go_simp
      refine (take_any gc (Fq.sub x (n.W k, 1)) _ _ SP.out.rc).mono ?_
      rintro e Z12 ⟨rfl, hr, ho⟩
      have hq := And.intro (SP.out.take hr ho).b (hHeld.2.of_block (ho.block _ hHeld.2.lt (by have h1 := NUM.out; omega)))
      replace SP := Lib.hid (SP.out.take hr ho)
      go_wp2_with fail
      refine hK.out _ _ hq (fun hHeld2 => ?_)
      clear hK hHeld
      have hHeld := hHeld2
      clear hHeld2
      clear hr ho hq
      refine take_call (i := 14) rfl (by kernel_rfl) (fun K2 hK => ?_)
      obtain ⟨Z13, hZ13⟩ : ∃ Z13, Z13 = Z12.alloc (.cells #[.int .i64 (Fq.tkv (Fq.sub x (n.W k, 1))).1, .int .i64 (Fq.tkv (Fq.sub x (n.W k, 1))).2] 35) := ⟨_, rfl⟩
      have hb : Below Z12.heap.size Z12 Z13 := by rw [hZ13]; exact nbel_alloc _ _
      obtain ⟨gx, hgx⟩ : ∃ gx, gx = Z12.heap.size := ⟨_, rfl⟩
      have RX : Hid (Z13.rowIs gx 35 2 (rowN [.int .i64 (Fq.tkv (Fq.sub x (n.W k, 1))).1, .int .i64 (Fq.tkv (Fq.sub x (n.W k, 1))).2])) := by show World.rowIs _ _ _ _ _; rw [hZ13, hgx]; exact rowN_alloc _ _ _
      replace SP := Lib.hid (SP.out.below hb)
      have hq := And.intro SP.out.b (nrow_below hHeld.2 hb)
      go_simp
      rw [← hZ13, ← hgx]
      refine hK.out _ _ hq (fun hHeld2 => ?_)
      clear hK hHeld
      have hHeld := hHeld2
      clear hHeld2
      clear hb hq hZ13 hgx
      refine take_call (i := 15) rfl (by kernel_rfl) (fun K2 hK => ?_)
      obtain ⟨i1, hi1, hy0, hy1, hy2⟩ := info_parts ninfo_fr
      have HO0 := Lib.hid SP.out.own
      have hsz := SP.out.ro.lt
      refine step_append_lies _ rfl (.tmp 70) (.tmp 83) 29 rfl (go + 1) 35 i1 (.agg #[.int .i64 0, .int .i64 0]) 2 16 Tryz.underlying29 hi1 hy0 hy1 hy2 rfl (by decide) v k _ rfl HO0.out ⟨gx, 0, none⟩ 1 1 [.int .i64 (Fq.tkv (Fq.sub x (n.W k, 1))).1, .int .i64 (Fq.tkv (Fq.sub x (n.W k, 1))).2] rfl rfl ?_ ?_ (by omega) (by unfold maxLen; omega) (by omega) (by omega) _ rfl ?_
      · intro j u hj
        match j, hj with
        | 0, hj => (simp at hj; subst hj; have := RX.out.cell (i := 0) (by omega); simpa [Addr.add, rowN] using this)
        | 1, hj => (simp at hj; subst hj; have := RX.out.cell (i := 1) (by omega); simpa [Addr.add, rowN] using this)
      · intro u hu
        simp at hu
        rcases hu with rfl | rfl <;> rfl
      intro g cap Z14 hown hgrow hat hlt3
      have hown2 : Z14.ownsRow (go + 1) 35 2 (.slice (some ⟨g, 0, none⟩) (k + 1) cap) (k + 1) (frVs (Nt.updF f k (Fq.tkv (Fq.sub x (n.W k, 1)))) (k + 1)) := by rw [frVs_succ, Nt.updF_same]; exact hown
      have SQ : Hid (Z14.rowIs go 31 3 (rowN [v, .int .i64 0, .int .i64 0]) ∧ SpR n la lk fa fk (some ⟨b, 0, none⟩) wk gc go (k + 1) (Nt.updF f k (Fq.tkv (Fq.sub x (n.W k, 1)))) (Fq.tkz (Fq.sub x (n.W k, 1)) z) (.slice (some ⟨g, 0, none⟩) (k + 1) cap) W1 w (Z14.setCell ⟨go, 0, none⟩ (.slice (some ⟨g, 0, none⟩) (k + 1) cap))) := ⟨SP.out.ro.of_block (hgrow.block _ SP.out.ro.lt (fun e => by have := (SP.out.own.lt _ e.symm).1; omega)), SP.out.grow hown2 hgrow⟩
      have hq := And.intro (SP.out.b.grown hgrow (by have := SP.out.rc.lt; omega) (fun q e => by have h1 := (SP.out.own.lt q e).1; have h2 := NUM.out; omega)) (hHeld.2.of_block (hgrow.block _ hHeld.2.lt (fun e => by have h1 := LO.out.2 _ e.symm; omega)))
      refine hK.out _ _ hq (fun hHeld2 => ?_)
      clear hK hHeld
      have hHeld := hHeld2
      clear hHeld2
      clear hq hown hown2 hgrow hat hlt3 SP HO0 hsz RX
      simp only [Act.put, List.setIfInBounds_toArray, List.set_cons_zero, List.set_cons_succ]
      refine take_do (i := 16) (v := (.pointer (some ⟨go, 0, none⟩))) rfl (by kernel_rfl) (by kernel_rfl) (by kernel_rfl) (fun _ _ _ h => h) (by rfl) ?_ (by assumption) ?_
      · intro w hSw
        skip
        go_simp
      simp only [Act.put, List.setIfInBounds_toArray, List.set_cons_zero, List.set_cons_succ]
      have RO := SQ.out.1
      have o0 := RO.cell (i := 0) (by omega)
      have z0 := RO.frozen 0
      have l0 := RO.lt
      obtain ⟨WZ, hWZ⟩ : ∃ WZ, WZ = Z14.setCell ⟨go, 0, none⟩ (.slice (some ⟨g, 0, none⟩) (k + 1) cap) := ⟨_, rfl⟩
      have SZ : Hid (SpR n la lk fa fk (some ⟨b, 0, none⟩) wk gc go (k + 1) (Nt.updF f k (Fq.tkv (Fq.sub x (n.W k, 1)))) (Fq.tkz (Fq.sub x (n.W k, 1)) z) (.slice (some ⟨g, 0, none⟩) (k + 1) cap) W1 w WZ) := by rw [hWZ]; exact SQ.out.2
      have hq : (fun V => Below gc W1 V ∧ V.rowIs gv 35 2 (rowN [.int .i64 x.1, .int .i64 x.2])) WZ := by rw [hWZ]; exact And.intro (hHeld.1.setCell (p := ⟨go, 0, none⟩) (by have h1 := NUM.out; show gc ≤ go; omega) _) (nrow_set hHeld.2 (p := ⟨go, 0, none⟩) (by have h1 := NUM.out; show gv ≠ go; omega) _)
      have HWZ := Lib.hid hWZ
      clear hWZ RO
      refine take_call (i := 17) rfl (by kernel_rfl) (fun K2 hK => ?_)
      go_simp
      rw [← HWZ.out]
      refine hK.out _ _ hq (fun hHeld2 => ?_)
      clear hK hHeld hHeld2 HWZ o0 z0 l0 SQ hq
      refine wpAnyH_done (by kernel_rfl) ?_ _
      go_wp2_with fail
      go_roundw
      case rel => exact ⟨k + 1, by omega, by go_num, _, _, _, SZ, AN⟩
      case measure => simp [intOf]; omega
    · go_simp
      refine (take_of gc _ _ _ (by have := WB.out; unfold Nt.wantOk at this; omega) (by have := WB.out; unfold Nt.wantOk at this; omega) SP.out.rc).mono ?_
      rintro e Z15 ⟨rfl, hr, ho⟩
      have hq := And.intro (SP.out.take hr ho).b (hHeld.2.of_block (ho.block _ hHeld.2.lt (by have h1 := NUM.out; omega)))
      replace SP := Lib.hid (SP.out.take hr ho)
      go_wp2_with fail
      refine hK.out _ _ hq (fun hHeld2 => ?_)
      clear hK hHeld
      have hHeld := hHeld2
      clear hHeld2
      clear hr ho hq
      refine wpAnyH_ready (rs := [1, 12]) (by kernel_rfl) (by simp) (AllReadyH.cons (at_drop (i := 1) rfl) (fun K2 hK => ?_) (AllReadyH.cons (at_drop (i := 12) rfl) (fun K2 hK => ?_) (AllReadyH.nil)))
      · have o0 := SP.out.ro.cell (i := 0) (by omega)
        simp only [rowN, List.getD_cons_zero] at o0
        go_simp
        refine hK.out _ _ hHeld (fun hHeld2 => ?_)
        clear hK hHeld
        have hHeld := hHeld2
        clear hHeld2
        clear o0
        refine take_call (i := 12) rfl (by kernel_rfl) (fun K2 hK => ?_)
        go_simp
        refine (nspecSub x (n.W k, 1) _ RX.out RW.out).mono ?_
        rintro e Z17 ⟨rfl, hb⟩
        replace SP := Lib.hid (SP.out.below hb)
        have hq := And.intro SP.out.b (nrow_below hHeld.2 hb)
        go_wp2_with fail
        refine hK.out _ _ hq (fun hHeld2 => ?_)
        clear hK hHeld
        have hHeld := hHeld2
        clear hHeld2
        clear hb hq
        refine take_call (i := 13) rfl (by kernel_rfl) (fun K2 hK => ?_)
        go_simp
        refine (take_any gc (Fq.sub x (n.W k, 1)) _ _ SP.out.rc).mono ?_
        rintro e Z18 ⟨rfl, hr, ho⟩
        have hq := And.intro (SP.out.take hr ho).b (hHeld.2.of_block (ho.block _ hHeld.2.lt (by have h1 := NUM.out; omega)))
        replace SP := Lib.hid (SP.out.take hr ho)
        go_wp2_with fail
        refine hK.out _ _ hq (fun hHeld2 => ?_)
        clear hK hHeld
        have hHeld := hHeld2
        clear hHeld2
        clear hr ho hq
        refine take_call (i := 14) rfl (by kernel_rfl) (fun K2 hK => ?_)
        obtain ⟨Z19, hZ19⟩ : ∃ Z19, Z19 = Z18.alloc (.cells #[.int .i64 (Fq.tkv (Fq.sub x (n.W k, 1))).1, .int .i64 (Fq.tkv (Fq.sub x (n.W k, 1))).2] 35) := ⟨_, rfl⟩
        have hb : Below Z18.heap.size Z18 Z19 := by rw [hZ19]; exact nbel_alloc _ _
        obtain ⟨gx, hgx⟩ : ∃ gx, gx = Z18.heap.size := ⟨_, rfl⟩
        have RX : Hid (Z19.rowIs gx 35 2 (rowN [.int .i64 (Fq.tkv (Fq.sub x (n.W k, 1))).1, .int .i64 (Fq.tkv (Fq.sub x (n.W k, 1))).2])) := by show World.rowIs _ _ _ _ _; rw [hZ19, hgx]; exact rowN_alloc _ _ _
        replace SP := Lib.hid (SP.out.below hb)
        have hq := And.intro SP.out.b (nrow_below hHeld.2 hb)
        go_simp
        rw [← hZ19, ← hgx]
        refine hK.out _ _ hq (fun hHeld2 => ?_)
        clear hK hHeld
        have hHeld := hHeld2
        clear hHeld2
        clear hb hq hZ19 hgx
        refine take_call (i := 15) rfl (by kernel_rfl) (fun K2 hK => ?_)
        obtain ⟨i1, hi1, hy0, hy1, hy2⟩ := info_parts ninfo_fr
        have HO0 := Lib.hid SP.out.own
        have hsz := SP.out.ro.lt
        refine step_append_lies _ rfl (.tmp 70) (.tmp 83) 29 rfl (go + 1) 35 i1 (.agg #[.int .i64 0, .int .i64 0]) 2 16 Tryz.underlying29 hi1 hy0 hy1 hy2 rfl (by decide) v k _ rfl HO0.out ⟨gx, 0, none⟩ 1 1 [.int .i64 (Fq.tkv (Fq.sub x (n.W k, 1))).1, .int .i64 (Fq.tkv (Fq.sub x (n.W k, 1))).2] rfl rfl ?_ ?_ (by omega) (by unfold maxLen; omega) (by omega) (by omega) _ rfl ?_
        · intro j u hj
          match j, hj with
          | 0, hj => (simp at hj; subst hj; have := RX.out.cell (i := 0) (by omega); simpa [Addr.add, rowN] using this)
          | 1, hj => (simp at hj; subst hj; have := RX.out.cell (i := 1) (by omega); simpa [Addr.add, rowN] using this)
        · intro u hu
          simp at hu
          rcases hu with rfl | rfl <;> rfl
        intro g cap Z20 hown hgrow hat hlt3
        have hown2 : Z20.ownsRow (go + 1) 35 2 (.slice (some ⟨g, 0, none⟩) (k + 1) cap) (k + 1) (frVs (Nt.updF f k (Fq.tkv (Fq.sub x (n.W k, 1)))) (k + 1)) := by rw [frVs_succ, Nt.updF_same]; exact hown
        have SQ : Hid (Z20.rowIs go 31 3 (rowN [v, .int .i64 0, .int .i64 0]) ∧ SpR n la lk fa fk (some ⟨b, 0, none⟩) wk gc go (k + 1) (Nt.updF f k (Fq.tkv (Fq.sub x (n.W k, 1)))) (Fq.tkz (Fq.sub x (n.W k, 1)) z) (.slice (some ⟨g, 0, none⟩) (k + 1) cap) W1 w (Z20.setCell ⟨go, 0, none⟩ (.slice (some ⟨g, 0, none⟩) (k + 1) cap))) := ⟨SP.out.ro.of_block (hgrow.block _ SP.out.ro.lt (fun e => by have := (SP.out.own.lt _ e.symm).1; omega)), SP.out.grow hown2 hgrow⟩
        have hq := And.intro (SP.out.b.grown hgrow (by have := SP.out.rc.lt; omega) (fun q e => by have h1 := (SP.out.own.lt q e).1; have h2 := NUM.out; omega)) (hHeld.2.of_block (hgrow.block _ hHeld.2.lt (fun e => by have h1 := LO.out.2 _ e.symm; omega)))
        refine hK.out _ _ hq (fun hHeld2 => ?_)
        clear hK hHeld
        have hHeld := hHeld2
        clear hHeld2
        clear hq hown hown2 hgrow hat hlt3 SP HO0 hsz RX
        simp only [Act.put, List.setIfInBounds_toArray, List.set_cons_zero, List.set_cons_succ]
        refine take_do (i := 16) (v := (.pointer (some ⟨go, 0, none⟩))) rfl (by kernel_rfl) (by kernel_rfl) (by kernel_rfl) (fun _ _ _ h => h) (by rfl) ?_ (by assumption) ?_
        · intro w hSw
          skip
          go_simp
        simp only [Act.put, List.setIfInBounds_toArray, List.set_cons_zero, List.set_cons_succ]
        have RO := SQ.out.1
        have o0 := RO.cell (i := 0) (by omega)
        have z0 := RO.frozen 0
        have l0 := RO.lt
        obtain ⟨WZ, hWZ⟩ : ∃ WZ, WZ = Z20.setCell ⟨go, 0, none⟩ (.slice (some ⟨g, 0, none⟩) (k + 1) cap) := ⟨_, rfl⟩
        have SZ : Hid (SpR n la lk fa fk (some ⟨b, 0, none⟩) wk gc go (k + 1) (Nt.updF f k (Fq.tkv (Fq.sub x (n.W k, 1)))) (Fq.tkz (Fq.sub x (n.W k, 1)) z) (.slice (some ⟨g, 0, none⟩) (k + 1) cap) W1 w WZ) := by rw [hWZ]; exact SQ.out.2
        have hq : (fun V => Below gc W1 V ∧ V.rowIs gv 35 2 (rowN [.int .i64 x.1, .int .i64 x.2])) WZ := by rw [hWZ]; exact And.intro (hHeld.1.setCell (p := ⟨go, 0, none⟩) (by have h1 := NUM.out; show gc ≤ go; omega) _) (nrow_set hHeld.2 (p := ⟨go, 0, none⟩) (by have h1 := NUM.out; show gv ≠ go; omega) _)
        have HWZ := Lib.hid hWZ
        clear hWZ RO
        refine take_call (i := 17) rfl (by kernel_rfl) (fun K2 hK => ?_)
        go_simp
        rw [← HWZ.out]
        refine hK.out _ _ hq (fun hHeld2 => ?_)
        clear hK hHeld hHeld2 HWZ o0 z0 l0 SQ hq
        refine wpAnyH_done (by kernel_rfl) ?_ _
        go_wp2_with fail
        go_roundw
        case rel => exact ⟨k + 1, by omega, by go_num, _, _, _, SZ, AN⟩
        case measure => simp [intOf]; omega
      · go_simp
        refine (nspecSub x (n.W k, 1) _ RX.out RW.out).mono ?_
        rintro e Z21 ⟨rfl, hb⟩
        replace SP := Lib.hid (SP.out.below hb)
        have hq := And.intro SP.out.b (nrow_below hHeld.2 hb)
        go_wp2_with fail
        refine hK.out _ _ hq (fun hHeld2 => ?_)
        clear hK hHeld
        have hHeld := hHeld2
        clear hHeld2
        clear hb hq
        refine wpAnyH_ready (rs := [1, 13]) (by kernel_rfl) (by simp) (AllReadyH.cons (at_drop (i := 1) rfl) (fun K2 hK => ?_) (AllReadyH.cons (at_drop (i := 13) rfl) (fun K2 hK => ?_) (AllReadyH.nil)))
        · have o0 := SP.out.ro.cell (i := 0) (by omega)
          simp only [rowN, List.getD_cons_zero] at o0
          go_simp
          refine hK.out _ _ hHeld (fun hHeld2 => ?_)
          clear hK hHeld
          have hHeld := hHeld2
          clear hHeld2
          clear o0
          refine take_call (i := 13) rfl (by kernel_rfl) (fun K2 hK => ?_)
          go_simp
          refine (take_any gc (Fq.sub x (n.W k, 1)) _ _ SP.out.rc).mono ?_
          rintro e Z23 ⟨rfl, hr, ho⟩
          have hq := And.intro (SP.out.take hr ho).b (hHeld.2.of_block (ho.block _ hHeld.2.lt (by have h1 := NUM.out; omega)))
          replace SP := Lib.hid (SP.out.take hr ho)
          go_wp2_with fail
          refine hK.out _ _ hq (fun hHeld2 => ?_)
          clear hK hHeld
          have hHeld := hHeld2
          clear hHeld2
          clear hr ho hq
          refine take_call (i := 14) rfl (by kernel_rfl) (fun K2 hK => ?_)
          obtain ⟨Z24, hZ24⟩ : ∃ Z24, Z24 = Z23.alloc (.cells #[.int .i64 (Fq.tkv (Fq.sub x (n.W k, 1))).1, .int .i64 (Fq.tkv (Fq.sub x (n.W k, 1))).2] 35) := ⟨_, rfl⟩
          have hb : Below Z23.heap.size Z23 Z24 := by rw [hZ24]; exact nbel_alloc _ _
          obtain ⟨gx, hgx⟩ : ∃ gx, gx = Z23.heap.size := ⟨_, rfl⟩
          have RX : Hid (Z24.rowIs gx 35 2 (rowN [.int .i64 (Fq.tkv (Fq.sub x (n.W k, 1))).1, .int .i64 (Fq.tkv (Fq.sub x (n.W k, 1))).2])) := by show World.rowIs _ _ _ _ _; rw [hZ24, hgx]; exact rowN_alloc _ _ _
          replace SP := Lib.hid (SP.out.below hb)
          have hq := And.intro SP.out.b (nrow_below hHeld.2 hb)
          go_simp
          rw [← hZ24, ← hgx]
          refine hK.out _ _ hq (fun hHeld2 => ?_)
          clear hK hHeld
          have hHeld := hHeld2
          clear hHeld2
          clear hb hq hZ24 hgx
          refine take_call (i := 15) rfl (by kernel_rfl) (fun K2 hK => ?_)
          obtain ⟨i1, hi1, hy0, hy1, hy2⟩ := info_parts ninfo_fr
          have HO0 := Lib.hid SP.out.own
          have hsz := SP.out.ro.lt
          refine step_append_lies _ rfl (.tmp 70) (.tmp 83) 29 rfl (go + 1) 35 i1 (.agg #[.int .i64 0, .int .i64 0]) 2 16 Tryz.underlying29 hi1 hy0 hy1 hy2 rfl (by decide) v k _ rfl HO0.out ⟨gx, 0, none⟩ 1 1 [.int .i64 (Fq.tkv (Fq.sub x (n.W k, 1))).1, .int .i64 (Fq.tkv (Fq.sub x (n.W k, 1))).2] rfl rfl ?_ ?_ (by omega) (by unfold maxLen; omega) (by omega) (by omega) _ rfl ?_
          · intro j u hj
            match j, hj with
            | 0, hj => (simp at hj; subst hj; have := RX.out.cell (i := 0) (by omega); simpa [Addr.add, rowN] using this)
            | 1, hj => (simp at hj; subst hj; have := RX.out.cell (i := 1) (by omega); simpa [Addr.add, rowN] using this)
          · intro u hu
            simp at hu
            rcases hu with rfl | rfl <;> rfl
          intro g cap Z25 hown hgrow hat hlt3
          have hown2 : Z25.ownsRow (go + 1) 35 2 (.slice (some ⟨g, 0, none⟩) (k + 1) cap) (k + 1) (frVs (Nt.updF f k (Fq.tkv (Fq.sub x (n.W k, 1)))) (k + 1)) := by rw [frVs_succ, Nt.updF_same]; exact hown
          have SQ : Hid (Z25.rowIs go 31 3 (rowN [v, .int .i64 0, .int .i64 0]) ∧ SpR n la lk fa fk (some ⟨b, 0, none⟩) wk gc go (k + 1) (Nt.updF f k (Fq.tkv (Fq.sub x (n.W k, 1)))) (Fq.tkz (Fq.sub x (n.W k, 1)) z) (.slice (some ⟨g, 0, none⟩) (k + 1) cap) W1 w (Z25.setCell ⟨go, 0, none⟩ (.slice (some ⟨g, 0, none⟩) (k + 1) cap))) := ⟨SP.out.ro.of_block (hgrow.block _ SP.out.ro.lt (fun e => by have := (SP.out.own.lt _ e.symm).1; omega)), SP.out.grow hown2 hgrow⟩
          have hq := And.intro (SP.out.b.grown hgrow (by have := SP.out.rc.lt; omega) (fun q e => by have h1 := (SP.out.own.lt q e).1; have h2 := NUM.out; omega)) (hHeld.2.of_block (hgrow.block _ hHeld.2.lt (fun e => by have h1 := LO.out.2 _ e.symm; omega)))
          refine hK.out _ _ hq (fun hHeld2 => ?_)
          clear hK hHeld
          have hHeld := hHeld2
          clear hHeld2
          clear hq hown hown2 hgrow hat hlt3 SP HO0 hsz RX
          simp only [Act.put, List.setIfInBounds_toArray, List.set_cons_zero, List.set_cons_succ]
          refine take_do (i := 16) (v := (.pointer (some ⟨go, 0, none⟩))) rfl (by kernel_rfl) (by kernel_rfl) (by kernel_rfl) (fun _ _ _ h => h) (by rfl) ?_ (by assumption) ?_
          · intro w hSw
            skip
            go_simp
          simp only [Act.put, List.setIfInBounds_toArray, List.set_cons_zero, List.set_cons_succ]
          have RO := SQ.out.1
          have o0 := RO.cell (i := 0) (by omega)
          have z0 := RO.frozen 0
          have l0 := RO.lt
          obtain ⟨WZ, hWZ⟩ : ∃ WZ, WZ = Z25.setCell ⟨go, 0, none⟩ (.slice (some ⟨g, 0, none⟩) (k + 1) cap) := ⟨_, rfl⟩
          have SZ : Hid (SpR n la lk fa fk (some ⟨b, 0, none⟩) wk gc go (k + 1) (Nt.updF f k (Fq.tkv (Fq.sub x (n.W k, 1)))) (Fq.tkz (Fq.sub x (n.W k, 1)) z) (.slice (some ⟨g, 0, none⟩) (k + 1) cap) W1 w WZ) := by rw [hWZ]; exact SQ.out.2
          have hq : (fun V => Below gc W1 V ∧ V.rowIs gv 35 2 (rowN [.int .i64 x.1, .int .i64 x.2])) WZ := by rw [hWZ]; exact And.intro (hHeld.1.setCell (p := ⟨go, 0, none⟩) (by have h1 := NUM.out; show gc ≤ go; omega) _) (nrow_set hHeld.2 (p := ⟨go, 0, none⟩) (by have h1 := NUM.out; show gv ≠ go; omega) _)
          have HWZ := Lib.hid hWZ
          clear hWZ RO
          refine take_call (i := 17) rfl (by kernel_rfl) (fun K2 hK => ?_)
          go_simp
          rw [← HWZ.out]
          refine hK.out _ _ hq (fun hHeld2 => ?_)
          clear hK hHeld hHeld2 HWZ o0 z0 l0 SQ hq
          refine wpAnyH_done (by kernel_rfl) ?_ _
          go_wp2_with fail
          go_roundw
          case rel => exact ⟨k + 1, by omega, by go_num, _, _, _, SZ, AN⟩
          case measure => simp [intOf]; omega
        · go_simp
          refine (take_any gc (Fq.sub x (n.W k, 1)) _ _ SP.out.rc).mono ?_
          rintro e Z26 ⟨rfl, hr, ho⟩
          have hq := And.intro (SP.out.take hr ho).b (hHeld.2.of_block (ho.block _ hHeld.2.lt (by have h1 := NUM.out; omega)))
          replace SP := Lib.hid (SP.out.take hr ho)
          go_wp2_with fail
          refine hK.out _ _ hq (fun hHeld2 => ?_)
          clear hK hHeld
          have hHeld := hHeld2
          clear hHeld2
          clear hr ho hq
          refine wpAnyH_ready (rs := [1, 14]) (by kernel_rfl) (by simp) (AllReadyH.cons (at_drop (i := 1) rfl) (fun K2 hK => ?_) (AllReadyH.cons (at_drop (i := 14) rfl) (fun K2 hK => ?_) (AllReadyH.nil)))
          · have o0 := SP.out.ro.cell (i := 0) (by omega)
            simp only [rowN, List.getD_cons_zero] at o0
            go_simp
            refine hK.out _ _ hHeld (fun hHeld2 => ?_)
            clear hK hHeld
            have hHeld := hHeld2
            clear hHeld2
            clear o0
            refine take_call (i := 14) rfl (by kernel_rfl) (fun K2 hK => ?_)
            obtain ⟨Z28, hZ28⟩ : ∃ Z28, Z28 = Z26.alloc (.cells #[.int .i64 (Fq.tkv (Fq.sub x (n.W k, 1))).1, .int .i64 (Fq.tkv (Fq.sub x (n.W k, 1))).2] 35) := ⟨_, rfl⟩
            have hb : Below Z26.heap.size Z26 Z28 := by rw [hZ28]; exact nbel_alloc _ _
            obtain ⟨gx, hgx⟩ : ∃ gx, gx = Z26.heap.size := ⟨_, rfl⟩
            have RX : Hid (Z28.rowIs gx 35 2 (rowN [.int .i64 (Fq.tkv (Fq.sub x (n.W k, 1))).1, .int .i64 (Fq.tkv (Fq.sub x (n.W k, 1))).2])) := by show World.rowIs _ _ _ _ _; rw [hZ28, hgx]; exact rowN_alloc _ _ _
            replace SP := Lib.hid (SP.out.below hb)
            have hq := And.intro SP.out.b (nrow_below hHeld.2 hb)
            go_simp
            rw [← hZ28, ← hgx]
            refine hK.out _ _ hq (fun hHeld2 => ?_)
            clear hK hHeld
            have hHeld := hHeld2
            clear hHeld2
            clear hb hq hZ28 hgx
            refine take_call (i := 15) rfl (by kernel_rfl) (fun K2 hK => ?_)
            obtain ⟨i1, hi1, hy0, hy1, hy2⟩ := info_parts ninfo_fr
            have HO0 := Lib.hid SP.out.own
            have hsz := SP.out.ro.lt
            refine step_append_lies _ rfl (.tmp 70) (.tmp 83) 29 rfl (go + 1) 35 i1 (.agg #[.int .i64 0, .int .i64 0]) 2 16 Tryz.underlying29 hi1 hy0 hy1 hy2 rfl (by decide) v k _ rfl HO0.out ⟨gx, 0, none⟩ 1 1 [.int .i64 (Fq.tkv (Fq.sub x (n.W k, 1))).1, .int .i64 (Fq.tkv (Fq.sub x (n.W k, 1))).2] rfl rfl ?_ ?_ (by omega) (by unfold maxLen; omega) (by omega) (by omega) _ rfl ?_
            · intro j u hj
              match j, hj with
              | 0, hj => (simp at hj; subst hj; have := RX.out.cell (i := 0) (by omega); simpa [Addr.add, rowN] using this)
              | 1, hj => (simp at hj; subst hj; have := RX.out.cell (i := 1) (by omega); simpa [Addr.add, rowN] using this)
            · intro u hu
              simp at hu
              rcases hu with rfl | rfl <;> rfl
            intro g cap Z29 hown hgrow hat hlt3
            have hown2 : Z29.ownsRow (go + 1) 35 2 (.slice (some ⟨g, 0, none⟩) (k + 1) cap) (k + 1) (frVs (Nt.updF f k (Fq.tkv (Fq.sub x (n.W k, 1)))) (k + 1)) := by rw [frVs_succ, Nt.updF_same]; exact hown
            have SQ : Hid (Z29.rowIs go 31 3 (rowN [v, .int .i64 0, .int .i64 0]) ∧ SpR n la lk fa fk (some ⟨b, 0, none⟩) wk gc go (k + 1) (Nt.updF f k (Fq.tkv (Fq.sub x (n.W k, 1)))) (Fq.tkz (Fq.sub x (n.W k, 1)) z) (.slice (some ⟨g, 0, none⟩) (k + 1) cap) W1 w (Z29.setCell ⟨go, 0, none⟩ (.slice (some ⟨g, 0, none⟩) (k + 1) cap))) := ⟨SP.out.ro.of_block (hgrow.block _ SP.out.ro.lt (fun e => by have := (SP.out.own.lt _ e.symm).1; omega)), SP.out.grow hown2 hgrow⟩
            have hq := And.intro (SP.out.b.grown hgrow (by have := SP.out.rc.lt; omega) (fun q e => by have h1 := (SP.out.own.lt q e).1; have h2 := NUM.out; omega)) (hHeld.2.of_block (hgrow.block _ hHeld.2.lt (fun e => by have h1 := LO.out.2 _ e.symm; omega)))
            refine hK.out _ _ hq (fun hHeld2 => ?_)
            clear hK hHeld
            have hHeld := hHeld2
            clear hHeld2
            clear hq hown hown2 hgrow hat hlt3 SP HO0 hsz RX
            simp only [Act.put, List.setIfInBounds_toArray, List.set_cons_zero, List.set_cons_succ]
            refine take_do (i := 16) (v := (.pointer (some ⟨go, 0, none⟩))) rfl (by kernel_rfl) (by kernel_rfl) (by kernel_rfl) (fun _ _ _ h => h) (by rfl) ?_ (by assumption) ?_
            · intro w hSw
              skip
              go_simp
            simp only [Act.put, List.setIfInBounds_toArray, List.set_cons_zero, List.set_cons_succ]
            have RO := SQ.out.1
            have o0 := RO.cell (i := 0) (by omega)
            have z0 := RO.frozen 0
            have l0 := RO.lt
            obtain ⟨WZ, hWZ⟩ : ∃ WZ, WZ = Z29.setCell ⟨go, 0, none⟩ (.slice (some ⟨g, 0, none⟩) (k + 1) cap) := ⟨_, rfl⟩
            have SZ : Hid (SpR n la lk fa fk (some ⟨b, 0, none⟩) wk gc go (k + 1) (Nt.updF f k (Fq.tkv (Fq.sub x (n.W k, 1)))) (Fq.tkz (Fq.sub x (n.W k, 1)) z) (.slice (some ⟨g, 0, none⟩) (k + 1) cap) W1 w WZ) := by rw [hWZ]; exact SQ.out.2
            have hq : (fun V => Below gc W1 V ∧ V.rowIs gv 35 2 (rowN [.int .i64 x.1, .int .i64 x.2])) WZ := by rw [hWZ]; exact And.intro (hHeld.1.setCell (p := ⟨go, 0, none⟩) (by have h1 := NUM.out; show gc ≤ go; omega) _) (nrow_set hHeld.2 (p := ⟨go, 0, none⟩) (by have h1 := NUM.out; show gv ≠ go; omega) _)
            have HWZ := Lib.hid hWZ
            clear hWZ RO
            refine take_call (i := 17) rfl (by kernel_rfl) (fun K2 hK => ?_)
            go_simp
            rw [← HWZ.out]
            refine hK.out _ _ hq (fun hHeld2 => ?_)
            clear hK hHeld hHeld2 HWZ o0 z0 l0 SQ hq
            refine wpAnyH_done (by kernel_rfl) ?_ _
            go_wp2_with fail
            go_roundw
            case rel => exact ⟨k + 1, by omega, by go_num, _, _, _, SZ, AN⟩
            case measure => simp [intOf]; omega
          · obtain ⟨Z30, hZ30⟩ : ∃ Z30, Z30 = Z26.alloc (.cells #[.int .i64 (Fq.tkv (Fq.sub x (n.W k, 1))).1, .int .i64 (Fq.tkv (Fq.sub x (n.W k, 1))).2] 35) := ⟨_, rfl⟩
            have hb : Below Z26.heap.size Z26 Z30 := by rw [hZ30]; exact nbel_alloc _ _
            obtain ⟨gx, hgx⟩ : ∃ gx, gx = Z26.heap.size := ⟨_, rfl⟩
            have RX : Hid (Z30.rowIs gx 35 2 (rowN [.int .i64 (Fq.tkv (Fq.sub x (n.W k, 1))).1, .int .i64 (Fq.tkv (Fq.sub x (n.W k, 1))).2])) := by show World.rowIs _ _ _ _ _; rw [hZ30, hgx]; exact rowN_alloc _ _ _
            replace SP := Lib.hid (SP.out.below hb)
            have hq := And.intro SP.out.b (nrow_below hHeld.2 hb)
            go_simp
            rw [← hZ30, ← hgx]
            refine hK.out _ _ hq (fun hHeld2 => ?_)
            clear hK hHeld
            have hHeld := hHeld2
            clear hHeld2
            clear hb hq hZ30 hgx
            refine take_call (i := 1) rfl (by kernel_rfl) (fun K2 hK => ?_)
            have o0 := SP.out.ro.cell (i := 0) (by omega)
            simp only [rowN, List.getD_cons_zero] at o0
            go_simp
            refine hK.out _ _ hHeld (fun hHeld2 => ?_)
            clear hK hHeld
            have hHeld := hHeld2
            clear hHeld2
            clear o0
            refine take_call (i := 15) rfl (by kernel_rfl) (fun K2 hK => ?_)
            obtain ⟨i1, hi1, hy0, hy1, hy2⟩ := info_parts ninfo_fr
            have HO0 := Lib.hid SP.out.own
            have hsz := SP.out.ro.lt
            refine step_append_lies _ rfl (.tmp 70) (.tmp 83) 29 rfl (go + 1) 35 i1 (.agg #[.int .i64 0, .int .i64 0]) 2 16 Tryz.underlying29 hi1 hy0 hy1 hy2 rfl (by decide) v k _ rfl HO0.out ⟨gx, 0, none⟩ 1 1 [.int .i64 (Fq.tkv (Fq.sub x (n.W k, 1))).1, .int .i64 (Fq.tkv (Fq.sub x (n.W k, 1))).2] rfl rfl ?_ ?_ (by omega) (by unfold maxLen; omega) (by omega) (by omega) _ rfl ?_
            · intro j u hj
              match j, hj with
              | 0, hj => (simp at hj; subst hj; have := RX.out.cell (i := 0) (by omega); simpa [Addr.add, rowN] using this)
              | 1, hj => (simp at hj; subst hj; have := RX.out.cell (i := 1) (by omega); simpa [Addr.add, rowN] using this)
            · intro u hu
              simp at hu
              rcases hu with rfl | rfl <;> rfl
            intro g cap Z32 hown hgrow hat hlt3
            have hown2 : Z32.ownsRow (go + 1) 35 2 (.slice (some ⟨g, 0, none⟩) (k + 1) cap) (k + 1) (frVs (Nt.updF f k (Fq.tkv (Fq.sub x (n.W k, 1)))) (k + 1)) := by rw [frVs_succ, Nt.updF_same]; exact hown
            have SQ : Hid (Z32.rowIs go 31 3 (rowN [v, .int .i64 0, .int .i64 0]) ∧ SpR n la lk fa fk (some ⟨b, 0, none⟩) wk gc go (k + 1) (Nt.updF f k (Fq.tkv (Fq.sub x (n.W k, 1)))) (Fq.tkz (Fq.sub x (n.W k, 1)) z) (.slice (some ⟨g, 0, none⟩) (k + 1) cap) W1 w (Z32.setCell ⟨go, 0, none⟩ (.slice (some ⟨g, 0, none⟩) (k + 1) cap))) := ⟨SP.out.ro.of_block (hgrow.block _ SP.out.ro.lt (fun e => by have := (SP.out.own.lt _ e.symm).1; omega)), SP.out.grow hown2 hgrow⟩
            have hq := And.intro (SP.out.b.grown hgrow (by have := SP.out.rc.lt; omega) (fun q e => by have h1 := (SP.out.own.lt q e).1; have h2 := NUM.out; omega)) (hHeld.2.of_block (hgrow.block _ hHeld.2.lt (fun e => by have h1 := LO.out.2 _ e.symm; omega)))
            refine hK.out _ _ hq (fun hHeld2 => ?_)
            clear hK hHeld
            have hHeld := hHeld2
            clear hHeld2
            clear hq hown hown2 hgrow hat hlt3 SP HO0 hsz RX
            simp only [Act.put, List.setIfInBounds_toArray, List.set_cons_zero, List.set_cons_succ]
            refine take_do (i := 16) (v := (.pointer (some ⟨go, 0, none⟩))) rfl (by kernel_rfl) (by kernel_rfl) (by kernel_rfl) (fun _ _ _ h => h) (by rfl) ?_ (by assumption) ?_
            · intro w hSw
              skip
              go_simp
            simp only [Act.put, List.setIfInBounds_toArray, List.set_cons_zero, List.set_cons_succ]
            have RO := SQ.out.1
            have o0 := RO.cell (i := 0) (by omega)
            have z0 := RO.frozen 0
            have l0 := RO.lt
            obtain ⟨WZ, hWZ⟩ : ∃ WZ, WZ = Z32.setCell ⟨go, 0, none⟩ (.slice (some ⟨g, 0, none⟩) (k + 1) cap) := ⟨_, rfl⟩
            have SZ : Hid (SpR n la lk fa fk (some ⟨b, 0, none⟩) wk gc go (k + 1) (Nt.updF f k (Fq.tkv (Fq.sub x (n.W k, 1)))) (Fq.tkz (Fq.sub x (n.W k, 1)) z) (.slice (some ⟨g, 0, none⟩) (k + 1) cap) W1 w WZ) := by rw [hWZ]; exact SQ.out.2
            have hq : (fun V => Below gc W1 V ∧ V.rowIs gv 35 2 (rowN [.int .i64 x.1, .int .i64 x.2])) WZ := by rw [hWZ]; exact And.intro (hHeld.1.setCell (p := ⟨go, 0, none⟩) (by have h1 := NUM.out; show gc ≤ go; omega) _) (nrow_set hHeld.2 (p := ⟨go, 0, none⟩) (by have h1 := NUM.out; show gv ≠ go; omega) _)
            have HWZ := Lib.hid hWZ
            clear hWZ RO
            refine take_call (i := 17) rfl (by kernel_rfl) (fun K2 hK => ?_)
            go_simp
            rw [← HWZ.out]
            refine hK.out _ _ hq (fun hHeld2 => ?_)
            clear hK hHeld hHeld2 HWZ o0 z0 l0 SQ hq
            refine wpAnyH_done (by kernel_rfl) ?_ _
            go_wp2_with fail
            go_roundw
            case rel => exact ⟨k + 1, by omega, by go_num, _, _, _, SZ, AN⟩
            case measure => simp [intOf]; omega
end Go.Proofs.YtljdkclbmmglpaaGreatDoor
