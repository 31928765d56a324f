/-
  RenewOf: the model's.
-/
import Derived.Test.YtbkpedcabbppbaaDoorRnI1
import Derived.Test.YtbkpedcabbppbaaDoorRnOw
import Derived.Test.YtbkpedcabbppbaaDoorRnSs
import Derived.Test.YtbkpedcabbppbaaDoorJbRs
import Derived.Laws.AppendOwn
import Derived.Lib.Slices
import Derived.Deep.Cut
namespace Go.Proofs.YtbkpedcabbppbaaDoor
open Go.RowKit Go.Deep

namespace Rn
/-- What is told of renewals. -/
structure Out where
  cs : Int
  wo : Int
  cd : Int
  m : Nat
  L : Nat → Int
def bad (c : Int) : Out := ⟨0, 0, c, 0, fun _ => 0⟩
/-- What picks cost and are worth. -/
noncomputable def of_ (n : Nat) (f : Nat → Int) (z : Int) (m : Nat) (p : Nat → Int) : Out :=
  if 400 < n ∨ 400 < m then bad 2 else if dB (Right n f ∧ BudOk z ∧ Pl.Rising m p n) = true then (if z < sm f 0 p m then bad 6 else ⟨sm f 0 p m, sm f 1 p m, 0, m, p⟩) else bad 1
/-- The best. -/
noncomputable def bs (n : Nat) (f : Nat → Int) (z : Int) : Out :=
  if 400 < n then bad 2 else if dB (Right n f ∧ BudOk z) = true then ⟨sm f 0 (nf (picks f n z.toNat)) (picks f n z.toNat).length, sm f 1 (nf (picks f n z.toNat)) (picks f n z.toNat).length, 0, (picks f n z.toNat).length, nf (picks f n z.toNat)⟩ else bad 1
theorem of_big {n : Nat} {f : Nat → Int} {z : Int} {m : Nat} {p : Nat → Int} (h : 400 < n ∨ 400 < m) : of_ n f z m p = bad 2 := by unfold of_; rw [if_pos h]
theorem of_form {n : Nat} {f : Nat → Int} {z : Int} {m : Nat} {p : Nat → Int} (h : ¬ (400 < n ∨ 400 < m)) (h2 : ¬ (Right n f ∧ BudOk z ∧ Pl.Rising m p n)) : of_ n f z m p = bad 1 := by unfold of_; rw [if_neg h, if_neg (by rw [dB_ff h2]; simp)]
theorem of_short {n : Nat} {f : Nat → Int} {z : Int} {m : Nat} {p : Nat → Int} (h : ¬ (400 < n ∨ 400 < m)) (h2 : Right n f ∧ BudOk z ∧ Pl.Rising m p n) (h3 : z < sm f 0 p m) : of_ n f z m p = bad 6 := by unfold of_; rw [if_neg h, if_pos (dB_tt h2), if_pos h3]
theorem of_ok {n : Nat} {f : Nat → Int} {z : Int} {m : Nat} {p : Nat → Int} (h : ¬ (400 < n ∨ 400 < m)) (h2 : Right n f ∧ BudOk z ∧ Pl.Rising m p n) (h3 : ¬ z < sm f 0 p m) : of_ n f z m p = ⟨sm f 0 p m, sm f 1 p m, 0, m, p⟩ := by unfold of_; rw [if_neg h, if_pos (dB_tt h2), if_neg h3]
/-- The best picks are told as picks are. -/
theorem of_bs {n : Nat} {f : Nat → Int} {z : Int} (h : Right n f) (hz : BudOk z) : of_ n f z (picks f n z.toNat).length (nf (picks f n z.toNat)) = bs n f z := by
  have h1 := h.1
  have h2 := picks_len f n z.toNat
  have h3 := picks_cost (b := z.toNat) h
  rw [of_ok (by omega) ⟨h, hz, picks_rise h⟩ (by have := hz.1; omega)]
  unfold bs
  rw [if_neg (by omega), if_pos (dB_tt ⟨h, hz⟩)]
end Rn
/-- What is told. -/
def RoEnd (B : Nat) (o : Rn.Out) (e : Ending) (W : World) : Prop := ∃ a k, e = .returned (roV o.cs o.wo o.cd o.m a k) ∧ LsOwn 2 1 B o.m a k o.L W
theorem RoEnd.bad (B : Nat) (c : Int) (W : World) : RoEnd B (Rn.bad c) (.returned (roV 0 0 c 0 none 0)) W := ⟨none, 0, rfl, Or.inl ⟨rfl, rfl, rfl⟩⟩
theorem rput4 {V : World} {g : Nat} {x0 x1 x2 x3 : Value} {t : TypeId} (h : V.rowIs g t 4 (rowN [x0, x1, x2, x3])) (y0 y1 y2 y3 : Value) : ((((V.setCell ⟨g, 0, none⟩ y0).setCell ⟨g, 1, none⟩ y1).setCell ⟨g, 2, none⟩ y2).setCell ⟨g, 3, none⟩ y3).rowIs g t 4 (rowN [y0, y1, y2, y3]) :=
  rowN_put (rowN_put (rowN_put (rowN_put h 0 _ (by simp)) 1 _ (by simp)) 2 _ (by simp)) 3 _ (by simp)
theorem rbel4 {V w : World} {B g : Nat} (h : Below B w V) (hg : B ≤ g) (y0 y1 y2 y3 : Value) : Below B w ((((V.setCell ⟨g, 0, none⟩ y0).setCell ⟨g, 1, none⟩ y1).setCell ⟨g, 2, none⟩ y2).setCell ⟨g, 3, none⟩ y3) :=
  (((h.setCell (p := ⟨g, 0, none⟩) hg _).setCell (p := ⟨g, 1, none⟩) hg _).setCell (p := ⟨g, 2, none⟩) hg _).setCell (p := ⟨g, 3, none⟩) hg _
theorem rblk4 (V : World) {g k : Nat} (hk : k ≠ g) (y0 y1 y2 y3 : Value) : ((((V.setCell ⟨g, 0, none⟩ y0).setCell ⟨g, 1, none⟩ y1).setCell ⟨g, 2, none⟩ y2).setCell ⟨g, 3, none⟩ y3).heap[k]? = V.heap[k]? := by
  rw [rhs _ _ _ hk, rhs _ _ _ hk, rhs _ _ _ hk, rhs _ _ _ hk]
theorem rvs_own {B m : Nat} {v : Value} {p : Nat → Int} {W : World} (h : W.ownsRow B 2 1 v m ((List.range m).map (fun j => Value.int .i64 (p j)))) : ∃ a c, v = .slice a m c ∧ LsOwn 2 1 B m a c p W := by
  rcases h.2 with h2 | ⟨g, cap, cur, e1, e2, e3, e4, e5, e6, e7⟩
  · exact ⟨none, 0, by rw [h2.1, h2.2], Or.inl ⟨rfl, h2.2, rfl⟩⟩
  · refine ⟨some ⟨g, 0, none⟩, _, e1, Or.inr ⟨g, rfl, e2, cap, fun i => cur[i]?.getD undef, by omega, ⟨cur, e3, by simpa using e6, fun i hi => ?_⟩, fun j hj => ?_⟩⟩
    · show cur[i]? = some (cur[i]?.getD undef)
      rw [Array.getElem?_eq_getElem (by omega)]
      rfl
    · have hj' : j < m := by omega
      have h1 : (cur.toList.take (m * 1))[j]? = ((List.range m).map (fun j => Value.int .i64 (p j)))[j]? := by rw [e7]
      rw [List.getElem?_take, if_pos (by omega), Array.getElem?_toList] at h1
      show cur[j]?.getD undef = _
      rw [h1]
      simp [hj']
theorem roinfo : (Tryd.prog.info? 2).map (fun i => (i.zero, i.size, i.bytes)) = some (some (.int .i64 0), 1, 8) := by kernel_rfl
/-- What stands while picks are added up, but for the sums' own block. -/
def OfR (w : World) (g6 lb pb i q m : Nat) (a7 : Option Addr) (k7 : Nat) (p : Nat → Int) (x0 x1 : Int) (V : World) : Prop := (V.cell? ⟨pb, i, none⟩ = some (.int .i64 (q : Int)) ∧ V.cell? ⟨lb, q * 2, none⟩ = some (.int .i64 x0) ∧ V.cell? ⟨lb, q * 2 + 1, none⟩ = some (.int .i64 x1)) ∧ V.rowIs g6 26 4 (rowN [.slice none 0 0, .int .i64 0, .int .i64 0, .int .i64 0]) ∧ LsOwn 2 1 w.heap.size m a7 k7 p V ∧ Below w.heap.size w V ∧ lb < w.heap.size ∧ pb < w.heap.size
theorem OfR.below {w : World} {g6 lb pb i q m : Nat} {a7 : Option Addr} {k7 : Nat} {p : Nat → Int} {x0 x1 : Int} {V V' : World} (h : OfR w g6 lb pb i q m a7 k7 p x0 x1 V) (hb : Below V.heap.size V V') : OfR w g6 lb pb i q m a7 k7 p x0 x1 V' := by
  obtain ⟨⟨h0, h1, h2⟩, h3, h4, h5, h6⟩ := h
  have t := fun {a : Addr} {v : Value} (q : V.cell? a = some v) => (hb.cell (World.block_lt_of_cell? _ _ q)).trans q
  exact ⟨⟨t h0, t h1, t h2⟩, nrow_below h3 hb, h4.below hb, h5.trans (hb.mono h5.size), h6⟩
theorem lsown_set {B m : Nat} {a7 : Option Addr} {k7 : Nat} {p : Nat → Int} {V : World} (h : LsOwn 2 1 B m a7 k7 p V) {g7 N : Nat} {t : TypeId} {F : Nat → Value} (hx : V.rowIs g7 t N F) (ht : t ≠ 2) (c : Nat) (v : Value) : LsOwn 2 1 B m a7 k7 p (V.setCell ⟨g7, c, none⟩ v) := by
  rcases h with h | ⟨g, e, h1, h2⟩
  · exact Or.inl h
  · refine Or.inr ⟨g, e, h1, h2.block (rhs _ _ _ ?_ _ _)⟩
    obtain ⟨cur, q, _⟩ := hx
    exact typ_ne (isBlk_type h2) ⟨cur, q⟩ (fun e => ht e.symm)
theorem lsown4 {B m : Nat} {a7 : Option Addr} {k7 : Nat} {p : Nat → Int} {V : World} (h : LsOwn 2 1 B m a7 k7 p V) {g7 N : Nat} {t : TypeId} {F : Nat → Value} (hx : V.rowIs g7 t N F) (ht : t ≠ 2) (y0 y1 y2 y3 : Value) : LsOwn 2 1 B m a7 k7 p ((((V.setCell ⟨g7, 0, none⟩ y0).setCell ⟨g7, 1, none⟩ y1).setCell ⟨g7, 2, none⟩ y2).setCell ⟨g7, 3, none⟩ y3) := by
  rcases h with h | ⟨g, e, h1, h2⟩
  · exact Or.inl h
  · refine Or.inr ⟨g, e, h1, h2.block (rblk4 V ?_ _ _ _ _)⟩
    obtain ⟨cur, q, _⟩ := hx
    exact typ_ne (isBlk_type h2) ⟨cur, q⟩ (fun e => ht e.symm)
theorem OfR.set {w : World} {g6 lb pb i q m : Nat} {a7 : Option Addr} {k7 : Nat} {p : Nat → Int} {x0 x1 : Int} {V : World} (h : OfR w g6 lb pb i q m a7 k7 p x0 x1 V) {g7 : Nat} {F : Nat → Value} (hx : V.rowIs g7 26 4 F) (hg : w.heap.size ≤ g7 ∧ g6 ≠ g7) (c : Nat) (v : Value) : OfR w g6 lb pb i q m a7 k7 p x0 x1 (V.setCell ⟨g7, c, none⟩ v) := by
  obtain ⟨⟨h0, h1, h2⟩, h3, h4, h5, h6, h7⟩ := h
  refine ⟨⟨?_, ?_, ?_⟩, nrow_set h3 hg.2 _, lsown_set h4 hx (by decide) c v, h5.setCell (p := ⟨g7, c, none⟩) hg.1 _, h6, h7⟩
  · rw [World.cell?_setCell_far _ _ _ _ (by show g7 ≠ pb; omega)]; exact h0
  · rw [World.cell?_setCell_far _ _ _ _ (by show g7 ≠ lb; omega)]; exact h1
  · rw [World.cell?_setCell_far _ _ _ _ (by show g7 ≠ lb; omega)]; exact h2
set_option maxRecDepth 100000 in
set_option maxHeartbeats 8000000 in
theorem specOf_any (a : Option Addr) (n cap : Nat) (f : Nat → Int) (z : Int) (pa : Option Addr) (m pc : Nat) (p : Nat → Int) (w : World) (h : IsAt a (n * 2) f w) (hs : n ≤ 1048576) (hp : IsAt pa m p w) (hm : m ≤ 1048576) (hpa : pa = none → m = 0 ∧ pc = 0) :
    Calls Tryd.prog 16 #[.slice a n cap, .int .i64 z, .slice pa m pc] w fun e w' => RoEnd w.heap.size (Rn.of_ n f z m p) e w' ∧ Below w.heap.size w w' := by
  obtain ⟨W, hW⟩ : ∃ W, W = w.alloc (.cells #[.slice none 0 0, .int .i64 0, .int .i64 0, .int .i64 0] 26) := ⟨_, rfl⟩
  have HB : Hid (Below w.heap.size w W) := by show Below _ _ _; rw [hW]; exact nbel_alloc _ _
  obtain ⟨g6, hg6⟩ : ∃ g6, g6 = w.heap.size := ⟨_, rfl⟩
  have HO : Hid (W.rowIs g6 26 4 (rowN [.slice none 0 0, .int .i64 0, .int .i64 0, .int .i64 0])) := by show W.rowIs _ _ _ _; rw [hW, hg6]; exact rowN_alloc _ _ _
  have H := Lib.hid h
  have HP := Lib.hid hp
  have HPA := Lib.hid hpa
  have HW := Lib.hid hW
  have HG6 := Lib.hid hg6
  clear h hp hpa hW hg6
  by_cases c4 : 400 < n ∨ 400 < m
  · rw [Rn.of_big c4]
    have c5 : (400 : Int) < (n : Int) ∨ (¬ (400 : Int) < (n : Int) ∧ (400 : Int) < (m : Int)) := by omega
    clear c4
    rcases c5 with c1 | ⟨c1, c2⟩
    all_goals
      go_enter Tryd.func16, Tryd.ntmps16
      go_upto_region 1 with fail
      rw [← HW.out, ← HG6.out]
      obtain ⟨⟨o0, o1, o2, o3⟩, z0, z1, z2, z3⟩ := rowN4 HO.out
      have hol := HO.out.lt
      go_wp2_with fail
      have zr := rput4 HO.out (.slice none 0 0) (.int .i64 0) (.int .i64 0) (.int .i64 2)
      have zb := rbel4 (g := g6) HB.out (by rw [HG6.out]; exact Nat.le_refl _) (.slice none 0 0) (.int .i64 0) (.int .i64 0) (.int .i64 2)
      generalize (((W.setCell ⟨g6, 0, none⟩ (.slice none 0 0)).setCell ⟨g6, 1, none⟩ (.int .i64 0)).setCell ⟨g6, 2, none⟩ (.int .i64 0)).setCell ⟨g6, 3, none⟩ (.int .i64 2) = ZZ at zr zb ⊢
      obtain ⟨⟨y0, y1, y2, y3⟩, _⟩ := rowN4 zr
      exact bodyPost_ret (v := roV 0 0 2 0 none 0) (by simp only [results, Tryd.results16]; simp [go_sem, y0, y1, y2, y3]) rfl ⟨RoEnd.bad _ _ _, zb⟩
  have c4n : ¬ (400 : Int) < (n : Int) := by omega
  have c4m : ¬ (400 : Int) < (m : Int) := by omega
  have HC4 := Lib.hid c4
  clear c4
  by_cases cr : Rn.Right n f
  case neg =>
    rw [Rn.of_form HC4.out (fun x => cr x.1)]
    have HC := Lib.hid (dB_ff cr)
    clear cr
    go_enter Tryd.func16, Tryd.ntmps16
    go_upto_region 1 with fail
    rw [← HW.out, ← HG6.out]
    go_wp2_with fail
    refine (specAssets_any a n cap f _ (H.out.below HB.out) hs).mono ?_
    rintro e w1 ⟨rfl, hb⟩
    rw [HC.out]
    replace HO := Lib.hid (nrow_below HO.out hb)
    replace HB : Hid (Below w.heap.size w w1) := HB.out.trans (hb.mono HB.out.size)
    clear hb
    obtain ⟨⟨o0, o1, o2, o3⟩, z0, z1, z2, z3⟩ := rowN4 HO.out
    have hol := HO.out.lt
    go_wp2_with fail
    have zr := rput4 HO.out (.slice none 0 0) (.int .i64 0) (.int .i64 0) (.int .i64 1)
    have zb := rbel4 (g := g6) HB.out (by rw [HG6.out]; exact Nat.le_refl _) (.slice none 0 0) (.int .i64 0) (.int .i64 0) (.int .i64 1)
    generalize (((w1.setCell ⟨g6, 0, none⟩ (.slice none 0 0)).setCell ⟨g6, 1, none⟩ (.int .i64 0)).setCell ⟨g6, 2, none⟩ (.int .i64 0)).setCell ⟨g6, 3, none⟩ (.int .i64 1) = ZZ at zr zb ⊢
    obtain ⟨⟨y0, y1, y2, y3⟩, _⟩ := rowN4 zr
    exact bodyPost_ret (v := roV 0 0 1 0 none 0) (by simp only [results, Tryd.results16]; simp [go_sem, y0, y1, y2, y3]) rfl ⟨RoEnd.bad _ _ _, zb⟩
  have HC := Lib.hid (dB_tt cr)
  have HRT := Lib.hid cr
  have hn40 := cr.1
  clear cr
  by_cases cz : Rn.BudOk z
  case neg =>
    rw [Rn.of_form HC4.out (fun x => cz x.2.1)]
    have cz2 : z < 0 ∨ (¬ z < 0 ∧ 300 < z) := by unfold Rn.BudOk at cz; omega
    clear cz
    rcases cz2 with c1 | ⟨c1, c2⟩
    all_goals
      go_enter Tryd.func16, Tryd.ntmps16
      go_upto_region 1 with fail
      rw [← HW.out, ← HG6.out]
      go_wp2_with fail
      refine (specAssets_any a n cap f _ (H.out.below HB.out) hs).mono ?_
      rintro e w1 ⟨rfl, hb⟩
      rw [HC.out]
      replace HO := Lib.hid (nrow_below HO.out hb)
      replace HB : Hid (Below w.heap.size w w1) := HB.out.trans (hb.mono HB.out.size)
      clear hb
      obtain ⟨⟨o0, o1, o2, o3⟩, z0, z1, z2, z3⟩ := rowN4 HO.out
      have hol := HO.out.lt
      go_wp2_with fail
      have zr := rput4 HO.out (.slice none 0 0) (.int .i64 0) (.int .i64 0) (.int .i64 1)
      have zb := rbel4 (g := g6) HB.out (by rw [HG6.out]; exact Nat.le_refl _) (.slice none 0 0) (.int .i64 0) (.int .i64 0) (.int .i64 1)
      generalize (((w1.setCell ⟨g6, 0, none⟩ (.slice none 0 0)).setCell ⟨g6, 1, none⟩ (.int .i64 0)).setCell ⟨g6, 2, none⟩ (.int .i64 0)).setCell ⟨g6, 3, none⟩ (.int .i64 1) = ZZ at zr zb ⊢
      obtain ⟨⟨y0, y1, y2, y3⟩, _⟩ := rowN4 zr
      exact bodyPost_ret (v := roV 0 0 1 0 none 0) (by simp only [results, Tryd.results16]; simp [go_sem, y0, y1, y2, y3]) rfl ⟨RoEnd.bad _ _ _, zb⟩
  have hz0 : ¬ z < 0 := by have := cz.1; omega
  have hz3 : ¬ 300 < z := by have := cz.2; omega
  have HZ := Lib.hid cz
  clear cz
  by_cases ci : Pl.Rising m p n
  case neg =>
    rw [Rn.of_form HC4.out (fun x => ci x.2.2)]
    have HCI := Lib.hid (dB_ff ci)
    clear ci
    go_enter Tryd.func16, Tryd.ntmps16
    go_upto_region 1 with fail
    rw [← HW.out, ← HG6.out]
    go_wp2_with fail
    refine (specAssets_any a n cap f _ (H.out.below HB.out) hs).mono ?_
    rintro e w1 ⟨rfl, hb⟩
    rw [HC.out]
    replace HO := Lib.hid (nrow_below HO.out hb)
    replace HB : Hid (Below w.heap.size w w1) := HB.out.trans (hb.mono HB.out.size)
    clear hb
    go_wp2_with fail
    refine (srising_any pa m pc p n _ (HP.out.below HB.out) hm hs).mono ?_
    rintro e w2 ⟨rfl, hb⟩
    rw [HCI.out]
    replace HO := Lib.hid (nrow_below HO.out hb)
    replace HB : Hid (Below w.heap.size w w2) := HB.out.trans (hb.mono HB.out.size)
    clear hb
    obtain ⟨⟨o0, o1, o2, o3⟩, z0, z1, z2, z3⟩ := rowN4 HO.out
    have hol := HO.out.lt
    go_wp2_with fail
    have zr := rput4 HO.out (.slice none 0 0) (.int .i64 0) (.int .i64 0) (.int .i64 1)
    have zb := rbel4 (g := g6) HB.out (by rw [HG6.out]; exact Nat.le_refl _) (.slice none 0 0) (.int .i64 0) (.int .i64 0) (.int .i64 1)
    generalize (((w2.setCell ⟨g6, 0, none⟩ (.slice none 0 0)).setCell ⟨g6, 1, none⟩ (.int .i64 0)).setCell ⟨g6, 2, none⟩ (.int .i64 0)).setCell ⟨g6, 3, none⟩ (.int .i64 1) = ZZ at zr zb ⊢
    obtain ⟨⟨y0, y1, y2, y3⟩, _⟩ := rowN4 zr
    exact bodyPost_ret (v := roV 0 0 1 0 none 0) (by simp only [results, Tryd.results16]; simp [go_sem, y0, y1, y2, y3]) rfl ⟨RoEnd.bad _ _ _, zb⟩
  have HCI := Lib.hid (dB_tt ci)
  have HRI := Lib.hid ci
  have hm40 : m ≤ 40 := Nat.le_trans ci.le hn40
  clear ci
  obtain ⟨i0, hi, hy0, hy1, hy2⟩ := info_parts roinfo
  obtain ⟨O, hO⟩ : ∃ O, O = Rn.of_ n f z m p := ⟨_, rfl⟩
  rw [← hO]
  have HOO := Lib.hid hO
  clear hO
  go_enter Tryd.func16, Tryd.ntmps16
  go_upto_region 1 with fail
  rw [← HW.out, ← HG6.out]
  go_wp2_with fail
  refine (specAssets_any a n cap f _ (H.out.below HB.out) hs).mono ?_
  rintro e w1 ⟨rfl, hb⟩
  rw [HC.out]
  replace HO := Lib.hid (nrow_below HO.out hb)
  replace HB : Hid (Below w.heap.size w w1) := HB.out.trans (hb.mono HB.out.size)
  clear hb
  go_wp2_with fail
  refine (srising_any pa m pc p n _ (HP.out.below HB.out) hm hs).mono ?_
  rintro e w2 ⟨rfl, hb⟩
  rw [HCI.out]
  replace HO := Lib.hid (nrow_below HO.out hb)
  replace HB : Hid (Below w.heap.size w w2) := HB.out.trans (hb.mono HB.out.size)
  clear hb HCI HC HW
  have next : ∀ a7 k7 V, LsOwn 2 1 w.heap.size m a7 k7 p V → Below w2.heap.size w2 V → True := fun _ _ _ _ _ => trivial
  clear next
  have HGL : Hid (g6 < w2.heap.size) := HO.out.lt
  cases pa with
  | none =>
    obtain ⟨hm0, hpc⟩ := HPA.out rfl
    subst hm0 hpc
    go_upto_region 6 with fail
    obtain ⟨X, hX⟩ : ∃ X, X = (w2.alloc (.cells #[] 2)).alloc (.cells #[.slice (some ⟨w2.heap.size, 0, none⟩) 0 0, .int .i64 0, .int .i64 0, .int .i64 0] 26) := ⟨_, rfl⟩
    have HBX : Hid (X.rowIs (w2.heap.size + 1) 26 4 (rowN [.slice (some ⟨w2.heap.size, 0, none⟩) 0 0, .int .i64 0, .int .i64 0, .int .i64 0])) := by show X.rowIs _ _ _ _; rw [hX]; exact rowN_alloc' (by simp) _ _
    have hbX : Below w2.heap.size w2 X := by rw [hX]; exact (nbel_alloc _ _).alloc (by simp) _
    replace HO := Lib.hid (nrow_below HO.out hbX)
    replace HB : Hid (Below w.heap.size w X) := HB.out.trans (hbX.mono HB.out.size)
    have HLX : Hid (LsOwn 2 1 w.heap.size 0 (some ⟨w2.heap.size, 0, none⟩) 0 p X) := Or.inr ⟨w2.heap.size, rfl, by have := HGL.out; rw [HG6.out] at this; omega, 0, rowN [], Nat.le_refl _, by rw [hX]; exact nrow_below (rowN_alloc w2 [] _) (nbel_alloc _ _), fun j hj => absurd hj (by omega)⟩
    have hg7 : w2.heap.size + 1 < X.heap.size := HBX.out.lt
    have hg67 : g6 ≠ w2.heap.size + 1 := by have := HGL.out; omega
    rw [← hX]
    clear hX hbX
    obtain ⟨g7, hg7e⟩ : ∃ g7, g7 = w2.heap.size + 1 := ⟨_, rfl⟩
    rw [← hg7e] at HBX hg7 hg67 ⊢
    clear hg7e
    obtain ⟨⟨o0, o1, o2, o3⟩, z0, z1, z2, z3⟩ := rowN4 HO.out
    obtain ⟨⟨b0, b1, b2, b3⟩, _⟩ := rowN4 HBX.out
    have hol := HO.out.lt
    go_wp2_with fail
    try dsimp only
    go_loopw [8] (fun iv wr => iv = .int .i64 0 ∧ wr = X) (fun _ _ => 0)
    case atStart => exact ⟨rfl, rfl⟩
    case round =>
      obtain ⟨rfl, rfl⟩ := hrel
      go_wp2_with fail
      have zr := rput4 HO.out (.slice (some ⟨w2.heap.size, 0, none⟩) 0 0) (.int .i64 0) (.int .i64 0) (.int .i64 0)
      have zb := rbel4 (g := g6) HB.out (by rw [HG6.out]; exact Nat.le_refl _) (.slice (some ⟨w2.heap.size, 0, none⟩) 0 0) (.int .i64 0) (.int .i64 0) (.int .i64 0)
      have zl := lsown4 HLX.out HO.out (by decide) (.slice (some ⟨w2.heap.size, 0, none⟩) 0 0) (.int .i64 0) (.int .i64 0) (.int .i64 0)
      generalize (((wr.setCell ⟨g6, 0, none⟩ (.slice (some ⟨w2.heap.size, 0, none⟩) 0 0)).setCell ⟨g6, 1, none⟩ (.int .i64 0)).setCell ⟨g6, 2, none⟩ (.int .i64 0)).setCell ⟨g6, 3, none⟩ (.int .i64 0) = ZZ at zr zb zl ⊢
      obtain ⟨⟨y0, y1, y2, y3⟩, _⟩ := rowN4 zr
      refine bodyPost_ret (v := roV 0 0 0 0 (some ⟨w2.heap.size, 0, none⟩) 0) (by simp only [results, Tryd.results16]; simp [go_sem, y0, y1, y2, y3]) rfl ⟨⟨some ⟨w2.heap.size, 0, none⟩, 0, ?_, ?_⟩, zb⟩
      · rw [HOO.out, Rn.of_ok HC4.out ⟨HRT.out, HZ.out, HRI.out⟩ (by show ¬ z < 0; exact fun h => absurd h (by have := HZ.out.1; omega))]
        rfl
      · rw [HOO.out, Rn.of_ok HC4.out ⟨HRT.out, HZ.out, HRI.out⟩ (by show ¬ z < 0; exact fun h => absurd h (by have := HZ.out.1; omega))]
        exact zl
  | some ad =>
    go_upto_region 6 with (at_builtin; refine wpList_append_own _ rfl _ _ 24 rfl w2.heap.size 2 i0 (.int .i64 0) 1 8 Tryd.underlying24 hi hy0 hy1 hy2 rfl (by decide) _ _ _ rfl (World.ownsRow_made w2 #[] 0 (Nat.le_refl _) (Nat.zero_le _) rfl) ad m pc ((List.range m).map (fun j => Value.int .i64 (p j))) rfl ?qc1 ?qc2 ?qc3 ?qc4 ?qc5 ?qc6 ?_)
    case qc1 => simp
    case qc2 =>
      intro j u hj
      have hjn : j < m := by
        have := (List.getElem?_eq_some_iff.1 hj).1
        simpa using this
      obtain ⟨b, e, hc⟩ := (HP.out.below HB.out).at1 hjn
      simp at e
      subst e
      have hj2 : u = .int .i64 (p j) := by simp [hjn] at hj; exact hj.symm
      rw [Addr.add_lit, hj2]
      refine Lib.cell?_alloc_some _ ?_
      rw [Nat.zero_add]
      exact hc
    case qc3 =>
      intro u hu
      obtain ⟨x, _, rfl⟩ := List.mem_map.1 hu
      rfl
    case qc4 => unfold maxLen; omega
    case qc5 => omega
    case qc6 => simp
    intro v' w3 hown hgrow hnil
    have HB3 : Hid (Below w2.heap.size w2 w3) := ((Below.refl _ w2).alloc (Nat.le_refl _) _).grown hgrow (by simp) (by intro k hk; simp [Value.ownBlock] at hk; omega)
    have hown' : w3.ownsRow w2.heap.size 2 1 v' m ((List.range m).map (fun j => Value.int .i64 (p j))) := by simpa using hown
    obtain ⟨a7, k7, rfl, hL⟩ := rvs_own hown'
    have HL : Hid (LsOwn 2 1 w.heap.size m a7 k7 p w3) := hL.low HB.out.size
    clear hown hown' hgrow hnil hL
    go_upto_region 6 with fail
    obtain ⟨X, hX⟩ : ∃ X, X = w3.alloc (.cells #[.slice a7 m k7, .int .i64 0, .int .i64 0, .int .i64 0] 26) := ⟨_, rfl⟩
    have HBX0 : Hid (X.rowIs w3.heap.size 26 4 (rowN [.slice a7 m k7, .int .i64 0, .int .i64 0, .int .i64 0])) := by show X.rowIs _ _ _ _; rw [hX]; exact rowN_alloc _ _ _
    have hbX : Below w3.heap.size w3 X := by rw [hX]; exact nbel_alloc _ _
    replace HO := Lib.hid (nrow_below (nrow_below HO.out HB3.out) hbX)
    replace HB : Hid (Below w.heap.size w X) := HB.out.trans ((HB3.out.trans (hbX.mono HB3.out.size)).mono HB.out.size)
    replace HL := Lib.hid (HL.out.below hbX)
    have hsz : w2.heap.size ≤ w3.heap.size := HB3.out.size
    rw [← hX]
    clear hX hbX HB3
    obtain ⟨g7, hg7e⟩ : ∃ g7, g7 = w3.heap.size := ⟨_, rfl⟩
    rw [← hg7e] at HBX0 hsz ⊢
    have HG : Hid (w.heap.size ≤ g7 ∧ g6 ≠ g7) := by have := HGL.out; have := HG6.out; exact ⟨by omega, by omega⟩
    clear hg7e hsz
    go_wp2_with fail
    try dsimp only
    go_loopw [8] (fun iv wr => ∃ (i : Nat), i ≤ m ∧ iv = .int .i64 i ∧ Hid (wr.rowIs g7 26 4 (rowN [.slice a7 m k7, .int .i64 (Rn.sm f 0 p i), .int .i64 (Rn.sm f 1 p i), .int .i64 0])) ∧ Hid (wr.rowIs g6 26 4 (rowN [.slice none 0 0, .int .i64 0, .int .i64 0, .int .i64 0]) ∧ LsOwn 2 1 w.heap.size m a7 k7 p wr ∧ Below w.heap.size w wr)) (fun iv _ => m - (intOf iv).toNat)
    case atStart => exact ⟨0, Nat.zero_le _, rfl, HBX0, ⟨HO.out, HL.out, HB.out⟩⟩
    case round =>
      obtain ⟨i, hi', rfl, HBX, hR⟩ := hrel
      clear HBX0 HO HL HB
      have bd0 := Rn.sm_bd (f := f) (k := 0) (p := p) (n := n) (m := i) (M := 300) (fun t ht => by have := (HRT.out.2 t ht).1; simp only [Nat.add_zero]; omega) (fun t ht => by have := (HRI.out t (by omega)).1; omega)
      have bd1 := Rn.sm_bd (f := f) (k := 1) (p := p) (n := n) (m := i) (M := 1000) (fun t ht => (HRT.out.2 t ht).2) (fun t ht => by have := (HRI.out t (by omega)).1; omega)
      by_cases hlt : i < m
      case neg =>
        obtain rfl : i = m := by omega
        clear bd0 bd1
        obtain ⟨csF, hcsF⟩ : ∃ x, x = Rn.sm f 0 p i := ⟨_, rfl⟩
        obtain ⟨woF, hwoF⟩ : ∃ x, x = Rn.sm f 1 p i := ⟨_, rfl⟩
        rw [← hcsF, ← hwoF] at HBX
        have HCS := Lib.hid hcsF
        have HWO := Lib.hid hwoF
        clear hcsF hwoF
        have HO := Lib.hid hR.out.1
        have HB := Lib.hid hR.out.2.2
        obtain ⟨⟨o0, o1, o2, o3⟩, z0, z1, z2, z3⟩ := rowN4 HO.out
        obtain ⟨⟨b0, b1, b2, b3⟩, _⟩ := rowN4 HBX.out
        have hol := HO.out.lt
        by_cases hzc : z < csF
        · have HE : Hid (O = Rn.bad 6) := by show O = _; rw [HOO.out]; exact Rn.of_short HC4.out ⟨HRT.out, HZ.out, HRI.out⟩ (by rw [← HCS.out]; exact hzc)
          go_wp2_with fail
          have zr := rput4 HO.out (.slice none 0 0) (.int .i64 0) (.int .i64 0) (.int .i64 6)
          have zb := rbel4 (g := g6) HB.out (by rw [HG6.out]; exact Nat.le_refl _) (.slice none 0 0) (.int .i64 0) (.int .i64 0) (.int .i64 6)
          generalize (((wr.setCell ⟨g6, 0, none⟩ (.slice none 0 0)).setCell ⟨g6, 1, none⟩ (.int .i64 0)).setCell ⟨g6, 2, none⟩ (.int .i64 0)).setCell ⟨g6, 3, none⟩ (.int .i64 6) = ZZ at zr zb ⊢
          obtain ⟨⟨y0, y1, y2, y3⟩, _⟩ := rowN4 zr
          exact bodyPost_ret (v := roV 0 0 6 0 none 0) (by simp only [results, Tryd.results16]; simp [go_sem, y0, y1, y2, y3]) rfl ⟨by rw [HE.out]; exact RoEnd.bad _ _ _, zb⟩
        · have HE : Hid (O = ⟨csF, woF, 0, i, p⟩) := by show O = _; rw [HOO.out, Rn.of_ok HC4.out ⟨HRT.out, HZ.out, HRI.out⟩ (by rw [← HCS.out]; exact hzc), ← HCS.out, ← HWO.out]
          go_wp2_with fail
          have zr := rput4 HO.out (.slice a7 i k7) (.int .i64 csF) (.int .i64 woF) (.int .i64 0)
          have zb := rbel4 (g := g6) HB.out (by rw [HG6.out]; exact Nat.le_refl _) (.slice a7 i k7) (.int .i64 csF) (.int .i64 woF) (.int .i64 0)
          have zl := lsown4 hR.out.2.1 HO.out (by decide) (.slice a7 i k7) (.int .i64 csF) (.int .i64 woF) (.int .i64 0)
          generalize (((wr.setCell ⟨g6, 0, none⟩ (.slice a7 i k7)).setCell ⟨g6, 1, none⟩ (.int .i64 csF)).setCell ⟨g6, 2, none⟩ (.int .i64 woF)).setCell ⟨g6, 3, none⟩ (.int .i64 0) = ZZ at zr zb zl ⊢
          obtain ⟨⟨y0, y1, y2, y3⟩, _⟩ := rowN4 zr
          exact bodyPost_ret (v := roV csF woF 0 i a7 k7) (by simp only [results, Tryd.results16]; simp [go_sem, y0, y1, y2, y3]) rfl ⟨⟨a7, k7, by rw [HE.out], by rw [HE.out]; exact zl⟩, zb⟩
      have hltz : (i : Int) < (m : Int) := by omega
      have hri := (HRI.out i hlt).1
      obtain ⟨pb, e, c0⟩ := (HP.out.below hR.out.2.2).at1 hlt
      cases e
      obtain ⟨q, hq⟩ : ∃ q : Nat, p i = (q : Int) := ⟨(p i).toNat, by omega⟩
      have hqn : q < n := by omega
      have hqz : (q : Int) < (n : Int) := by omega
      obtain ⟨lb, e, c1, c2⟩ := (H.out.below hR.out.2.2).at2 hqn
      subst e
      obtain ⟨lb2, e, c3, _⟩ := H.out.at2 hqn
      cases e
      obtain ⟨pb2, e, c5⟩ := HP.out.at1 hlt
      cases e
      rw [hq] at c0
      obtain ⟨x0, hx0⟩ : ∃ x0, x0 = f (q * 2) := ⟨_, rfl⟩
      obtain ⟨x1, hx1⟩ : ∃ x1, x1 = f (q * 2 + 1) := ⟨_, rfl⟩
      rw [← hx0] at c1
      rw [← hx1] at c2
      have HS : Hid (OfR w g6 lb pb i q m a7 k7 p x0 x1 wr) := ⟨⟨c0, c1, c2⟩, hR.out.1, hR.out.2.1, hR.out.2.2, World.block_lt_of_cell? _ _ c3, World.block_lt_of_cell? _ _ c5⟩
      obtain ⟨csO, hcsO⟩ : ∃ x, x = Rn.sm f 0 p i := ⟨_, rfl⟩
      obtain ⟨woO, hwoO⟩ : ∃ x, x = Rn.sm f 1 p i := ⟨_, rfl⟩
      rw [← hcsO, ← hwoO] at HBX
      obtain ⟨csN, hcsN⟩ : ∃ x, x = csO + x0 := ⟨_, rfl⟩
      obtain ⟨woN, hwoN⟩ : ∃ x, x = woO + x1 := ⟨_, rfl⟩
      have ex0 := (HRT.out.2 q hqn).1
      have ex1 := (HRT.out.2 q hqn).2
      have e10 : IntKind.i64.wrap (csO + x0) = csN := by rw [rwrap (by omega) (by omega), hcsN]
      have e11 : IntKind.i64.wrap (woO + x1) = woN := by rw [rwrap (by omega) (by omega), hwoN]
      have HCN : Hid (csN = Rn.sm f 0 p (i + 1)) := by
        show csN = Rn.sm f 0 p i + f ((p i).toNat * 2 + 0)
        rw [hcsN, hcsO, hx0, hq, Int.toNat_natCast, Nat.add_zero]
      have HWN : Hid (woN = Rn.sm f 1 p (i + 1)) := by
        show woN = Rn.sm f 1 p i + f ((p i).toNat * 2 + 1)
        rw [hwoN, hwoO, hx1, hq, Int.toNat_natCast]
      clear hcsO hwoO hcsN hwoN ex0 ex1 hx0 hx1 hq c0 c1 c2 c3 c5 hri bd0 bd1 hR
      go_wp2_with fail
      refine wp_region_held_drew (S := fun V => OfR w g6 lb pb i q m a7 k7 p x0 x1 V) (by kernel_rfl) (HS.out.below (Below.refl _ _).drew) (fun hHeld => ?_)
      obtain ⟨Z1, hZ⟩ : ∃ Z, Z = wr.drew := ⟨_, rfl⟩
      have HBX1 : Hid (Z1.rowIs g7 26 4 (rowN [.slice a7 m k7, .int .i64 csO, .int .i64 woO, .int .i64 0])) := by show World.rowIs _ _ _ _ _; rw [hZ]; exact nrow_below HBX.out (Below.refl _ _).drew
      rw [← hZ] at hHeld ⊢
      clear hZ HS HBX
      refine take_do (i := 0) (v := (.pointer (some ⟨g7, 1, none⟩))) rfl (by kernel_rfl) (by kernel_rfl) (by kernel_rfl) (fun _ _ _ h => h) (by rfl) ?_ (by assumption) ?_
      · intro w hSw
        obtain ⟨⟨q0, q1, q2⟩, _⟩ := hSw
        go_simp
      simp only [Act.put, List.setIfInBounds_toArray, List.set_cons_zero, List.set_cons_succ]
      refine take_do (i := 2) (v := (.slice (some ⟨lb, 0, none⟩) n cap)) rfl (by kernel_rfl) (by kernel_rfl) (by kernel_rfl) (fun _ _ _ h => h) (by rfl) ?_ (by assumption) ?_
      · intro w hSw
        obtain ⟨⟨q0, q1, q2⟩, _⟩ := hSw
        go_simp
      simp only [Act.put, List.setIfInBounds_toArray, List.set_cons_zero, List.set_cons_succ]
      refine take_do (i := 3) (v := (.slice (some ⟨pb, 0, none⟩) m pc)) rfl (by kernel_rfl) (by kernel_rfl) (by kernel_rfl) (fun _ _ _ h => h) (by rfl) ?_ (by assumption) ?_
      · intro w hSw
        obtain ⟨⟨q0, q1, q2⟩, _⟩ := hSw
        go_simp
      simp only [Act.put, List.setIfInBounds_toArray, List.set_cons_zero, List.set_cons_succ]
      refine take_do (i := 4) (v := (.int .i64 i)) rfl (by kernel_rfl) (by kernel_rfl) (by kernel_rfl) (fun _ _ _ h => h) (by rfl) ?_ (by assumption) ?_
      · intro w hSw
        obtain ⟨⟨q0, q1, q2⟩, _⟩ := hSw
        go_simp
      simp only [Act.put, List.setIfInBounds_toArray, List.set_cons_zero, List.set_cons_succ]
      refine take_do (i := 5) (v := (.pointer (some ⟨pb, i, none⟩))) rfl (by kernel_rfl) (by kernel_rfl) (by kernel_rfl) (fun _ _ _ h => h) (by rfl) ?_ (by assumption) ?_
      · intro w hSw
        obtain ⟨⟨q0, q1, q2⟩, _⟩ := hSw
        go_simp
      simp only [Act.put, List.setIfInBounds_toArray, List.set_cons_zero, List.set_cons_succ]
      refine take_do (i := 6) (v := (.int .i64 q)) rfl (by kernel_rfl) (by kernel_rfl) (by kernel_rfl) (fun _ _ _ h => h) (by rfl) ?_ (by assumption) ?_
      · intro w hSw
        obtain ⟨⟨q0, q1, q2⟩, _⟩ := hSw
        go_simp
      simp only [Act.put, List.setIfInBounds_toArray, List.set_cons_zero, List.set_cons_succ]
      refine take_do (i := 7) (v := (.pointer (some ⟨lb, q * 2, none⟩))) rfl (by kernel_rfl) (by kernel_rfl) (by kernel_rfl) (fun _ _ _ h => h) (by rfl) ?_ (by assumption) ?_
      · intro w hSw
        obtain ⟨⟨q0, q1, q2⟩, _⟩ := hSw
        go_simp
      simp only [Act.put, List.setIfInBounds_toArray, List.set_cons_zero, List.set_cons_succ]
      refine take_do (i := 8) (v := (.pointer (some ⟨lb, q * 2, none⟩))) rfl (by kernel_rfl) (by kernel_rfl) (by kernel_rfl) (fun _ _ _ h => h) (by rfl) ?_ (by assumption) ?_
      · intro w hSw
        obtain ⟨⟨q0, q1, q2⟩, _⟩ := hSw
        go_simp
      simp only [Act.put, List.setIfInBounds_toArray, List.set_cons_zero, List.set_cons_succ]
      refine take_do (i := 9) (v := (.int .i64 x0)) rfl (by kernel_rfl) (by kernel_rfl) (by kernel_rfl) (fun _ _ _ h => h) (by rfl) ?_ (by assumption) ?_
      · intro w hSw
        obtain ⟨⟨q0, q1, q2⟩, _⟩ := hSw
        go_simp
      simp only [Act.put, List.setIfInBounds_toArray, List.set_cons_zero, List.set_cons_succ]
      obtain ⟨⟨b0, b1, b2, b3⟩, z0, z1, z2, z3⟩ := rowN4 HBX1.out
      have hol := HBX1.out.lt
      refine take_call (i := 1) rfl (by kernel_rfl) (fun K2 hK => ?_)
      go_simp
      refine hK.out _ _ hHeld (fun hHeld2 => ?_)
      clear hK hHeld
      have hHeld := hHeld2
      clear hHeld2
      refine take_do (i := 10) (v := (.int .i64 csN)) rfl (by kernel_rfl) (by kernel_rfl) (by kernel_rfl) (fun _ _ _ h => h) (by rfl) ?_ (by assumption) ?_
      · intro w hSw
        obtain ⟨⟨q0, q1, q2⟩, _⟩ := hSw
        go_simp
      simp only [Act.put, List.setIfInBounds_toArray, List.set_cons_zero, List.set_cons_succ]
      refine take_do (i := 11) (v := (.pointer (some ⟨g7, 1, none⟩))) rfl (by kernel_rfl) (by kernel_rfl) (by kernel_rfl) (fun _ _ _ h => h) (by rfl) ?_ (by assumption) ?_
      · intro w hSw
        obtain ⟨⟨q0, q1, q2⟩, _⟩ := hSw
        go_simp
      simp only [Act.put, List.setIfInBounds_toArray, List.set_cons_zero, List.set_cons_succ]
      refine take_call (i := 12) rfl (by kernel_rfl) (fun K2 hK => ?_)
      go_simp
      have HS : Hid (OfR w g6 lb pb i q m a7 k7 p x0 x1 (Z1.setCell ⟨g7, 1, none⟩ (.int .i64 csN))) := hHeld.set HBX1.out HG.out 1 _
      have HBX : Hid ((Z1.setCell ⟨g7, 1, none⟩ (.int .i64 csN)).rowIs g7 26 4 (rowN [.slice a7 m k7, .int .i64 csN, .int .i64 woO, .int .i64 0])) := rowN_put HBX1.out 1 _ (by simp)
      generalize Z1.setCell ⟨g7, 1, none⟩ (.int .i64 csN) = Y1 at HS HBX ⊢
      clear b0 b1 b2 b3 z0 z1 z2 z3 hol HBX1
      refine hK.out _ _ HS.out (fun hHeld2 => ?_)
      clear hK hHeld hHeld2
      refine wpAnyH_done (by kernel_rfl) ?_ _
      go_wp2_with fail
      refine wp_region_held_drew (S := fun V => OfR w g6 lb pb i q m a7 k7 p x0 x1 V) (by kernel_rfl) (HS.out.below (Below.refl _ _).drew) (fun hHeld => ?_)
      obtain ⟨Z2, hZ⟩ : ∃ Z, Z = Y1.drew := ⟨_, rfl⟩
      have HBX2 : Hid (Z2.rowIs g7 26 4 (rowN [.slice a7 m k7, .int .i64 csN, .int .i64 woO, .int .i64 0])) := by show World.rowIs _ _ _ _ _; rw [hZ]; exact nrow_below HBX.out (Below.refl _ _).drew
      rw [← hZ] at hHeld ⊢
      clear hZ HS HBX
      refine take_do (i := 0) (v := (.pointer (some ⟨g7, 2, none⟩))) rfl (by kernel_rfl) (by kernel_rfl) (by kernel_rfl) (fun _ _ _ h => h) (by rfl) ?_ (by assumption) ?_
      · intro w hSw
        obtain ⟨⟨q0, q1, q2⟩, _⟩ := hSw
        go_simp
      simp only [Act.put, List.setIfInBounds_toArray, List.set_cons_zero, List.set_cons_succ]
      refine take_do (i := 2) (v := (.slice (some ⟨lb, 0, none⟩) n cap)) rfl (by kernel_rfl) (by kernel_rfl) (by kernel_rfl) (fun _ _ _ h => h) (by rfl) ?_ (by assumption) ?_
      · intro w hSw
        obtain ⟨⟨q0, q1, q2⟩, _⟩ := hSw
        go_simp
      simp only [Act.put, List.setIfInBounds_toArray, List.set_cons_zero, List.set_cons_succ]
      refine take_do (i := 3) (v := (.slice (some ⟨pb, 0, none⟩) m pc)) rfl (by kernel_rfl) (by kernel_rfl) (by kernel_rfl) (fun _ _ _ h => h) (by rfl) ?_ (by assumption) ?_
      · intro w hSw
        obtain ⟨⟨q0, q1, q2⟩, _⟩ := hSw
        go_simp
      simp only [Act.put, List.setIfInBounds_toArray, List.set_cons_zero, List.set_cons_succ]
      refine take_do (i := 4) (v := (.int .i64 i)) rfl (by kernel_rfl) (by kernel_rfl) (by kernel_rfl) (fun _ _ _ h => h) (by rfl) ?_ (by assumption) ?_
      · intro w hSw
        obtain ⟨⟨q0, q1, q2⟩, _⟩ := hSw
        go_simp
      simp only [Act.put, List.setIfInBounds_toArray, List.set_cons_zero, List.set_cons_succ]
      refine take_do (i := 5) (v := (.pointer (some ⟨pb, i, none⟩))) rfl (by kernel_rfl) (by kernel_rfl) (by kernel_rfl) (fun _ _ _ h => h) (by rfl) ?_ (by assumption) ?_
      · intro w hSw
        obtain ⟨⟨q0, q1, q2⟩, _⟩ := hSw
        go_simp
      simp only [Act.put, List.setIfInBounds_toArray, List.set_cons_zero, List.set_cons_succ]
      refine take_do (i := 6) (v := (.int .i64 q)) rfl (by kernel_rfl) (by kernel_rfl) (by kernel_rfl) (fun _ _ _ h => h) (by rfl) ?_ (by assumption) ?_
      · intro w hSw
        obtain ⟨⟨q0, q1, q2⟩, _⟩ := hSw
        go_simp
      simp only [Act.put, List.setIfInBounds_toArray, List.set_cons_zero, List.set_cons_succ]
      refine take_do (i := 7) (v := (.pointer (some ⟨lb, q * 2, none⟩))) rfl (by kernel_rfl) (by kernel_rfl) (by kernel_rfl) (fun _ _ _ h => h) (by rfl) ?_ (by assumption) ?_
      · intro w hSw
        obtain ⟨⟨q0, q1, q2⟩, _⟩ := hSw
        go_simp
      simp only [Act.put, List.setIfInBounds_toArray, List.set_cons_zero, List.set_cons_succ]
      refine take_do (i := 8) (v := (.pointer (some ⟨lb, q * 2 + 1, none⟩))) rfl (by kernel_rfl) (by kernel_rfl) (by kernel_rfl) (fun _ _ _ h => h) (by rfl) ?_ (by assumption) ?_
      · intro w hSw
        obtain ⟨⟨q0, q1, q2⟩, _⟩ := hSw
        go_simp
      simp only [Act.put, List.setIfInBounds_toArray, List.set_cons_zero, List.set_cons_succ]
      refine take_do (i := 9) (v := (.int .i64 x1)) rfl (by kernel_rfl) (by kernel_rfl) (by kernel_rfl) (fun _ _ _ h => h) (by rfl) ?_ (by assumption) ?_
      · intro w hSw
        obtain ⟨⟨q0, q1, q2⟩, _⟩ := hSw
        go_simp
      simp only [Act.put, List.setIfInBounds_toArray, List.set_cons_zero, List.set_cons_succ]
      obtain ⟨⟨b0, b1, b2, b3⟩, z0, z1, z2, z3⟩ := rowN4 HBX2.out
      have hol := HBX2.out.lt
      refine take_call (i := 1) rfl (by kernel_rfl) (fun K2 hK => ?_)
      go_simp
      refine hK.out _ _ hHeld (fun hHeld2 => ?_)
      clear hK hHeld
      have hHeld := hHeld2
      clear hHeld2
      refine take_do (i := 10) (v := (.int .i64 woN)) rfl (by kernel_rfl) (by kernel_rfl) (by kernel_rfl) (fun _ _ _ h => h) (by rfl) ?_ (by assumption) ?_
      · intro w hSw
        obtain ⟨⟨q0, q1, q2⟩, _⟩ := hSw
        go_simp
      simp only [Act.put, List.setIfInBounds_toArray, List.set_cons_zero, List.set_cons_succ]
      refine take_do (i := 11) (v := (.pointer (some ⟨g7, 2, none⟩))) rfl (by kernel_rfl) (by kernel_rfl) (by kernel_rfl) (fun _ _ _ h => h) (by rfl) ?_ (by assumption) ?_
      · intro w hSw
        obtain ⟨⟨q0, q1, q2⟩, _⟩ := hSw
        go_simp
      simp only [Act.put, List.setIfInBounds_toArray, List.set_cons_zero, List.set_cons_succ]
      refine take_call (i := 12) rfl (by kernel_rfl) (fun K2 hK => ?_)
      go_simp
      have HS : Hid (OfR w g6 lb pb i q m a7 k7 p x0 x1 (Z2.setCell ⟨g7, 2, none⟩ (.int .i64 woN))) := hHeld.set HBX2.out HG.out 2 _
      have HBX : Hid ((Z2.setCell ⟨g7, 2, none⟩ (.int .i64 woN)).rowIs g7 26 4 (rowN [.slice a7 m k7, .int .i64 csN, .int .i64 woN, .int .i64 0])) := rowN_put HBX2.out 2 _ (by simp)
      generalize Z2.setCell ⟨g7, 2, none⟩ (.int .i64 woN) = Y2 at HS HBX ⊢
      clear b0 b1 b2 b3 z0 z1 z2 z3 hol HBX2
      refine hK.out _ _ HS.out (fun hHeld2 => ?_)
      clear hK hHeld hHeld2
      refine wpAnyH_done (by kernel_rfl) ?_ _
      go_wp2_with fail
      go_roundw
      case rel => exact ⟨i + 1, by omega, by go_num, by rw [← HCN.out, ← HWN.out]; exact HBX.out, ⟨HS.out.2.1, HS.out.2.2.1, HS.out.2.2.2.1⟩⟩
      case measure => simp [intOf]; omega
end Go.Proofs.YtbkpedcabbppbaaDoor
