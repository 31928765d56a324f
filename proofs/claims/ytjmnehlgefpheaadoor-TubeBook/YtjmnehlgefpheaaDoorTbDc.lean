/-
  Both packages' TubeDecay.
-/
import Derived.Test.YtjmnehlgefpheaaDoorTbF4
namespace Go.Proofs.YtjmnehlgefpheaaDoor
open Go.RowKit Go.Deep

namespace Tb
open Classical in
/-- What TubeDecay answers. -/
noncomputable def decR (r : Int) (l : List Pc) (m : Int) : Int := if Right r l ∧ 0 ≤ m ∧ m ≤ 1000 then r else 0
open Classical in
noncomputable def decL (r : Int) (l : List Pc) (m : Int) : List Pc := if Right r l ∧ 0 ≤ m ∧ m ≤ 1000 then l.map (dec m) else []
theorem dec_no {r : Int} {l : List Pc} {m : Int} (h : ¬ (Right r l ∧ 0 ≤ m ∧ m ≤ 1000)) : decR r l m = 0 ∧ decL r l m = [] := by unfold decR decL; rw [if_neg h, if_neg h]; exact ⟨rfl, rfl⟩
theorem dec_yes {r : Int} {l : List Pc} {m : Int} (h : Right r l ∧ 0 ≤ m ∧ m ≤ 1000) : decR r l m = r ∧ decL r l m = l.map (dec m) := by unfold decR decL; rw [if_pos h, if_pos h]; exact ⟨rfl, rfl⟩
end Tb
theorem grown_of_below {W W' : World} (hb : Below W.heap.size W W') (row : Option Nat) : W.grownBy W' row := ⟨hb.os, hb.tape, hb.output, hb.size, fun k hk _ => hb.block k hk⟩
theorem own_below {B n s : Nat} {t : TypeId} {v : Value} {xs : List Value} {W W' : World} (h : W.ownsRow B t s v n xs) (hb : Below W.heap.size W W') : W'.ownsRow B t s v n xs := by
  refine World.ownsRow.kept h (grown_of_below hb none) ?_
  cases hv : v.ownBlock with
  | none => exact Or.inl rfl
  | some k => exact Or.inr (by simp)
/-- An answer that is a tube. -/
def TbEnd (B : Nat) (r : Int) (l : List Tb.Pc) (e : Ending) (W : World) : Prop := ∃ a c, e = .returned (tbV r a l.length c) ∧ OwL 38 B (l.length * 3) a c (Tb.fl l) W
theorem pcAt_of {g : Nat} {l : List Tb.Pc} {W : World} (h : IsAt (some ⟨g, 0, none⟩) (l.length * 3) (Tb.fl l) W) : PcAt g l.length (Tb.pg l) W := fun i hi => by
  obtain ⟨b, e, c⟩ := h.pc hi
  cases e
  exact c
theorem dn_rev (l : List Tb.Pc) : (dn l.length l.length).map (Tb.pg l) = l.reverse := by
  refine Tb.pg_ext (by simp [dn]) (fun j hj => ?_)
  have hj2 : j < l.length := by simpa [dn] using hj
  rw [Tb.pg_rev hj2]
  unfold dn
  conv => lhs; unfold Tb.pg
  simp only [List.getD_eq_getElem?_getD, List.getElem?_map, List.getElem?_range hj2, Option.map_some, Option.getD_some]
  rfl
/-- What stands from round to round of the model's decay. -/
structure SdS (s o : Nat) (r : Int) (a : Option Addr) (l : List Tb.Pc) (k : Nat) (m : Int) (i : Nat) (lv : Value) (w w0 W : World) : Prop where
  tub : W.rowIs s 25 2 (rowN [.int .i64 r, .slice a l.length k])
  res : W.rowIs (s + 1) 25 2 (rowN [.int .i64 0, .slice none 0 0])
  out : W.rowIs o 25 2 (rowN [.int .i64 r, lv])
  own : W.ownsRow (o + 1) 38 3 lv i (pv ((l.take i).map (Tb.dec m)))
  bel : Below s w W
  old : Below o w0 W
theorem SdS.below {s o : Nat} {r : Int} {a : Option Addr} {l : List Tb.Pc} {k : Nat} {m : Int} {i : Nat} {lv : Value} {w w0 W W' : World} (h : SdS s o r a l k m i lv w w0 W) (hs : s ≤ W.heap.size) (hb : Below W.heap.size W W') : SdS s o r a l k m i lv w w0 W' :=
  ⟨nrow_below h.tub hb, nrow_below h.res hb, nrow_below h.out hb, own_below h.own hb, h.bel.trans (hb.mono hs), h.old.trans (hb.mono (Nat.le_of_lt h.out.lt))⟩
set_option maxRecDepth 100000 in
set_option maxHeartbeats 4000000 in
theorem sDecay_any (r : Int) (a : Option Addr) (l : List Tb.Pc) (k : Nat) (m : Int) (w : World) (h : IsAt a (l.length * 3) (Tb.fl l) w) :
    Calls Tryd.prog 33 #[tbV r a l.length k, .int .i64 m] w fun e w' => TbEnd w.heap.size (Tb.decR r l m) (Tb.decL r l m) e w' ∧ Below w.heap.size w w' := by
  obtain ⟨i1, hi1, hy0, hy1, hy2⟩ := info_parts pinfo
  obtain ⟨W, hW⟩ : ∃ W, W = (w.alloc (.cells #[.int .i64 r, .slice a l.length k] 25)).alloc (.cells #[.int .i64 0, .slice none 0 0] 25) := ⟨_, rfl⟩
  have HG : Hid (Below w.heap.size w W) := by show Below _ _ _; rw [hW]; exact (nbel_alloc _ _).alloc (by simp) _
  have HR : Hid (W.rowIs w.heap.size 25 2 (rowN [.int .i64 r, .slice a l.length k])) := by show W.rowIs _ _ _ _; rw [hW]; exact nrow_below (rowN_alloc w _ _) (nbel_alloc _ _)
  have HO : Hid (W.rowIs (w.heap.size + 1) 25 2 (rowN [.int .i64 0, .slice none 0 0])) := by show W.rowIs _ _ _ _; rw [hW]; exact rowN_alloc' (by simp) _ _
  have HSZ : Hid (W.heap.size = w.heap.size + 2) := by show _ = _; rw [hW]; simp
  obtain ⟨⟨x0, x1⟩, _⟩ := rowN2 HR.out
  rw [hW] at x0 x1
  have HW := Lib.hid hW
  have H := Lib.hid (h.below HG.out)
  clear hW h
  go_enter Tryd.func33, Tryd.ntmps33
  go_wp2_with fail
  rw [← HW.out]
  clear HW x0 x1
  refine (sTRight_any r a l k _ H.out).mono ?_
  rintro e w0 ⟨⟨b1, rfl, hb1⟩, hb⟩
  have K1 := Lib.hid hb1
  have HR0 := Lib.hid (nrow_below HR.out hb)
  have HO0 := Lib.hid (nrow_below HO.out hb)
  have H0 := Lib.hid (H.out.below hb)
  have HG0 : Hid (Below w.heap.size w w0) := HG.out.trans (hb.mono HG.out.size)
  have HSZ0 : Hid (w.heap.size + 2 ≤ w0.heap.size) := by show _ ≤ _; have := HSZ.out; have := hb.size; omega
  clear hb1 hb HR H HG HO
  obtain ⟨⟨x0, x1⟩, _⟩ := rowN2 HR0.out
  obtain ⟨⟨y0, y1⟩, z0, z1⟩ := rowN2 HO0.out
  have hol : w.heap.size + 1 < w0.heap.size := HO0.out.lt
  have NO : Hid (¬ (Tb.Right r l ∧ 0 ≤ m ∧ m ≤ 1000) → TbEnd w.heap.size (Tb.decR r l m) (Tb.decL r l m) (.returned (tbV 0 none 0 0)) ((w0.setCell ⟨w.heap.size + 1, 0, none⟩ (.int .i64 0)).setCell ⟨w.heap.size + 1, 1, none⟩ (.slice none 0 0)) ∧ Below w.heap.size w ((w0.setCell ⟨w.heap.size + 1, 0, none⟩ (.int .i64 0)).setCell ⟨w.heap.size + 1, 1, none⟩ (.slice none 0 0))) := by
    intro hno
    obtain ⟨e1, e2⟩ := Tb.dec_no hno
    rw [e1, e2]
    exact ⟨⟨none, 0, rfl, Or.inl ⟨rfl, rfl, rfl⟩⟩, (HG0.out.setCell (p := ⟨w.heap.size + 1, 0, none⟩) (by show w.heap.size ≤ w.heap.size + 1; omega) _).setCell (p := ⟨w.heap.size + 1, 1, none⟩) (by show w.heap.size ≤ w.heap.size + 1; omega) _⟩
  obtain ⟨⟨v0, v1⟩, _⟩ := rowN2 (rowN_put (rowN_put HO0.out 0 (.int .i64 0) (by simp)) 1 (.slice none 0 0) (by simp))
  have V := Lib.hid (And.intro v0 v1)
  clear v0 v1
  rcases b1 with _ | _
  · go_wp2_with fail
    exact bodyPost_ret (v := tbV 0 none 0 0) (by obtain ⟨v0, v1⟩ := V.out; simp only [results, Tryd.results33]; simp [go_sem, v0, v1]) rfl (NO.out (fun h => by have := K1.out.2 h.1; cases this))
  have HRT : Hid (Tb.Right r l) := K1.out.1 rfl
  clear K1
  by_cases m0 : m < 0
  · go_wp2_with fail
    exact bodyPost_ret (v := tbV 0 none 0 0) (by obtain ⟨v0, v1⟩ := V.out; simp only [results, Tryd.results33]; simp [go_sem, v0, v1]) rfl (NO.out (fun h => by omega))
  by_cases m1 : 1000 < m
  · go_wp2_with fail
    exact bodyPost_ret (v := tbV 0 none 0 0) (by obtain ⟨v0, v1⟩ := V.out; simp only [results, Tryd.results33]; simp [go_sem, v0, v1]) rfl (NO.out (fun h => by omega))
  obtain ⟨e1, e2⟩ := Tb.dec_yes (r := r) (l := l) (m := m) ⟨HRT.out, by omega, by omega⟩
  have HE : Hid (Tb.decR r l m = r ∧ Tb.decL r l m = l.map (Tb.dec m)) := ⟨e1, e2⟩
  have HLEN : Hid (1 ≤ l.length ∧ l.length ≤ 60) := HRT.out.1
  have hb1 := nbel_alloc w0 (.cells #[.int .i64 r, .slice none 0 0] 25)
  have HS1 : Hid (SdS w.heap.size w0.heap.size r a l k m 0 (.slice none 0 0) w w0 (w0.alloc (.cells #[.int .i64 r, .slice none 0 0] 25))) :=
    ⟨nrow_below HR0.out hb1, nrow_below HO0.out hb1, rowN_alloc w0 _ _, World.ownsRow_nil _ _ _ _, HG0.out.trans (hb1.mono HG0.out.size), hb1⟩
  have h0m : 0 ≤ m := by omega
  have hm1 : m ≤ 1000 := by omega
  clear e1 e2 hb1 NO V y0 y1 z0 z1 hol
  go_wp2_with fail
  clear x0 x1
  go_loopw [6] (fun iv wr => ∃ (i : Nat) (lv : Value), i ≤ l.length ∧ iv = .int .i64 i ∧ Hid (SdS w.heap.size w0.heap.size r a l k m i lv w w0 wr)) (fun iv _ => l.length - (intOf iv).toNat)
  case atStart => exact ⟨0, _, Nat.zero_le _, rfl, HS1⟩
  case round =>
    obtain ⟨i, lv, hi, rfl, hS⟩ := hrel
    clear HS1
    obtain ⟨⟨x0, x1⟩, _⟩ := rowN2 hS.out.tub
    obtain ⟨⟨o0, o1⟩, q0, q1⟩ := rowN2 hS.out.out
    have hbs := hS.out.bel.size
    have hob : w0.heap.size < wr.heap.size := hS.out.out.lt
    by_cases hlt : i < l.length
    · have hltz : (i : Int) < (l.length : Int) := by omega
      obtain ⟨b, ea, c0, c1, c2⟩ := (H0.out.below hS.out.old).pc hlt
      subst ea
      have hok := HRT.out.2.1 _ (Tb.pg_mem hlt)
      obtain ⟨⟨g0, g1⟩, d0, d1⟩ := Tb.gone_bd hok.2.1 h0m hm1
      obtain ⟨⟨_, _⟩, ⟨k2, k3⟩, _⟩ := hok
      have u0 : 0 ≤ ((Tb.pg l i).g * m).tdiv 1000 := d0
      have u1 : ((Tb.pg l i).g * m).tdiv 1000 ≤ (Tb.pg l i).g := d1
      have hll := HLEN.out.2
      have h63 : i + 1 ≤ 60 := by omega
      clear d0 d1 hll
      go_wp2_with (at_builtin; refine wpList_append_own _ rfl _ _ 23 rfl (w0.heap.size + 1) 38 i1 _ 3 24 Tryd.underlying23 hi1 hy0 hy1 hy2 rfl (by decide) _ _ _ rfl ((hS.out.own.alloc _).alloc _) ⟨wr.heap.size + 1, 0, none⟩ 1 1 (pcL (Tb.dec m (Tb.pg l i))) rfl rfl ?d1 ?d2 ?d3 ?d4 ?d5 ?_)
      case d1 =>
        intro j x hj
        match j, hj with
        | 0, hj => simp at hj; subst hj; simp [Addr.add, Tb.dec]
        | 1, hj => simp at hj; subst hj; simp [Addr.add, Tb.dec, Tb.gone]
        | 2, hj => simp at hj; subst hj; simp [Addr.add, Tb.dec]
      case d2 =>
        intro x hx
        simp at hx
        rcases hx with rfl | rfl | rfl <;> rfl
      case d3 => unfold maxLen; omega
      case d4 => omega
      case d5 => simp; omega
      intro v5 W5 hown hgrow hnil
      have hrow : ∀ k, lv.ownBlock = some k → w0.heap.size + 1 ≤ k := fun k e => (hS.out.own.lt k e).1
      have HB5 : Hid (Below (w0.heap.size + 1) wr W5) := ((((Below.refl _ wr).alloc (by omega) _).alloc (by simp; omega) _).grown hgrow (by simp; omega) hrow)
      have hown2 : W5.ownsRow (w0.heap.size + 1) 38 3 v5 (i + 1) (pv ((l.take (i + 1)).map (Tb.dec m))) := by
        rw [Tb.take_pg hlt, List.map_append, pv_app]
        have h := hown
        rw [← List.map_take] at h
        exact h
      have HO5 := Lib.hid hown2
      have hsz0 := HSZ0.out
      have T5 : W5.rowIs w.heap.size 25 2 (rowN [.int .i64 r, .slice (some ⟨b, 0, none⟩) l.length k]) := hS.out.tub.of_block (HB5.out.block _ (by omega))
      have R5 : W5.rowIs (w.heap.size + 1) 25 2 (rowN [.int .i64 0, .slice none 0 0]) := hS.out.res.of_block (HB5.out.block _ (by omega))
      have O5 : W5.rowIs w0.heap.size 25 2 (rowN [.int .i64 r, lv]) := hS.out.out.of_block (HB5.out.block _ (by omega))
      have n1 : w.heap.size ≠ w0.heap.size := by omega
      have n2 : w.heap.size + 1 ≠ w0.heap.size := by omega
      have HS5 : Hid (SdS w.heap.size w0.heap.size r (some ⟨b, 0, none⟩) l k m (i + 1) v5 w w0 (W5.setCell ⟨w0.heap.size, 1, none⟩ v5)) :=
        ⟨nrow_set T5 (p := ⟨w0.heap.size, 1, none⟩) n1 _, nrow_set R5 (p := ⟨w0.heap.size, 1, none⟩) n2 _, rowN_put O5 1 _ (by simp), ownsRow_setCell_below hown2 (by show w0.heap.size < _; omega) _, (hS.out.bel.trans (HB5.out.mono (by omega))).setCell (p := ⟨w0.heap.size, 1, none⟩) (by show w.heap.size ≤ w0.heap.size; omega) _, (hS.out.old.trans (HB5.out.mono (by omega))).setCell (p := ⟨w0.heap.size, 1, none⟩) (Nat.le_refl _) _⟩
      clear o0 o1 q0 q1
      obtain ⟨⟨o0, o1⟩, q0, q1⟩ := rowN2 O5
      have ho5 : w0.heap.size < W5.heap.size := O5.lt
      have V5 : Hid (∃ a n c, v5 = .slice a n c) := by
        rcases hown.2 with h | ⟨g, cp, _, e, _⟩
        · exact ⟨none, 0, 0, h.1⟩
        · exact ⟨_, _, _, e⟩
      obtain ⟨a5, n5, c5, e5⟩ := V5.out
      subst e5
      clear hown hown2 hgrow hnil hrow T5 R5 O5 n1 n2 hS HB5 HO5 c0 c1 c2 V5
      go_wp2_with fail
      go_roundw
      case rel => exact ⟨i + 1, _, by omega, by go_num, HS5⟩
      case measure => simp [intOf]; omega
    · obtain rfl : i = l.length := by omega
      obtain ⟨⟨y0, y1⟩, z0, z1⟩ := rowN2 hS.out.res
      have hrl : w.heap.size + 1 < wr.heap.size := hS.out.res.lt
      obtain ⟨a5, c5, e5, how⟩ := owl_of (l := l.map (Tb.dec m)) (by have := hS.out.own; rw [List.take_length] at this; simpa using this)
      subst e5
      have HO := Lib.hid how
      obtain ⟨⟨u0, _⟩, _⟩ := rowN2 (rowN_put hS.out.res 0 (.int .i64 r) (by simp))
      obtain ⟨⟨_, u1⟩, _⟩ := rowN2 (rowN_put (rowN_put hS.out.res 0 (.int .i64 r) (by simp)) 1 (.slice a5 l.length c5) (by simp))
      have U := Lib.hid (And.intro u0 u1)
      have el : (l.map (Tb.dec m)).length = l.length := by simp
      rw [el] at o1
      clear how u0 u1 el
      go_wp2_with fail
      have hsz0 := HSZ0.out
      refine bodyPost_ret (v := tbV r a5 l.length c5) (by obtain ⟨u0, u1⟩ := U.out; simp only [results, Tryd.results33]; simp [go_sem, u0, u1]) rfl ⟨?_, (hS.out.bel.setCell (p := ⟨w.heap.size + 1, 0, none⟩) (by show w.heap.size ≤ w.heap.size + 1; omega) _).setCell (p := ⟨w.heap.size + 1, 1, none⟩) (by show w.heap.size ≤ w.heap.size + 1; omega) _⟩
      rw [HE.out.1, HE.out.2]
      refine ⟨a5, c5, by simp, ?_⟩
      have h7 := HO.out
      exact (h7.keep (fun k e hk => by
        have := (h7.lt e).1
        rw [Below.heap_setCell _ _ _ _ (by show k ≠ w.heap.size + 1; omega), Below.heap_setCell _ _ _ _ (by show k ≠ w.heap.size + 1; omega)])).low (by omega)
end Go.Proofs.YtjmnehlgefpheaaDoor
