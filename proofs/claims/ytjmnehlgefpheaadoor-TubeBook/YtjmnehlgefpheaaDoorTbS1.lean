/-
  The model's TubePush.
-/
import Derived.Test.YtjmnehlgefpheaaDoorTbP4
namespace Go.Proofs.YtjmnehlgefpheaaDoor
open Go.RowKit Go.Deep

namespace Tb
open Classical in
/-- What a push answers. -/
noncomputable def pushX (r : Int) (l : List Pc) (p : Pc) : Int × List Pc × List Pc := if ¬ (Right r l ∧ Ok p) then (1, [], []) else if 60 < (psh l.reverse p).2.length then (5, [], []) else (0, (psh l.reverse p).2.reverse, (psh l.reverse p).1)
theorem pushX_no {r : Int} {l : List Pc} {p : Pc} (h : ¬ (Right r l ∧ Ok p)) : pushX r l p = (1, [], []) := by unfold pushX; rw [if_pos h]
theorem pushX_over {r : Int} {l : List Pc} {p : Pc} (h : Right r l ∧ Ok p) (h2 : 60 < (psh l.reverse p).2.length) : pushX r l p = (5, [], []) := by unfold pushX; rw [if_neg (by simpa using h), if_pos h2]
theorem pushX_ok {r : Int} {l : List Pc} {p : Pc} (h : Right r l ∧ Ok p) (h2 : ¬ 60 < (psh l.reverse p).2.length) : pushX r l p = (0, (psh l.reverse p).2.reverse, (psh l.reverse p).1) := by unfold pushX; rw [if_neg (by simpa using h), if_neg h2]
theorem pushX_run (r : Int) (l : List Pc) (p : Pc) : pushX r l p = runOf 0 r l [p] := by
  by_cases h : Right r l
  · rw [runOf_yes ⟨⟨by omega, by omega⟩, h⟩]
    by_cases hp : Ok p
    · by_cases h2 : 60 < (psh l.reverse p).2.length
      · rw [pushX_over ⟨h, hp⟩ h2, runA_over hp h2]; rfl
      · rw [pushX_ok ⟨h, hp⟩ h2, runA_on hp (by omega), decs_0, runA_nil]; simp
    · rw [pushX_no (fun x => hp x.2), runA_bad hp]; rfl
  · rw [pushX_no (fun x => h x.1), runOf_no (fun x => h x.2)]
end Tb
/-- What stands between two rounds of the model's push. -/
structure SpS (w1 : World) (gl cl B2 : Nat) (D1 D2 : List Tb.Pc) (x : Int) (L : List Tb.Pc) (ov : Value) (O : List Tb.Pc) (W : World) : Prop where
  blk : IsBlk 38 gl (L.length * 3) (Tb.fl L) W
  cap : L.length ≤ cl
  own : W.ownsRow B2 38 3 ov O.length (pv O)
  ok : ∀ p, p ∈ L → Tb.Ok p
  x0 : 0 ≤ x
  x1 : x ≤ Tb.wat L
  d1 : O ++ (Tb.drive x L.reverse).1 = D1
  d2 : (Tb.drive x L.reverse).2 = D2
  old : Below w1.heap.size w1 W
  len : (L.length ≤ 61 ∧ O.length ≤ 62) ∧ (0 < x → O.length + L.length ≤ 61)
  sz : B2 ≤ W.heap.size
theorem pw_buf (w : World) (B : Nat) (p : Tb.Pc) (hB : B ≤ w.heap.size) : (w.alloc (.cells #[.int .i64 p.w, .int .i64 p.g, .int .i64 p.b] 38)).ownsRow B 38 3 (.slice (some ⟨w.heap.size, 0, none⟩) 1 1) 1 (pcL p) :=
  ⟨by simp, .inr ⟨w.heap.size, 1, _, rfl, hB, heap_alloc_new w _, Nat.le_refl _, by unfold maxLen; omega, rfl, by simp⟩⟩
theorem _root_.Go.World.ownsRow.drew_ {B n s : Nat} {t : TypeId} {v : Value} {xs : List Value} {W : World} (h : W.ownsRow B t s v n xs) : W.drew.ownsRow B t s v n xs := own_below h (Below.refl _ _).drew
/-- A list that a call owns and that is not empty, opened, with the room it has. -/
theorem own_room {B : Nat} {l : List Tb.Pc} {v : Value} {W : World} (h : W.ownsRow B 38 3 v l.length (pv l)) (hl : 1 ≤ l.length) : ∃ g c, v = .slice (some ⟨g, 0, none⟩) l.length c ∧ B ≤ g ∧ l.length ≤ c ∧ c ≤ maxLen ∧ IsBlk 38 g (l.length * 3) (Tb.fl l) W := by
  obtain ⟨a, c, e, ho⟩ := owl_of h
  rcases h.2 with h2 | ⟨g, cap, cur, e1, e2, e3, e4, e5, e6, e7⟩
  · omega
  · rw [e] at e1
    cases e1
    rcases ho with h0 | ⟨g', e', hb, hk⟩
    · cases h0.1
    · cases e'
      exact ⟨_, _, e, hb, e4, e5, hk⟩
set_option maxRecDepth 100000 in
set_option maxHeartbeats 8000000 in
theorem sPush_any (r : Int) (a : Option Addr) (l : List Tb.Pc) (k : Nat) (p : Tb.Pc) (w : World) (h : IsAt a (l.length * 3) (Tb.fl l) w) :
    Calls Tryd.prog 16 #[tbV r a l.length k, pcV p] w fun e w' => TuEnd w.heap.size r (Tb.pushX r l p) e w' ∧ Below w.heap.size w w' := by
  obtain ⟨i1, hi1, hy0, hy1, hy2⟩ := info_parts pinfo
  obtain ⟨W, hW⟩ : ∃ W, W = ((w.alloc (.cells #[.int .i64 r, .slice a l.length k] 25)).alloc (.cells #[.int .i64 p.w, .int .i64 p.g, .int .i64 p.b] 38)).alloc (.cells #[.int .i64 0, .slice none 0 0, .slice none 0 0, .int .i64 0] 29) := ⟨_, rfl⟩
  have HB : Hid (Below w.heap.size w W) := by show Below _ _ _; rw [hW]; exact ((nbel_alloc _ _).alloc (by simp) _).alloc (by simp; omega) _
  have HR : Hid (W.rowIs w.heap.size 25 2 (rowN [.int .i64 r, .slice a l.length k])) := by show W.rowIs _ _ _ _; rw [hW]; exact nrow_below (nrow_below (rowN_alloc w _ _) (nbel_alloc _ _)) (nbel_alloc _ _)
  have HP : Hid (W.rowIs (w.heap.size + 1) 38 3 (rowN (pcL p))) := by show W.rowIs _ _ _ _; rw [hW]; exact nrow_below (rowN_alloc' (by simp) _ _) (nbel_alloc _ _)
  have HO : Hid (W.rowIs (w.heap.size + 1 + 1) 29 4 (rowN (toL 0 none 0 0 none 0 0 0))) := by show W.rowIs _ _ _ _; rw [hW]; exact rowN_alloc' (by simp) _ _
  have HSZ : Hid (W.heap.size = w.heap.size + 3) := by show _ = _; rw [hW]; simp
  obtain ⟨⟨x0, x1⟩, _⟩ := rowN2 HR.out
  rw [hW] at x0 x1
  have HW := Lib.hid hW
  have H := Lib.hid (h.below HB.out)
  clear hW h
  have BAD : Hid (∀ (V : World) (c : Int), c ≠ 0 → Tb.pushX r l p = (c, [], []) → V.rowIs (w.heap.size + 1 + 1) 29 4 (rowN (toL 0 none 0 0 none 0 0 0)) → Below w.heap.size w V → ∃ Z, Z = ((((V.setCell ⟨w.heap.size + 1 + 1, 0, none⟩ (.int .i64 0)).setCell ⟨w.heap.size + 1 + 1, 1, none⟩ (.slice none 0 0)).setCell ⟨w.heap.size + 1 + 1, 2, none⟩ (.slice none 0 0)).setCell ⟨w.heap.size + 1 + 1, 3, none⟩ (.int .i64 c)) ∧ Z.rowIs (w.heap.size + 1 + 1) 29 4 (rowN (toL 0 none 0 0 none 0 0 c)) ∧ TuEnd w.heap.size r (Tb.pushX r l p) (.returned (toV 0 none 0 0 none 0 0 c)) Z ∧ Below w.heap.size w Z) := by
    intro V c hc he hV hb
    exact ⟨_, rfl, put4 hV _ _ _ _, by rw [he]; exact TuEnd.bad hc _, bel4 (g := w.heap.size + 1 + 1) hb (by omega) _ _ _ _⟩
  go_enter Tryd.func16, Tryd.ntmps16
  go_wp2_with fail
  rw [← HW.out]
  clear HW x0 x1
  refine (sTRight_any r a l k _ H.out).mono ?_
  rintro e w0 ⟨⟨b1, rfl, hb1⟩, hb⟩
  have K1 := Lib.hid hb1
  have HR0 := Lib.hid (nrow_below HR.out hb)
  have HP0 := Lib.hid (nrow_below HP.out hb)
  have HO0 := Lib.hid (nrow_below HO.out hb)
  have H0 := Lib.hid (H.out.below hb)
  have HB0 : Hid (Below w.heap.size w w0) := HB.out.trans (hb.mono HB.out.size)
  clear hb1 hb HR HP HO H HB
  obtain ⟨⟨x0, x1⟩, _⟩ := rowN2 HR0.out
  obtain ⟨⟨q0, q1, q2⟩, _⟩ := rowN3 HP0.out
  obtain ⟨⟨o0, o1, o2, o3⟩, z0, z1, z2, z3⟩ := rowN4 HO0.out
  have hol := HO0.out.lt
  rcases b1 with _ | _
  · obtain ⟨Z, hZ, zr, zt, zb⟩ := BAD.out w0 1 (by omega) (Tb.pushX_no (fun h => by have := K1.out.2 h.1; cases this)) HO0.out HB0.out
    have HZ := Lib.hid hZ
    have ZT := Lib.hid (And.intro zt zb)
    have ZR := Lib.hid zr
    clear hZ zr zt zb
    go_wp2_with fail
    rw [← HZ.out]
    obtain ⟨⟨c0, c1, c2, c3⟩, _⟩ := rowN4 ZR.out
    exact bodyPost_ret (v := toV 0 none 0 0 none 0 0 1) (by simp only [results, Tryd.results16]; simp [go_sem, c0, c1, c2, c3]) rfl ZT.out
  have HRT : Hid (Tb.Right r l) := K1.out.1 rfl
  clear K1
  go_wp2_with fail
  refine (l10Parcel_any p _).mono ?_
  rintro e w1 ⟨⟨b2, rfl, hb2⟩, hb⟩
  have K2 := Lib.hid hb2
  have HR1 := Lib.hid (nrow_below HR0.out hb)
  have HP1 := Lib.hid (nrow_below HP0.out hb)
  have HO1 := Lib.hid (nrow_below HO0.out hb)
  have H1 := Lib.hid (H0.out.below hb)
  have HB1 : Hid (Below w.heap.size w w1) := HB0.out.trans (hb.mono HB0.out.size)
  clear hb2 hb HR0 HP0 HO0 H0 HB0 x0 x1 q0 q1 q2 o0 o1 o2 o3 z0 z1 z2 z3 hol
  obtain ⟨⟨x0, x1⟩, _⟩ := rowN2 HR1.out
  obtain ⟨⟨q0, q1, q2⟩, _⟩ := rowN3 HP1.out
  obtain ⟨⟨o0, o1, o2, o3⟩, z0, z1, z2, z3⟩ := rowN4 HO1.out
  have hol := HO1.out.lt
  rcases b2 with _ | _
  · obtain ⟨Z, hZ, zr, zt, zb⟩ := BAD.out w1 1 (by omega) (Tb.pushX_no (fun h => by have := K2.out.2 h.2; cases this)) HO1.out HB1.out
    have HZ := Lib.hid hZ
    have ZT := Lib.hid (And.intro zt zb)
    have ZR := Lib.hid zr
    clear hZ zr zt zb
    go_wp2_with fail
    rw [← HZ.out]
    obtain ⟨⟨c0, c1, c2, c3⟩, _⟩ := rowN4 ZR.out
    exact bodyPost_ret (v := toV 0 none 0 0 none 0 0 1) (by simp only [results, Tryd.results16]; simp [go_sem, c0, c1, c2, c3]) rfl ZT.out
  have HOK : Hid (Tb.Ok p) := K2.out.1 rfl
  clear K2 o0 o1 o2 o3 z0 z1 z2 z3
  have HLEN : Hid (1 ≤ l.length ∧ l.length ≤ 60) := HRT.out.1
  obtain ⟨g, ea, c0, _⟩ := H1.out.pc (i := 0) (by have := HLEN.out; omega)
  subst ea
  have hlen := HLEN.out
  clear c0
  have hsz1 : w.heap.size + 3 ≤ w1.heap.size := by omega
  have hd2 : ∀ j u, (pv l)[j]? = some u → (w1.alloc (.cells #[.int .i64 p.w, .int .i64 p.g, .int .i64 p.b] 38)).cell? ((⟨g, 0, none⟩ : Addr).add j) = some u := by
    intro j u hj
    have hjl : j < l.length * 3 := by
      have := (List.getElem?_eq_some_iff.1 hj).1
      rwa [pv_len] at this
    rw [pv_get l hjl] at hj
    cases hj
    rcases H1.out with h | ⟨b, e, h⟩
    · omega
    · cases e
      rw [Addr.add_lit, Nat.zero_add]
      exact ((nbel_alloc w1 _).cell (World.block_lt_of_cell? _ _ (h j hjl))).trans (h j hjl)
  have HD2 := Lib.hid hd2
  have x1a := (rowN2 (nrow_below HR1.out (nbel_alloc w1 (.cells #[.int .i64 p.w, .int .i64 p.g, .int .i64 p.b] 38)))).1.2
  clear hd2
  go_wp2_with (at_builtin; refine wpList_append_own _ rfl _ _ 23 rfl w1.heap.size 38 i1 _ 3 24 Tryd.underlying23 hi1 hy0 hy1 hy2 rfl (by decide) _ _ _ rfl (pw_buf w1 _ p (Nat.le_refl _)) ⟨g, 0, none⟩ l.length k (pv l) rfl (pv_len _) ?d1 ?d2 ?d3 ?d4 ?d5 ?_)
  case d1 => exact HD2.out
  case d2 =>
    intro x hx
    obtain ⟨z, rfl⟩ := pv_undef hx
    rfl
  case d3 => unfold maxLen; omega
  case d4 => omega
  case d5 => simp
  intro v2 W2 hown hgrow hnil
  have hown2 : W2.ownsRow w1.heap.size 38 3 v2 (p :: l).length (pv (p :: l)) := by
    have e1 : (p :: l).length = 1 + l.length := by simp; omega
    have e2 : pv (p :: l) = pcL p ++ pv l := by simp [pv]
    rw [e1, e2]
    exact hown
  obtain ⟨gl, cl, e2, hgl, hcl, hcm, hblk⟩ := own_room hown2 (by simp)
  have e2' : v2 = .slice (some ⟨gl, 0, none⟩) (l.length + 1) cl := e2
  clear e2
  subst e2'
  have HB2 : Hid (Below w1.heap.size w1 W2) := (nbel_alloc w1 _).grown hgrow (by simp) (fun k e => by simp [Value.ownBlock] at e; omega)
  obtain ⟨B2, hB2⟩ : ∃ B2, B2 = W2.heap.size := ⟨_, rfl⟩
  have HGL : Hid (gl < B2 ∧ w1.heap.size ≤ gl) := by show _ ∧ _; rw [hB2]; exact ⟨hblk.lt, hgl⟩
  have HPW : Hid (p.w < Tb.wat (p :: l)) := by
    show _ < _
    have h1 := (Tb.wat_bd HRT.out.2.1).1
    simp only [Tb.wat]
    omega
  have HS2 : Hid (SpS w1 gl cl B2 (Tb.psh l.reverse p).1 (Tb.psh l.reverse p).2 p.w (p :: l) (.slice (some ⟨W2.heap.size, 0, none⟩) 0 0) [] (W2.alloc (.cells #[] 38))) := by
    refine ⟨hblk.below (nbel_alloc _ _), hcl, World.ownsRow_made W2 #[] 0 (by omega) (Nat.zero_le _) rfl, fun q hq => ?_, by have := HOK.out.1.1; omega, by have := HPW.out; omega, ?_, ?_, HB2.out.trans ((nbel_alloc _ _).mono HB2.out.size), ⟨⟨by simp; omega, by simp⟩, fun _ => by simp; omega⟩, by simp; omega⟩
    · rcases List.mem_cons.1 hq with rfl | hq
      · exact HOK.out
      · exact HRT.out.2.1 q hq
    · rw [List.reverse_cons]; rfl
    · rw [List.reverse_cons]; rfl
  have hpw1 := HOK.out.1.2
  have HB2E := Lib.hid hB2
  clear hB2
  have HCM := Lib.hid hcm
  clear hown hown2 hgrow hnil hblk hgl hcl hcm HD2
  obtain ⟨⟨q0', q1', q2'⟩, _⟩ := rowN3 (nrow_below HP1.out (HB2.out.trans ((nbel_alloc W2 (.cells #[] 38)).mono HB2.out.size)))
  go_wp2_with fail
  clear q0 q1 q2 q0' q1' q2' x0 x1 x1a hol
  go_loopw [5, 6, 7] (fun lv ov xv wr => ∃ (L O : List Tb.Pc) (x : Int), lv = .slice (some ⟨gl, 0, none⟩) L.length cl ∧ xv = .int .i64 x ∧ Hid (SpS w1 gl cl B2 (Tb.psh l.reverse p).1 (Tb.psh l.reverse p).2 x L ov O wr)) (fun _ _ xv _ => (intOf xv).toNat)
  case atStart => exact ⟨p :: l, [], p.w, rfl, rfl, HS2⟩
  case round =>
    obtain ⟨L, O, x, rfl, rfl, hS⟩ := hrel
    clear HS2
    have hx9 : x ≤ 1000000000 := by
      have h1 := hS.out.x1
      have h2 := (Tb.wat_bd hS.out.ok).2
      have h3 := hS.out.len.1.1
      omega
    by_cases hx : 0 < x
    · obtain ⟨L', q, eL⟩ : ∃ L' q, L = L' ++ [q] := by
        rcases List.eq_nil_or_concat L with h | ⟨L', q, h⟩
        · exfalso
          have := hS.out.x1
          rw [h] at this
          simp [Tb.wat] at this
          omega
        · exact ⟨L', q, by rw [h]; simp⟩
      subst eL
      have hnn : ((L' ++ [q]).length : Int) - 1 = (L'.length : Int) := by simp
      have hn1 : (L' ++ [q]).length = L'.length + 1 := by simp
      obtain ⟨⟨c0, c1, c2⟩, f0, f1, f2⟩ := hS.out.blk.pc (i := L'.length) (by rw [hn1]; omega)
      rw [Tb.pg_snoc] at c0 c1 c2
      have hok : Tb.Ok q := hS.out.ok q (by simp)
      have hcap := hS.out.cap
      have hlen9 := hS.out.len.2 hx
      rw [hn1] at hcap hlen9 hnn
      have hgl := hS.out.blk.lt
      have hsz := hS.out.sz
      have hcm := HCM.out
      have hrev : (L' ++ [q]).reverse = q :: L'.reverse := by simp
      have HOK1 := Lib.hid hok
      have hb2 : gl < B2 := HGL.out.1
      have HC7 : Hid ((L'.length : Int) < ((L'.length + 1 : Nat) : Int)) := by show _ < _; omega
      have hc7 := HC7.out
      rw [hn1]
      obtain ⟨⟨k0, k1⟩, ⟨k2, k3⟩, k4, k5⟩ := hok

      by_cases hq : q.w ≤ x
      · have HD : Hid (((O ++ [q]) ++ (Tb.drive (x - q.w) L'.reverse).1 = (Tb.psh l.reverse p).1 ∧ (Tb.drive (x - q.w) L'.reverse).2 = (Tb.psh l.reverse p).2) ∧ x - q.w ≤ Tb.wat L') := by
          have e1 := hS.out.d1
          have e2 := hS.out.d2
          have e3 := hS.out.x1
          rw [hrev, Tb.drive_whole hx hq] at e1 e2
          rw [Tb.wat_app] at e3
          simp only [Tb.wat] at e3
          exact ⟨⟨by rw [← e1]; simp, e2⟩, by omega⟩
        have HBK : Hid (IsBlk 38 gl (L'.length * 3) (Tb.fl L') wr) := by
          obtain ⟨M, F, h1, h2, h3⟩ := hS.out.blk
          rw [hn1] at h1 h3
          exact ⟨M, F, by omega, h2, fun j hj => by rw [h3 j (by omega), Tb.fl_app_left hj]⟩
        have HOKS : Hid (∀ p, p ∈ L' → Tb.Ok p) := fun p hp => hS.out.ok p (List.mem_append_left _ hp)
        have HOWN := Lib.hid hS.out.own
        have HOLD := Lib.hid hS.out.old
        clear hS hrev
        go_wp2_with (at_builtin; refine wpList_append_own _ rfl _ _ 23 rfl B2 38 i1 _ 3 24 Tryd.underlying23 hi1 hy0 hy1 hy2 rfl (by decide) _ _ _ rfl (((HOWN.out.alloc _).alloc _)) ⟨wr.heap.size + 1, 0, none⟩ 1 1 (pcL (q)) rfl rfl ?d1 ?d2 ?d3 ?d4 ?d5 ?_)
        case d1 =>
          intro j x hj
          match j, hj with
          | 0, hj => simp at hj; subst hj; simp [Addr.add]
          | 1, hj => simp at hj; subst hj; simp [Addr.add]
          | 2, hj => simp at hj; subst hj; simp [Addr.add]
        case d2 =>
          intro x hx
          simp at hx
          rcases hx with rfl | rfl | rfl <;> rfl
        case d3 => unfold maxLen; omega
        case d4 => omega
        case d5 => simp; omega
        intro v5 W5 hown hgrow hnil
        have hrow : ∀ k, u6.ownBlock = some k → B2 ≤ k := fun k e => (HOWN.out.lt k e).1
        have HBB : Hid (Below B2 wr W5) := (((Below.refl _ wr).alloc hsz _).alloc (by simp; omega) _).grown hgrow (by simp; omega) hrow
        have HO5 : Hid (W5.ownsRow B2 38 3 v5 (O ++ [q]).length (pv (O ++ [q]))) := by
          show W5.ownsRow _ _ _ _ _ _
          rw [pv_app, pv_one, List.length_append]
          exact hown
        have HS5 : Hid (SpS w1 gl cl B2 (Tb.psh l.reverse p).1 (Tb.psh l.reverse p).2 (x - q.w) L' v5 (O ++ [q]) W5) :=
          ⟨HBK.out.block (HBB.out.block _ hb2), by omega, HO5.out, HOKS.out, by omega, HD.out.2, HD.out.1.1, HD.out.1.2, HOLD.out.trans (HBB.out.mono (by have := HGL.out; omega)), ⟨⟨by omega, by simp; omega⟩, fun _ => by simp; omega⟩, HBB.out.size |> Nat.le_trans hsz⟩
        have b0 : W5.cell? ⟨wr.heap.size, 0, none⟩ = some (.int .i64 q.w) := hgrow.cell (by simp) (fun e => by have := (HOWN.out.lt _ e.symm).2; simp at this)
        clear hown hgrow hnil hrow c0 c1 c2 HBK HOWN HOLD
        go_wp2_with fail
        go_roundw
        case rel => exact ⟨L', O ++ [q], x - q.w, rfl, by go_num, HS5⟩
        case measure => simp [intOf]; omega
      · have hq' : x < q.w := by omega
        obtain ⟨⟨m0, m1⟩, t0, t1⟩ := Tb.cut_bd HOK1.out (by omega) (by omega : x ≤ q.w)
        have hz : (q.w == 0) = false := by simp; omega
        have t0' : 0 ≤ (q.g * x).tdiv q.w := t0
        have t1' : (q.g * x).tdiv q.w ≤ q.g := t1
        have HD : Hid ((O ++ [Tb.partOf q x] = (Tb.psh l.reverse p).1 ∧ Tb.restOf q x :: L'.reverse = (Tb.psh l.reverse p).2)) := by
          have e1 := hS.out.d1
          have e2 := hS.out.d2
          rw [hrev, Tb.drive_part hx hq'] at e1 e2
          exact ⟨e1, e2⟩
        have HOKS : Hid (∀ p, p ∈ L' ++ [Tb.restOf q x] → Tb.Ok p) := by
          intro p hp
          rcases List.mem_append.1 hp with hp | hp
          · exact hS.out.ok p (List.mem_append_left _ hp)
          · simp at hp; rw [hp]; exact (Tb.part_ok HOK1.out (by omega) hq').2
        have HOWN := Lib.hid hS.out.own
        have HOLD := Lib.hid hS.out.old
        have HBK := Lib.hid hS.out.blk
        clear hS hrev t0 t1
        go_wp2_with fail
        go_region
        have HV : Hid ((((wr.alloc (.cells #[.int .i64 q.w, .int .i64 q.g, .int .i64 q.b] 38)).alloc (.cells #[.int .i64 x, .int .i64 ((q.g * x).tdiv q.w), .int .i64 q.b] 38)).drew.alloc (.cells #[.int .i64 x, .int .i64 ((q.g * x).tdiv q.w), .int .i64 q.b] 38)).rowIs wr.heap.size 38 3 (rowN (pcL q)) ∧ (((wr.alloc (.cells #[.int .i64 q.w, .int .i64 q.g, .int .i64 q.b] 38)).alloc (.cells #[.int .i64 x, .int .i64 ((q.g * x).tdiv q.w), .int .i64 q.b] 38)).drew.alloc (.cells #[.int .i64 x, .int .i64 ((q.g * x).tdiv q.w), .int .i64 q.b] 38)).rowIs (wr.heap.size + 1) 38 3 (rowN (pcL (Tb.partOf q x))) ∧ (((wr.alloc (.cells #[.int .i64 q.w, .int .i64 q.g, .int .i64 q.b] 38)).alloc (.cells #[.int .i64 x, .int .i64 ((q.g * x).tdiv q.w), .int .i64 q.b] 38)).drew.alloc (.cells #[.int .i64 x, .int .i64 ((q.g * x).tdiv q.w), .int .i64 q.b] 38)).rowIs (wr.heap.size + 1 + 1) 38 3 (rowN (pcL (Tb.partOf q x)))) := by
          refine ⟨nrow_below (nrow_below (nrow_below (rowN_alloc wr _ _) (nbel_alloc _ _)) (Below.refl _ _).drew) (nbel_alloc _ _), nrow_below (nrow_below (rowN_alloc' (by simp) _ _) (Below.refl _ _).drew) (nbel_alloc _ _), rowN_alloc' ?_ _ _⟩
          show ((wr.alloc _).alloc _).heap.size = _
          simp
        go_wp2_with (at_builtin; refine wpList_append_own _ rfl _ _ 23 rfl B2 38 i1 _ 3 24 Tryd.underlying23 hi1 hy0 hy1 hy2 rfl (by decide) _ _ _ rfl ((((HOWN.out.alloc _).alloc _).drew_ |> fun h => h.alloc _)) ⟨wr.heap.size + 1 + 1, 0, none⟩ 1 1 (pcL (Tb.partOf q x)) rfl rfl ?d1 ?d2 ?d3 ?d4 ?d5 ?_)
        case d1 =>
          intro j x hj
          match j, hj with
          | 0, hj => simp at hj; subst hj; rw [Addr.add_lit]; exact (rowN3 HV.out.2.2).1.1
          | 1, hj => simp at hj; subst hj; rw [Addr.add_lit]; exact (rowN3 HV.out.2.2).1.2.1
          | 2, hj => simp at hj; subst hj; rw [Addr.add_lit]; exact (rowN3 HV.out.2.2).1.2.2
        case d2 =>
          intro x hx
          simp at hx
          rcases hx with rfl | rfl | rfl <;> rfl
        case d3 => unfold maxLen; omega
        case d4 => omega
        case d5 => simp; omega
        intro v5 W5 hown hgrow hnil
        have hrow : ∀ k, u6.ownBlock = some k → B2 ≤ k := fun k e => (HOWN.out.lt k e).1
        have HBB : Hid (Below B2 wr W5) := ((((Below.refl _ wr).alloc hsz _).alloc (by simp; omega) _).drew.alloc (by simp; omega) _).grown hgrow (by simp; omega) hrow
        have HO5 : Hid (W5.ownsRow B2 38 3 v5 (O ++ [Tb.partOf q x]).length (pv (O ++ [Tb.partOf q x]))) := by
          show W5.ownsRow _ _ _ _ _ _
          rw [pv_app, pv_one, List.length_append]
          exact hown
        have ne5 : ∀ y, wr.heap.size ≤ y → y < wr.heap.size + 2 → some y ≠ u6.ownBlock := fun y h1 _ e => by have := (HOWN.out.lt _ e.symm).2; omega
        have b0 : W5.cell? ⟨wr.heap.size, 0, none⟩ = some (.int .i64 q.w) := hgrow.cell (rowN3 HV.out.1).1.1 (ne5 _ (Nat.le_refl _) (by show wr.heap.size < _; omega))
        have b1 : W5.cell? ⟨wr.heap.size, 1, none⟩ = some (.int .i64 q.g) := hgrow.cell (rowN3 HV.out.1).1.2.1 (ne5 _ (Nat.le_refl _) (by show wr.heap.size < _; omega))
        have b2 : W5.cell? ⟨wr.heap.size, 2, none⟩ = some (.int .i64 q.b) := hgrow.cell (rowN3 HV.out.1).1.2.2 (ne5 _ (Nat.le_refl _) (by show wr.heap.size < _; omega))
        have p1 : W5.cell? ⟨wr.heap.size + 1, 1, none⟩ = some (.int .i64 ((q.g * x).tdiv q.w)) := hgrow.cell (rowN3 HV.out.2.1).1.2.1 (ne5 _ (by show wr.heap.size ≤ wr.heap.size + 1; omega) (by show wr.heap.size + 1 < _; omega))
        have hk5 := HBK.out.block (HBB.out.block _ hb2)
        have hS5 := hk5.setP (i := L'.length) (by rw [hn1]; omega) (Tb.restOf q x)
        have e5 : (L' ++ [q]).set L'.length (Tb.restOf q x) = L' ++ [Tb.restOf q x] := by simp
        rw [e5] at hS5
        obtain ⟨⟨e0, e1, e2⟩, g0, g1, g2⟩ := hk5.pc (i := L'.length) (by rw [hn1]; omega)
        have hgl5 := hk5.lt
        have HS5 : Hid (SpS w1 gl cl B2 (Tb.psh l.reverse p).1 (Tb.psh l.reverse p).2 0 (L' ++ [Tb.restOf q x]) v5 (O ++ [Tb.partOf q x]) (((W5.setCell ⟨gl, L'.length * 3, none⟩ (.int .i64 (q.w - x))).setCell ⟨gl, L'.length * 3 + 1, none⟩ (.int .i64 (q.g - (q.g * x).tdiv q.w))).setCell ⟨gl, L'.length * 3 + 2, none⟩ (.int .i64 q.b))) := by
          have hw1 : w1.heap.size ≤ gl := HGL.out.2
          refine ⟨hS5, by simp; omega, ownsRow_setCell_below (ownsRow_setCell_below (ownsRow_setCell_below HO5.out (by exact hb2) _) (by exact hb2) _) (by exact hb2) _, HOKS.out, by omega, ?_, ?_, ?_, (((HOLD.out.trans (HBB.out.mono (by omega))).setCell (p := ⟨gl, _, none⟩) hw1 _).setCell (p := ⟨gl, _, none⟩) hw1 _).setCell (p := ⟨gl, _, none⟩) hw1 _, ⟨⟨by simp; omega, by simp; omega⟩, fun h => absurd h (by omega)⟩, by simp; have := HBB.out.size; omega⟩
          · have := (Tb.wat_bd HOKS.out).1; omega
          · rw [Tb.drive_nought (by omega)]; simpa using HD.out.1
          · rw [Tb.drive_nought (by omega)]; simpa using HD.out.2
        clear hown hgrow hnil hrow c0 c1 c2 HBK HOWN HOLD hk5 hS5 e5 f0 f1 f2 ne5
        go_wp2_with fail
        go_roundw
        case rel => exact ⟨L' ++ [Tb.restOf q x], O ++ [Tb.partOf q x], 0, by simp, by go_num, HS5⟩
        case measure => simp [intOf]; omega
    · have hz : x = 0 := by have := hS.out.x0; omega
      subst hz
      have HD : Hid (O = (Tb.psh l.reverse p).1 ∧ L.reverse = (Tb.psh l.reverse p).2) := by
        have e1 := hS.out.d1
        have e2 := hS.out.d2
        rw [Tb.drive_nought (by omega)] at e1 e2
        exact ⟨by rw [← e1]; simp, e2⟩
      have HOE := Lib.hid (nrow_below HO1.out hS.out.old)
      have HRE := Lib.hid (nrow_below HR1.out hS.out.old)
      have HBE : Hid (Below w.heap.size w wr) := HB1.out.trans (hS.out.old.mono HB1.out.size)
      obtain ⟨⟨o0, o1, o2, o3⟩, z0, z1, z2, z3⟩ := rowN4 HOE.out
      obtain ⟨⟨x0, x1⟩, _⟩ := rowN2 HRE.out
      have hol := HOE.out.lt
      by_cases hc : 60 < L.length
      · have hcz : (60 : Int) < (L.length : Int) := by omega
        have HOV : Hid (60 < (Tb.psh l.reverse p).2.length) := by show _ < _; rw [← HD.out.2]; simpa using hc
        obtain ⟨Z, hZ, zr, zt, zb⟩ := BAD.out wr 5 (by omega) (Tb.pushX_over ⟨HRT.out, HOK.out⟩ HOV.out) HOE.out HBE.out
        have HZ := Lib.hid hZ
        have ZT := Lib.hid (And.intro zt zb)
        have ZR := Lib.hid zr
        clear hZ zr zt zb
        go_wp2_with fail
        rw [← HZ.out]
        obtain ⟨⟨c0, c1, c2, c3⟩, _⟩ := rowN4 ZR.out
        exact bodyPost_ret (v := toV 0 none 0 0 none 0 0 5) (by simp only [results, Tryd.results16]; simp [go_sem, c0, c1, c2, c3]) rfl ZT.out
      · have hcz : ¬ (60 : Int) < (L.length : Int) := by omega
        have HEX : Hid (Tb.pushX r l p = (0, L, O)) := by
          show _ = _
          rw [Tb.pushX_ok ⟨HRT.out, HOK.out⟩ (by rw [← HD.out.2]; simpa using hc), ← HD.out.2, ← HD.out.1]
          simp
        obtain ⟨pO, dO, eO, howO⟩ := owl_of hS.out.own
        subst eO
        have HOW := Lib.hid howO
        have HBK := Lib.hid hS.out.blk
        have HSZE := Lib.hid hS.out.sz
        clear howO hS
        go_wp2_with fail
        have zr := put4 HOE.out (.int .i64 r) (.slice (some ⟨gl, 0, none⟩) L.length cl) (.slice pO O.length dO) (.int .i64 0)
        have zb := bel4 (g := w.heap.size + 1 + 1) HBE.out (by omega) (.int .i64 r) (.slice (some ⟨gl, 0, none⟩) L.length cl) (.slice pO O.length dO) (.int .i64 0)
        have zk := fun (k : Nat) (hk : k ≠ w.heap.size + 1 + 1) => blk4 wr hk (.int .i64 r) (.slice (some ⟨gl, 0, none⟩) L.length cl) (.slice pO O.length dO) (.int .i64 0)
        generalize (((wr.setCell ⟨w.heap.size + 1 + 1, 0, none⟩ (.int .i64 r)).setCell ⟨w.heap.size + 1 + 1, 1, none⟩ (.slice (some ⟨gl, 0, none⟩) L.length cl)).setCell ⟨w.heap.size + 1 + 1, 2, none⟩ (.slice pO O.length dO)).setCell ⟨w.heap.size + 1 + 1, 3, none⟩ (.int .i64 0) = Z at zr zb zk ⊢
        obtain ⟨⟨c0, c1, c2, c3⟩, _⟩ := rowN4 zr
        refine bodyPost_ret (v := toV r (some ⟨gl, 0, none⟩) L.length cl pO O.length dO 0) (by simp only [results, Tryd.results16]; simp [go_sem, c0, c1, c2, c3]) rfl ⟨?_, zb⟩
        rw [HEX.out]
        have hg1 := HGL.out.1
        have hg2 := HGL.out.2
        refine ⟨some ⟨gl, 0, none⟩, cl, pO, dO, rfl, Or.inr ⟨gl, rfl, by omega, HBK.out.block (zk gl (by omega))⟩, (HOW.out.keep (fun k e hk => zk k (by have := (HOW.out.lt e).1; omega))).low (by omega), fun k e1 e2 => ?_⟩
        cases e1
        have := (HOW.out.lt e2).1
        omega
end Go.Proofs.YtjmnehlgefpheaaDoor
