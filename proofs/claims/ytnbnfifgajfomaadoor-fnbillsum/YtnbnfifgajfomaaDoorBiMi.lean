/-
  The program's bills.
-/
import Derived.Test.YtnbnfifgajfomaaDoorBiP
import Derived.Test.YtnbnfifgajfomaaDoorBiT
import Derived.Test.YtnbnfifgajfomaaDoorWkErr
namespace Go.Proofs.YtnbnfifgajfomaaDoor
open Go.RowKit Go.Shelf Go.Deep

attribute [local go_sem] Oper.semAt_some
set_option maxRecDepth 100000 in
set_option maxHeartbeats 2000000 in
theorem bsumA_any (a : Option Addr) (n cap : Nat) (f : Nat → Int) (w : World) (h : IsIn a n f w) (hn : n ≤ 1000) (hf : ∀ i, i < n → 0 ≤ f i ∧ f i ≤ 1000000000000) :
    Calls Tryd.prog 65 #[.slice a n cap] w fun e w' => e = .returned (.int .i64 (Bi.sum f n)) ∧ w' = w := by
  have H := Lib.hid h
  have HF := Lib.hid hf
  clear h hf
  go_enter Tryd.func65, Tryd.ntmps65
  go_wp2_with fail
  go_loopw [3, 8] (fun sv iv wr => ∃ (i : Nat), i ≤ n ∧ iv = .int .i64 i ∧ sv = .int .i64 (Bi.sum f i) ∧ Hid (wr = w)) (fun _ iv _ => n - (intOf iv).toNat)
  case atStart => exact ⟨0, Nat.zero_le _, rfl, rfl, rfl⟩
  case round =>
    obtain ⟨i, hi, rfl, rfl, hW⟩ := hrel
    obtain rfl := hW.out
    clear hW
    by_cases hlt : i < n
    · have hltz : (i : Int) < (n : Int) := by omega
      obtain ⟨b, o, rfl, c0⟩ := H.out.at1 hlt
      have hs := Bi.sum_bd (f := f) (M := 1000000000000) i (fun j hj => HF.out j (by omega))
      have hx := HF.out i hlt
      obtain ⟨s, hse⟩ : ∃ s, s = Bi.sum f i := ⟨_, rfl⟩
      rw [← hse] at hs ⊢
      have HS : Hid (s + f i = Bi.sum f (i + 1)) := by show _ = _; rw [hse]; rfl
      have hs0 := hs.1
      have hs1 : s ≤ 1000000000000000 := by omega
      have hx0 := hx.1
      have hx1 := hx.2
      clear hse hs hx
      go_wp2_with fail
      go_roundw
      case rel => exact ⟨i + 1, by omega, by go_num, by rw [HS.out], by first | exact rfl | exact (trivial : True)⟩
      case measure => simp [intOf]; omega
    · obtain rfl : i = n := by omega
      go_wp2_with fail
      go_ret
      exact ⟨rfl, rfl⟩
theorem wpListIn_append_q {F : Fence} {n : Nat} {P : Program} (w : World) {ops : Array Oper} {rest : List Oper} {o : Oper} {a : Act} {Q : Exit → Act → World → Prop} (hgd : o.guard = none) (s x : Operand) (t : TypeId)
    (ho : o.op = .call { callee := .builtin .append, args := #[s, x], argTypes := #[t, t] })
    (i : TypeInfo) (ht : P.underlying t = some (.slice 2)) (hi : P.info? 2 = some i) (hz : i.zero = some (.int .i64 0)) (hs : i.size = 1) (hb : i.bytes = 8)
    (B : Nat) (v : Value) (xs : List Int) (hv : a.eval s = v) (h : OwnQ B v xs w) (hl : xs.length ≤ 1048576) (hB : B ≤ w.heap.size) (ad : Addr) (c : Nat) (z : Int) (hx : a.eval x = .slice (some ad) 1 c) (hc : w.cell? ad = some (.int .i64 z))
    (hK : ∀ v' w', OwnQ B v' (xs ++ [z]) w' → w.grownBy w' v.ownBlock → (v'.ownBlock = v.ownBlock ∨ v'.ownBlock = some w.heap.size) → wpListIn F n P ops Q rest (a.put o.dst v') w') : wpListIn F n P ops Q (o :: rest) a w := by
  refine wpListIn_plain hgd fun K hK' => ?_
  obtain ⟨v', w', hrun, r1, r2, r3⟩ := run_append_q (P := P) w t o.type i ht hi hz hs hb h hl hB ad c z hc
  unfold Oper.wpIn
  refine ⟨?_, ?_⟩
  · simp [Oper.about, ho, resolve, Target.leads, Sem.run_pure]
  · rw [Oper.semAt_plain F _ _ (by rw [ho]; intro c hc'; cases hc')]
    simp [execOp, ho, resolve, invoke, builtin, hv, hx, hrun, Result.andThen]
    exact hK' _ _ (hK v' w' r1 r2 r3)
def tri (x y z : Int) (j : Nat) : Int := [x, y, z].getD j 0
theorem isin3 (W : World) (x y z : Int) : IsIn (some ⟨W.heap.size, 0, none⟩) 3 (tri x y z) (W.alloc (.cells #[.int .i64 x, .int .i64 y, .int .i64 z] 2)) := by
  have h := rowN_alloc W [.int .i64 x, .int .i64 y, .int .i64 z] 2
  refine Or.inr ⟨_, 0, rfl, fun j hj => ?_⟩
  rw [h.cell (i := 0 + j) (by simpa using hj)]
  have : j = 0 ∨ j = 1 ∨ j = 2 := by omega
  rcases this with rfl | rfl | rfl <;> rfl
theorem ko3 (W : World) (g : Nat) (a b c : Nat) (u v x : Value) : KeepsOthers W (((W.setCell ⟨g, a, none⟩ u).setCell ⟨g, b, none⟩ v).setCell ⟨g, c, none⟩ x) := ((KeepsOthers.setCell _ _ _).trans (KeepsOthers.setCell _ _ _)).trans (KeepsOthers.setCell _ _ _)
theorem ko7 (W : World) (g : Nat) (v0 v1 v2 v3 v4 v5 v6 : Value) : KeepsOthers W (((((((W.setCell ⟨g, 0, none⟩ v0).setCell ⟨g, 1, none⟩ v1).setCell ⟨g, 2, none⟩ v2).setCell ⟨g, 3, none⟩ v3).setCell ⟨g, 4, none⟩ v4).setCell ⟨g, 5, none⟩ v5).setCell ⟨g, 6, none⟩ v6) :=
  ((ko3 W g 0 1 2 v0 v1 v2).trans (ko3 _ g 3 4 5 v3 v4 v5)).trans (KeepsOthers.setCell _ _ _)
/-- What a bill's making ends with: a bill, or an error. -/
def MbEnd (B : Nat) (t : Bi.T) (d x : Int) (e : Ending) (W : World) : Prop :=
  (¬ Bi.Ok t d x ∧ ∃ ev, e = .returned (.tuple #[blV ⟨0, 0, 0, 0, 0, 0⟩ 0 none 0, ev]) ∧ ErrIs ev 1) ∨ (Bi.Ok t d x ∧ ∃ a c, e = .returned (.tuple #[blV (Bi.bill t d x) t.bn a c, .nilIface]) ∧ QsOwn B t.bn a c (Bi.line t x) W)
/-- The lines of such blocks. -/
def Bi.lp (t : Bi.T) (x : Int) (pre : List (Fin t.bn)) : List Int := pre.map (fun y => Bi.line t x y.1)
theorem Bi.lp_all {t : Bi.T} {x : Int} {ys : List (Fin t.bn)} (h : ys.map Fin.val = List.range t.bn) : Bi.lp t x ys = Bi.ll t x t.bn := by
  unfold Bi.lp Bi.ll
  rw [← h, List.map_map]
  rfl
/-- What stands between two rounds. -/
def MbS (t : Bi.T) (a : Option Addr) (k : Nat) (x : Int) (w : World) (gb : Nat) (D : Int) (pre : List (Fin t.bn)) (W : World) : Prop := ∃ v, BmS t a k w w.heap.size gb (w.heap.size + 1) D v (Bi.lp t x pre) W
theorem row_grown {W W' : World} {row : Option Nat} {g n : Nat} {T : TypeId} {F : Nat → Value} (hr : W.rowIs g T n F) (hg : W.grownBy W' row) (h : ∀ r, row = some r → ∃ o : Obj, W.heap[r]? = some o ∧ o.isCells = false) : W'.rowIs g T n F := by
  refine hr.of_block (hg.block g hr.lt (fun e => ?_))
  obtain ⟨o, ho, hc⟩ := h g e.symm
  obtain ⟨c, h1, _⟩ := hr
  rw [h1] at ho
  cases ho
  cases hc
theorem mbs_own (t : Bi.T) (a : Option Addr) (k : Nat) (x : Int) (w : World) (gb : Nat) (D : Int) (B : Nat) (hB : w.heap.size ≤ B) : OwnFrom B (MbS t a k x w gb D) := fun pre X Y row hs hg hr => by
  obtain ⟨v, h⟩ := hs
  have hr2 := fun r e => (hr r e).2
  refine ⟨v, row_grown h.rt hg hr2, row_grown h.rb hg hr2, row_grown h.rr hg hr2, ?_, h.bel.grown hg h.bel.size (fun j hj => Nat.le_trans hB (hr j hj).1), h.ne⟩
  rcases h.q with q | ⟨g, o, c, m, F, e, h1, h2, h3, h4, h5⟩
  · exact Or.inl q
  · exact Or.inr ⟨g, o, c, m, F, e, h1, h2, h3, row_grown h4 hg hr2, h5⟩
theorem mb_kept (t : Bi.T) (a : Option Addr) (k : Nat) (w : World) {gt gb gr : Nat} {D : Int} {v v' : Value} {xs : List Int} {W W' : World} {o : Obj} (h : BmS t a k w gt gb gr D v xs W) (hg : (W.alloc o).grownBy W' v.ownBlock) : KpB w.heap.size gb W (W'.setCell ⟨gb, 1, none⟩ v') := by
  have z := ((h.bel.alloc h.bel.size o).grown hg (by have := h.bel.size; simp; omega) (fun j hj => (h.q.lt hj).1)).setCell (p := ⟨gb, 1, none⟩) h.ne.2.2 v'
  have hsz := hg.size
  rw [World.size_alloc] at hsz
  refine ⟨⟨z.os.trans h.bel.os.symm, z.tape.trans h.bel.tape.symm, z.output.trans h.bel.output.symm, ?_, fun j hj => (z.block j hj).trans (h.bel.block j hj).symm⟩, fun j c T fr hj hT hc => ?_⟩
  · show W.heap.size ≤ (W'.setCell ⟨gb, 1, none⟩ v').heap.size
    simp; omega
  · have hl := (Array.getElem?_eq_some_iff.1 hc).1
    rw [bihs _ _ _ hj, hg.block j (by simp; omega) (fun e => ?_), Below.heap_alloc _ _ _ hl]
    · exact hc
    · rcases h.q with ⟨rfl, _⟩ | ⟨g, o, c, m, F, rfl, h1, h2, h3, h4, h5⟩
      · cases e
      · cases e
        obtain ⟨c2, q1, _⟩ := h4
        rw [q1] at hc
        cases hc
        exact hT rfl
set_option maxRecDepth 100000 in
set_option maxHeartbeats 8000000 in
theorem makeBill_bad (t : Bi.T) (a : Option Addr) (k : Nat) (d x : Int) (w : World) (h : IsAt a (t.bn * 2) t.B w) (hn : t.bn ≤ 9223372036854775807) (hN : ¬ Bi.Ok t d x) :
    Calls Tryd.prog 42 #[tfV t a k, .int .i64 d, .int .i64 x] w fun e w' => MbEnd w.heap.size t d x e w' ∧ Below w.heap.size w w' := by
  have HN := Lib.hid hN
  clear hN
  obtain ⟨W, hW⟩ : ∃ W, W = (w.alloc (.cells #[.int .i64 t.day, .slice a t.bn k, .int .i64 t.sew, .int .i64 t.tax] 25)).alloc (.cells #[.int .i64 0, .slice none 0 0, .int .i64 0, .int .i64 0, .int .i64 0, .int .i64 0, .int .i64 0] 30) := ⟨_, rfl⟩
  have hB : Below w.heap.size w W := by rw [hW]; exact (nbel_alloc _ _).alloc (by simp) _
  have R0 : Hid (W.rowIs w.heap.size 25 4 (rowN (tfL t a k))) := by show W.rowIs _ _ _ _; rw [hW]; exact nrow_below (rowN_alloc w _ _) (nbel_alloc _ _)
  have R1 : Hid (W.rowIs (w.heap.size + 1) 30 7 (rowN blZ)) := by show W.rowIs _ _ _ _; rw [hW]; exact rowN_alloc' (by simp) _ _
  have H := Lib.hid h
  have HB := Lib.hid hB
  have HW := Lib.hid hW
  clear hW h hB
  go_enter Tryd.func42, Tryd.ntmps42
  go_wp2_with fail
  rw [← HW.out]
  clear HW
  refine (implTariff_any t a k _ (H.out.below HB.out) hn).mono ?_
  rintro e w1 ⟨rfl, hb⟩
  have B1 : Hid (Below w.heap.size w w1) := HB.out.trans (hb.mono HB.out.size)
  have R01 := Lib.hid (nrow_below R0.out hb)
  have R11 := Lib.hid (nrow_below R1.out hb)
  clear hb HB R0 R1
  obtain ⟨⟨o0, o1, o2, o3, o4, o5, o6⟩, y0, y1, y2, y3, y4, y5, y6⟩ := rowN7 R11.out
  have hl1 := R11.out.lt
  by_cases c1 : Bi.Right t
  case neg =>
    rw [Bi.dB_ff c1]
    clear c1
    have Z7 := Lib.hid (bl7 R11.out (.int .i64 0) (.slice none 0 0) (.int .i64 0) (.int .i64 0) (.int .i64 0) (.int .i64 0) (.int .i64 0))
    have ZB := Lib.hid (bl7b B1.out (show w.heap.size ≤ w.heap.size + 1 by omega) (.int .i64 0) (.slice none 0 0) (.int .i64 0) (.int .i64 0) (.int .i64 0) (.int .i64 0) (.int .i64 0))
    go_wp2_with fail
    refine bodyPost_ret (v := .tuple #[blV ⟨0, 0, 0, 0, 0, 0⟩ 0 none 0, errV ⟨#[97, 32, 116, 97, 114, 105, 102, 102]⟩ 1]) ?_ rfl ⟨Or.inl ⟨HN.out, _, rfl, errIs_one _ _⟩, ZB.out⟩
    obtain ⟨⟨x0, x1, x2, x3, x4, x5, x6⟩, _⟩ := rowN7 Z7.out
    simp only [results, Tryd.results42]
    simp [go_sem, x0, x1, x2, x3, x4, x5, x6]
  rw [Bi.dB_tt c1]
  have HC1 := Lib.hid c1
  clear c1
  go_wp2_with fail
  refine (awithin_any _ _ _).mono ?_
  rintro e w2 ⟨rfl, hw2⟩
  subst hw2
  by_cases c2 : 0 ≤ d ∧ d ≤ 1000
  case neg =>
    rw [decide_eq_false c2]
    clear c2
    have Z7 := Lib.hid (bl7 R11.out (.int .i64 0) (.slice none 0 0) (.int .i64 0) (.int .i64 0) (.int .i64 0) (.int .i64 0) (.int .i64 0))
    have ZB := Lib.hid (bl7b B1.out (show w.heap.size ≤ w.heap.size + 1 by omega) (.int .i64 0) (.slice none 0 0) (.int .i64 0) (.int .i64 0) (.int .i64 0) (.int .i64 0) (.int .i64 0))
    go_wp2_with fail
    refine bodyPost_ret (v := .tuple #[blV ⟨0, 0, 0, 0, 0, 0⟩ 0 none 0, errV ⟨#[116, 104, 101, 32, 100, 97, 121, 115, 32, 111, 102, 32, 97, 32, 98, 105, 108, 108]⟩ 1]) ?_ rfl ⟨Or.inl ⟨HN.out, _, rfl, errIs_one _ _⟩, ZB.out⟩
    obtain ⟨⟨x0, x1, x2, x3, x4, x5, x6⟩, _⟩ := rowN7 Z7.out
    simp only [results, Tryd.results42]
    simp [go_sem, x0, x1, x2, x3, x4, x5, x6]
  rw [decide_eq_true c2]
  have HC2 := Lib.hid c2
  clear c2
  go_wp2_with fail
  refine (awithin_any _ _ _).mono ?_
  rintro e w3 ⟨rfl, hw3⟩
  subst hw3
  by_cases c3 : 0 ≤ x ∧ x ≤ 1000000
  case neg =>
    rw [decide_eq_false c3]
    clear c3
    have Z7 := Lib.hid (bl7 R11.out (.int .i64 0) (.slice none 0 0) (.int .i64 0) (.int .i64 0) (.int .i64 0) (.int .i64 0) (.int .i64 0))
    have ZB := Lib.hid (bl7b B1.out (show w.heap.size ≤ w.heap.size + 1 by omega) (.int .i64 0) (.slice none 0 0) (.int .i64 0) (.int .i64 0) (.int .i64 0) (.int .i64 0) (.int .i64 0))
    go_wp2_with fail
    refine bodyPost_ret (v := .tuple #[blV ⟨0, 0, 0, 0, 0, 0⟩ 0 none 0, errV ⟨#[116, 104, 101, 32, 119, 97, 116, 101, 114, 32, 111, 102, 32, 97, 32, 98, 105, 108, 108]⟩ 1]) ?_ rfl ⟨Or.inl ⟨HN.out, _, rfl, errIs_one _ _⟩, ZB.out⟩
    obtain ⟨⟨x0, x1, x2, x3, x4, x5, x6⟩, _⟩ := rowN7 Z7.out
    simp only [results, Tryd.results42]
    simp [go_sem, x0, x1, x2, x3, x4, x5, x6]
  exact absurd ⟨HC1.out, HC2.out, c3⟩ HN.out
set_option maxRecDepth 100000 in
set_option maxHeartbeats 8000000 in
theorem makeBill_ok (t : Bi.T) (a : Option Addr) (k : Nat) (d x : Int) (w : World) (h : IsAt a (t.bn * 2) t.B w) (hn : t.bn ≤ 9223372036854775807) (hok : Bi.Ok t d x) :
    Calls Tryd.prog 42 #[tfV t a k, .int .i64 d, .int .i64 x] w fun e w' => MbEnd w.heap.size t d x e w' ∧ Below w.heap.size w w' := by
  have HOK := Lib.hid hok
  have HC1 : Hid (Bi.Right t) := hok.1
  have hx1 : 0 ≤ x ∧ x ≤ 1000000 := hok.2.2
  have HC2 : Hid (0 ≤ d ∧ d ≤ 1000) := hok.2.1
  have HC3 : Hid (0 ≤ x ∧ x ≤ 1000000) := hok.2.2
  have hbn : 1 ≤ t.bn ∧ t.bn ≤ 10 := hok.1.2.1.1
  have HAB : Hid (∀ b, a = some ⟨b, 0, none⟩ → b < w.heap.size) := fun b e => by
    obtain ⟨b', e', z, _⟩ := h.at2 (i := 0) (by omega)
    rw [e'] at e
    cases e
    exact World.block_lt_of_cell? _ _ z
  clear hok
  obtain ⟨W, hW⟩ : ∃ W, W = (w.alloc (.cells #[.int .i64 t.day, .slice a t.bn k, .int .i64 t.sew, .int .i64 t.tax] 25)).alloc (.cells #[.int .i64 0, .slice none 0 0, .int .i64 0, .int .i64 0, .int .i64 0, .int .i64 0, .int .i64 0] 30) := ⟨_, rfl⟩
  have hB : Below w.heap.size w W := by rw [hW]; exact (nbel_alloc _ _).alloc (by simp) _
  have R0 : Hid (W.rowIs w.heap.size 25 4 (rowN (tfL t a k))) := by show W.rowIs _ _ _ _; rw [hW]; exact nrow_below (rowN_alloc w _ _) (nbel_alloc _ _)
  have R1 : Hid (W.rowIs (w.heap.size + 1) 30 7 (rowN blZ)) := by show W.rowIs _ _ _ _; rw [hW]; exact rowN_alloc' (by simp) _ _
  have H := Lib.hid h
  have HB := Lib.hid hB
  have HW := Lib.hid hW
  clear hW h hB
  refine (callsIn_wide (n := 4)).1 ?_
  refine callsIn_of_wp_marks Tryd.func42 rfl trivial ?_ rfl
  simp only [Tryd.ntmps42, List.size_toArray, List.length_cons, List.length_nil, Nat.reduceAdd, Nat.reduceSub, Array.replicate_succ, Array.replicate_zero, List.push_toArray, List.append_toArray, List.nil_append, List.cons_append]
  gi_wp2_with fail
  rw [← HW.out]
  clear HW
  refine ⟨trivial, (callsIn_wide.2 (implTariff_any t a k _ (H.out.below HB.out) hn)).mono ?_⟩
  rintro e w1 ⟨rfl, hb⟩
  have B1 : Hid (Below w.heap.size w w1) := HB.out.trans (hb.mono HB.out.size)
  have R01 := Lib.hid (nrow_below R0.out hb)
  have R11 := Lib.hid (nrow_below R1.out hb)
  clear hb HB R0 R1
  obtain ⟨⟨o0, o1, o2, o3, o4, o5, o6⟩, y0, y1, y2, y3, y4, y5, y6⟩ := rowN7 R11.out
  have hl1 := R11.out.lt
  clear o0 o1 o2 o3 o4 o5 o6 y0 y1 y2 y3 y4 y5 y6
  rw [Bi.dB_tt HC1.out]
  gi_wp2_with fail
  refine ⟨trivial, (callsIn_wide.2 (awithin_any _ _ _)).mono ?_⟩
  rintro e w2 ⟨rfl, hw2⟩
  subst hw2
  rw [decide_eq_true HC2.out]
  gi_wp2_with fail
  refine ⟨trivial, (callsIn_wide.2 (awithin_any _ _ _)).mono ?_⟩
  rintro e w3 ⟨rfl, hw3⟩
  subst hw3
  rw [decide_eq_true HC3.out]
  obtain ⟨⟨r0, r1, r2, r3⟩, _⟩ := rowN4 R01.out
  have hd := Bi.days_bd HOK.out
  obtain ⟨D, hD⟩ : ∃ D, D = d * t.day := ⟨_, rfl⟩
  rw [← hD] at hd
  have hD1 : d * t.day = D := hD.symm
  have HD := Lib.hid hD
  clear hD
  have hrl := R01.out.lt
  gi_wp2_with fail
  refine ⟨trivial, (callsIn_wide.2 (bparts_any t a k x _)).mono ?_⟩
  rintro e w4 ⟨rfl, hw4⟩
  gi_wp2_with fail
  obtain ⟨V, hV⟩ : ∃ V, V = ((w3.alloc (.cells #[.int .i64 D, .slice none 0 0, .int .i64 0, .int .i64 0, .int .i64 0, .int .i64 0, .int .i64 0] 30)).alloc (.cells #[.int .i64 t.day, .slice a t.bn k, .int .i64 t.sew, .int .i64 t.tax] 25)).alloc (.cells #[.int .i64 x] 2) := ⟨_, rfl⟩
  rw [← hV]
  have HVS : Hid (V.heap.size = w3.heap.size + 3) := by show _ = _; rw [hV]; simp
  have HBV : Hid (Below w3.heap.size w3 V) := by show Below _ _ _; rw [hV]; exact ((nbel_alloc _ _).alloc (by simp) _).alloc (by simp; omega) _
  have HS0 : Hid (MbS t a k x w w3.heap.size D [] V) := by
    refine ⟨.slice none 0 0, nrow_below R01.out HBV.out, ?_, nrow_below R11.out HBV.out, OwnQ.nil _ _, B1.out.trans (HBV.out.mono B1.out.size), ⟨by omega, by omega, B1.out.size⟩⟩
    rw [hV]
    exact nrow_below (nrow_below (rowN_alloc w3 _ _) (nbel_alloc _ _)) (nbel_alloc _ _)
  have HRT : Hid (V.rowIs (w3.heap.size + 1) 25 4 (rowN (tfL t a k))) := by
    show V.rowIs _ _ _ _
    rw [hV]
    exact nrow_below (rowN_alloc' (by simp) _ _) (nbel_alloc _ _)
  have HRW : Hid (V.cell? ⟨w3.heap.size + 1 + 1, 0, none⟩ = some (.int .i64 x)) := by
    show _ = _
    rw [hV]
    have := qcell ((w3.alloc (.cells #[.int .i64 D, .slice none 0 0, .int .i64 0, .int .i64 0, .int .i64 0, .int .i64 0, .int .i64 0] 30)).alloc (.cells #[.int .i64 t.day, .slice a t.bn k, .int .i64 t.sew, .int .i64 t.tax] 25)) (.int .i64 x) 2
    rw [World.size_alloc, World.size_alloc] at this
    exact this
  have HBB : Hid (Below w.heap.size w V) := B1.out.trans (HBV.out.mono B1.out.size)
  obtain ⟨gb, hgb⟩ : ∃ gb, gb = w3.heap.size := ⟨_, rfl⟩
  have HGW : Hid (w.heap.size + 1 < gb) := by show _ < _; omega
  rw [← hgb] at HVS HS0 HRT HRW ⊢
  clear hV hgb R01 R11 B1 HBV r0 r1 r2 r3 hl1 hrl hD1 hw4
  obtain ⟨i1, hi1, hi0, hi2, hi3⟩ := info_parts bbinfo_i64
  refine wpIn_rangeFunc_ownH rfl (by omega) (gf := 73) (lb := #[.pointer (some ⟨gb + 1 + 1, 0, none⟩), .pointer (some ⟨gb + 1, 0, none⟩)]) rfl trivial (enters_of Tryd.func73 (by kernel_rfl) rfl)
    (bparts_stops 3 (gb + 1) (gb + 1 + 1) gb w.heap.size t a k x HC1.out.2.1 hx1 HAB.out (by omega) V (by have := HVS.out; omega) HBB.out.size HRT.out HRW.out (H.out.below HBB.out)) KpB.trans
    (fun W l o o' hl h hc hw => ⟨belowK_b (w := V) HBB.out.size W l o o' hl h hc hw, fun j c T fr _ _ hcc => (World.putObj_heap_other (by rintro rfl; rw [h] at hcc; cases hcc; cases hc)).trans hcc⟩) (Below.refl _ _) (fun _ => rfl)
    (fun pre W => MbS t a k x w gb D pre W ∧ V.heap.size ≤ W.heap.size)
    (fun _ _ _ => False)
    (OwnFrom.and (mbs_own t a k x w gb D _ HBB.out.size) (fun _ _ _ _ hs hg _ => Nat.le_trans hs hg.size))
    (fun _ _ _ _ _ hs _ _ => hs)
    ⟨HS0.out, Nat.le_refl _⟩
    (fun y a' W => ∃ Bx, V.heap.size ≤ Bx ∧ W.heap[Bx]? = some (.cells #[.int .i64 (t.B (y.1 * 2)), .int .i64 (t.B (y.1 * 2 + 1))] 73 (0, 0)) ∧ a' = { tmps := #[tfV t a k, .int .i64 d, .int .i64 x, .pointer (some ⟨w.heap.size, 0, none⟩), undef, undef, .pointer (some ⟨w.heap.size + 1, 0, none⟩), .nilIface, .pointer (some ⟨gb, 0, none⟩), .pointer (some ⟨Bx, 0, none⟩), .int .i64 (Bi.part t x y.1), undef, .agg #[.int .i64 t.day, .slice a t.bn k, .int .i64 t.sew, .int .i64 t.tax], .bool true, .bool false, undef, undef, undef, undef, undef, .int .i64 d, .bool true, .bool false, undef, undef, undef, undef, undef, .int .i64 x, .bool true, .bool false, undef, undef, undef, undef, undef, .int .i64 d, .pointer (some ⟨w.heap.size, 0, none⟩), .int .i64 t.day, .int .i64 D, .agg #[.int .i64 D, .slice none 0 0, .int .i64 0, .int .i64 0, .int .i64 0, .int .i64 0, .int .i64 0], .agg #[.int .i64 t.day, .slice a t.bn k, .int .i64 t.sew, .int .i64 t.tax], .int .i64 x, .func (.func 73) #[] #[.pointer (some ⟨gb + 1 + 1, 0, none⟩), .pointer (some ⟨gb + 1, 0, none⟩)], .agg #[.int .i64 (t.B (y.1 * 2)), .int .i64 (t.B (y.1 * 2 + 1))], .int .i64 (Bi.part t x y.1), undef, undef, undef, undef, undef, undef, undef, undef, undef, undef, undef, undef, undef, undef, undef, undef, undef, undef, undef, undef, undef, undef, undef, undef, undef, undef, undef, undef, undef, undef, undef, undef, undef, undef, undef, undef, undef, undef, undef, undef, undef], defers := [] })
    (fun y a' _ X Y row hs hg hr => by
      obtain ⟨Bx, h1, h2, h3⟩ := hs
      refine ⟨Bx, h1, (hg.block Bx (Array.getElem?_eq_some_iff.1 h2).1 (fun e => ?_)).trans h2, h3⟩
      obtain ⟨_, o, ho, hc⟩ := hr Bx e.symm
      rw [h2] at ho
      cases ho
      cases hc)
    ?assign ?body ?done ?stop
  case assign =>
    rintro l pre y W K ⟨⟨v, hi⟩, hw⟩ hK
    gi_wp2
    exact hK _ _ ((KeepsOthers.alloc _ _).from _) (KpB.alloc _ hi.bel.size) ⟨⟨v, hi.below (nbel_alloc _ _)⟩, by simp; omega⟩ ⟨W.heap.size, hw, World.alloc_heap_new _ _, rfl⟩
  case body =>
    rintro l pre y a' W hl ⟨r, hr⟩ ⟨⟨v, hi⟩, hw⟩ ⟨Bx, hBx, bX, rfl⟩ hlt
    obtain ⟨av, cv, rfl, _⟩ := hi.q.shape
    have HS := Lib.hid hi
    have HWS := Lib.hid hw
    have HOKb := Lib.hid (HC1.out.2.1.2 y.1 y.2)
    have ha := Bi.ahead_bd y.1 (fun j hj => HC1.out.2.1.2 j (by have := y.2; omega)) y.2
    have hpb := Bi.part_bd HOKb.out ha.1 hx1
    have hlb := Bi.line_bd HOKb.out ha.1 hx1
    obtain ⟨⟨b0, b1, b2, b3, b4, b5, b6⟩, f0, f1, f2, f3, f4, f5, f6⟩ := rowN7 hi.rb
    have hgl := hi.rb.lt
    have c1 : W.cell? ⟨Bx, 1, none⟩ = some (.int .i64 (t.B (y.1 * 2 + 1))) := by simp [World.cell?, bX]
    have HLP : Hid (Bi.lp t x (pre ++ [y]) = Bi.lp t x pre ++ [Bi.line t x y.1]) := by show _ = _; simp [Bi.lp]
    have HLE : Hid ((Bi.lp t x pre).length ≤ 10) := by show _ ≤ _; simp [Bi.lp]; omega
    obtain ⟨L, hL⟩ : ∃ L, L = Bi.line t x y.1 := ⟨_, rfl⟩
    have hLe : t.B (y.1 * 2 + 1) * Bi.part t x y.1 = L := by rw [hL]; rfl
    rw [← hL] at hlb HLP
    clear hL hi hw ha hr hl bX hBx hlt b0 b2 b3 b4 b5 b6 f0 f2 f3 f4 f5 f6
    have KM : Hid (∀ v' W', OwnQ w.heap.size v' (Bi.lp t x pre ++ [L]) W' → (W.alloc (.cells #[.int .i64 L] 2)).grownBy W' (Value.slice av (Bi.lp t x pre).length cv).ownBlock → KeepsFrom V.heap.size W (W'.setCell ⟨gb, 1, none⟩ v') ∧ KpB w.heap.size gb W (W'.setCell ⟨gb, 1, none⟩ v') ∧ MbS t a k x w gb D (pre ++ [y]) (W'.setCell ⟨gb, 1, none⟩ v') ∧ V.heap.size ≤ (W'.setCell ⟨gb, 1, none⟩ v').heap.size ∧ W'.rowIs gb 30 7 (rowN (blD D (.slice av (Bi.lp t x pre).length cv)))) := fun v' W' ho hg => by
      have hA := HS.out.below (nbel_alloc W (.cells #[.int .i64 L] 2))
      have hsz := hg.size
      rw [World.size_alloc] at hsz
      refine ⟨(((KeepsOthers.alloc W _).trans (KeepsOthers.of_grownBy hg fun j o ej hj => ?_)).trans (KeepsOthers.setCell _ _ _)).from _, mb_kept t a k w HS.out hg, ⟨v', ?_⟩, by have := HWS.out; simp; omega, (hA.grow hg).2.1⟩
      · rcases hA.q with ⟨e, _⟩ | ⟨g, o', c, m, F, e, h1, h2, h3, h4, h5⟩
        · rw [e] at ej; cases ej
        · rw [e] at ej
          cases ej
          obtain ⟨cc, q1, _⟩ := h4
          rw [q1] at hj
          cases hj
          rfl
      · rw [HLP.out]
        exact hA.push ho hg
    gi_wp2_with (gi_at_builtin; refine wpListIn_append_q _ rfl _ _ 28 rfl i1 Tryd.underlying28 hi1 hi0 hi2 hi3 w.heap.size _ (Bi.lp t x pre) rfl (HS.out.below (nbel_alloc _ _)).q (Nat.le_trans HLE.out (by omega)) (by have := HS.out.bel.size; simp; omega) ⟨W.heap.size, 0, none⟩ 1 L rfl (qcell _ _ _) ?_)
    intro v' W3 hown hgrow _
    obtain ⟨k1, k2, k3, k4, rb3⟩ := KM.out v' W3 hown hgrow
    have K1 := Lib.hid k1
    have K2 := Lib.hid k2
    have K3 := Lib.hid k3
    have K4 := Lib.hid k4
    obtain ⟨av2, cv2, rfl, _⟩ := hown.shape
    clear b1 f1 hgl c1
    obtain ⟨⟨b0, b1, b2, b3, b4, b5, b6⟩, f0, f1, f2, f3, f4, f5, f6⟩ := rowN7 rb3
    have hgl := rb3.lt
    rw [List.length_append, List.length_singleton] at K1 K2 K3 K4
    clear k1 k2 k3 k4 rb3 hown hgrow KM HS
    gi_wp2
    exact ⟨K1.out, K2.out, K3.out, K4.out⟩
  case done =>
    rintro Q ys W hD hys ⟨⟨v, hi⟩, hw⟩ hK
    rw [Bi.lp_all hys] at hi
    obtain ⟨av, cv, rfl, _⟩ := hi.q.shape
    rw [Bi.ll_len] at hi
    have HQ : Hid (QsOwn w.heap.size t.bn av cv (Bi.line t x) W) := by
      obtain ⟨a9, c9, e9, h9⟩ := hi.q.qs
      rw [Bi.ll_len] at e9 h9
      cases e9
      exact h9.congr (fun j hj => Bi.ll_at _ _ _ _ hj)
    have HS := Lib.hid hi
    have HK := Lib.hid hK
    have HQD : Hid (V.heap.size ≤ Q) := hD
    have HVL : Hid (V.heap.size ≤ W.heap.size) := hw
    obtain ⟨⟨b0, b1, b2, b3, b4, b5, b6⟩, f0, f1, f2, f3, f4, f5, f6⟩ := rowN7 hi.rb
    clear hi hK hD hw hys
    gi_wp2_with fail
    refine ⟨trivial, (callsIn_wide.2 (bsumA_any av t.bn cv (Bi.line t x) _ HQ.out.in_ (by omega) (fun j hj => by
      have hb := HC1.out.2.1
      have := Bi.line_bd (hb.2 j hj) (Bi.ahead_bd j (fun i hi => hb.2 i (by omega)) hj).1 hx1
      omega))).mono ?_⟩
    rintro e w5 ⟨rfl, hw5⟩
    subst hw5
    obtain ⟨hs1, hs2⟩ := Bi.sew_bd HOK.out
    have hn1 := Bi.net_bd HOK.out
    obtain ⟨ht1, ht2⟩ := Bi.tax_bd HOK.out
    have hL1 := Bi.lsum_bd HC1.out.2.1 hx1 t.bn (Nat.le_refl _)
    obtain ⟨L0, hL0⟩ : ∃ L0, L0 = Bi.lsum t x t.bn := ⟨_, rfl⟩
    obtain ⟨X1, hX1⟩ : ∃ X1, X1 = L0 * t.sew := ⟨_, rfl⟩
    obtain ⟨S, hSe⟩ : ∃ S, S = Bi.sewG t x := ⟨_, rfl⟩
    obtain ⟨N, hN⟩ : ∃ N, N = Bi.netG t d x := ⟨_, rfl⟩
    obtain ⟨Y, hY⟩ : ∃ Y, Y = N * t.tax := ⟨_, rfl⟩
    obtain ⟨T, hT⟩ : ∃ T, T = Bi.taxG t d x := ⟨_, rfl⟩
    rw [← hL0] at hs1 hL1
    rw [← hX1] at hs1
    rw [← hSe] at hs2
    rw [← hN] at hn1 ht1
    rw [← hY] at ht1
    rw [← hT] at ht2
    have hsl : Bi.sum (Bi.line t x) t.bn = L0 := hL0.symm
    rw [hsl]
    have e1 : L0 * t.sew = X1 := hX1.symm
    have e2 : X1 / 100 = S := by rw [hX1, hSe, hL0]; rfl
    have e3 : X1.tdiv 100 = S := by rw [Int.tdiv_eq_ediv_of_nonneg hs1.1]; exact e2
    have E4 : Hid (Bi.sum (tri D L0 S) 3 = N) := by
      show _ = _
      have : Bi.sum (tri D L0 S) 3 = 0 + D + L0 + S := rfl
      rw [this, hN, HD.out, hL0, hSe]
      unfold Bi.netG
      omega
    have e5 : N * t.tax = Y := hY.symm
    have e6 : (Y + 50) / 100 = T := by rw [hT, hY, hN]; rfl
    have e7 : (Y + 50).tdiv 100 = T := by rw [Int.tdiv_eq_ediv_of_nonneg (by omega)]; exact e6
    have HBL : Hid (Bi.bill t d x = ⟨D, S, N, T, N + T, 0⟩) := by show _ = _; rw [HD.out, hSe, hN, hT]; rfl
    obtain ⟨⟨r0, r1, r2, r3⟩, _⟩ := rowN4 HS.out.rt
    have hgl := HS.out.rb.lt
    have hgt : w.heap.size ≠ gb := HS.out.ne.2.1
    clear hsl hX1 hSe hN hY hT hL0 e2 e6
    gi_wp2_with fail
    obtain ⟨U, hU⟩ : ∃ U, U = w5.setCell ⟨gb, 2, none⟩ (.int .i64 S) := ⟨_, rfl⟩
    have hUz : w5.heap.size = U.heap.size := by rw [hU]; simp
    rw [← hU, hUz]
    refine ⟨trivial, (callsIn_wide.2 (bsumA_any (some ⟨U.heap.size, 0, none⟩) 3 3 (tri D L0 S) _ (isin3 U D L0 S) (by omega) (fun j hj => by
      have : j = 0 ∨ j = 1 ∨ j = 2 := by omega
      rcases this with rfl | rfl | rfl
      · show 0 ≤ D ∧ D ≤ _; omega
      · show 0 ≤ L0 ∧ L0 ≤ _; omega
      · show 0 ≤ S ∧ S ≤ _; omega))).mono ?_⟩
    rintro e w6 ⟨rfl, hw6⟩
    rw [E4.out]
    have hgn : gb ≠ w.heap.size + 1 := HS.out.ne.1
    have hwb : w.heap.size ≤ gb := HS.out.ne.2.2
    have hb6 : Below U.heap.size U w6 := by rw [hw6]; exact nbel_alloc _ _
    have RB6 : w6.rowIs gb 30 7 (rowN [.int .i64 D, .slice av t.bn cv, .int .i64 S, .int .i64 0, .int .i64 0, .int .i64 0, .int .i64 0]) := nrow_below (by rw [hU]; exact rowN_put HS.out.rb 2 _ (by simp)) hb6
    have RR6 : w6.rowIs (w.heap.size + 1) 30 7 (rowN blZ) := nrow_below (by rw [hU]; exact nrow_set HS.out.rr (by show w.heap.size + 1 ≠ gb; exact Ne.symm hgn) _) hb6
    have RT6 : w6.rowIs w.heap.size 25 4 (rowN (tfL t a k)) := nrow_below (by rw [hU]; exact nrow_set HS.out.rt (by show w.heap.size ≠ gb; exact hgt) _) hb6
    have BB6 : Below w.heap.size w w6 := (show Below w.heap.size w U by rw [hU]; exact HS.out.bel.setCell (p := ⟨gb, 2, none⟩) hwb _).trans (hb6.mono (by rw [← hUz]; exact HS.out.bel.size))
    have KK6 : w6.heap[Q]? = some (.deferred (some [])) := by
      have h5 : U.heap[Q]? = some (.deferred (some [])) := by rw [hU]; exact (KeepsOthers.setCell _ _ _).same Q _ HK.out rfl
      exact (hb6.block _ (Array.getElem?_eq_some_iff.1 h5).1).trans h5
    have HN1 : Hid (∀ j, (Value.slice av t.bn cv).ownBlock = some j → j ≠ gb ∧ j ≠ w.heap.size + 1 ∧ j ≠ Q) := fun j hj => ⟨fun e => HQ.out.ne HS.out.rb (by decide) (by rw [hj, e]), fun e => HQ.out.ne HS.out.rr (by decide) (by rw [hj, e]), fun e => by
      rcases HQ.out with ⟨rfl, _⟩ | ⟨g, o, rfl, _, m, F, _, hr, _⟩
      · cases hj
      · cases hj
        obtain ⟨cc, q1, _⟩ := hr
        have hk := HK.out
        rw [← show g = Q from e, q1] at hk
        cases hk⟩
    have HQ6 : Hid (QsOwn w.heap.size t.bn av cv (Bi.line t x) w6) := HQ.out.same (fun j hj hl => (hb6.block j (by rw [← hUz]; exact hl)).trans (by rw [hU]; exact bihs _ _ _ (HN1.out j hj).1 _ _))
    clear b0 b1 b2 b3 b4 b5 b6 f0 f1 f2 f3 f4 f5 f6 r0 r1 r2 r3 hgl
    obtain ⟨⟨r0, r1, r2, r3⟩, _⟩ := rowN4 RT6
    obtain ⟨⟨b0, b1, b2, b3, b4, b5, b6⟩, f0, f1, f2, f3, f4, f5, f6⟩ := rowN7 RB6
    obtain ⟨⟨z0, z1, z2, z3, z4, z5, z6⟩, j0, j1, j2, j3, j4, j5, j6⟩ := rowN7 RR6
    have hgl := RB6.lt
    have hgr := RR6.lt
    obtain ⟨Z, hZ⟩ : ∃ Z, Z = ((w6.setCell ⟨gb, 3, none⟩ (.int .i64 N)).setCell ⟨gb, 4, none⟩ (.int .i64 T)).setCell ⟨gb, 5, none⟩ (.int .i64 (N + T)) := ⟨_, rfl⟩
    have C4 : Z.rowIs (w.heap.size + 1) 30 7 (rowN blZ) := by rw [hZ]; exact nrow_set (nrow_set (nrow_set RR6 (p := ⟨gb, 3, none⟩) (Ne.symm hgn) (.int .i64 N)) (p := ⟨gb, 4, none⟩) (Ne.symm hgn) (.int .i64 T)) (p := ⟨gb, 5, none⟩) (Ne.symm hgn) (.int .i64 (N + T))
    have D4 : Below w.heap.size w Z := by rw [hZ]; exact ((BB6.setCell (p := ⟨gb, 3, none⟩) hwb (.int .i64 N)).setCell (p := ⟨gb, 4, none⟩) hwb (.int .i64 T)).setCell (p := ⟨gb, 5, none⟩) hwb (.int .i64 (N + T))
    have K4 : Z.heap[Q]? = some (.deferred (some [])) := by rw [hZ]; exact (ko3 w6 gb 3 4 5 (.int .i64 N) (.int .i64 T) (.int .i64 (N + T))).same Q _ KK6 rfl
    have Q4 : QsOwn w.heap.size t.bn av cv (Bi.line t x) Z := HQ6.out.same (fun j hj _ => by
      have g1 := (HN1.out j hj).1
      rw [hZ, bihs _ _ _ g1, bihs _ _ _ g1, bihs _ _ _ g1])
    have Z7 := Lib.hid (bl7 C4 (.int .i64 D) (.slice av t.bn cv) (.int .i64 S) (.int .i64 N) (.int .i64 T) (.int .i64 (N + T)) (.int .i64 0))
    have ZB := Lib.hid (bl7b D4 (show w.heap.size ≤ w.heap.size + 1 by omega) (.int .i64 D) (.slice av t.bn cv) (.int .i64 S) (.int .i64 N) (.int .i64 T) (.int .i64 (N + T)) (.int .i64 0))
    have ZK := Lib.hid ((ko7 Z (w.heap.size + 1) (.int .i64 D) (.slice av t.bn cv) (.int .i64 S) (.int .i64 N) (.int .i64 T) (.int .i64 (N + T)) (.int .i64 0)).same Q _ K4 rfl)
    have ZQ : Hid (QsOwn w.heap.size t.bn av cv (Bi.line t x) (((((((Z.setCell ⟨w.heap.size + 1, 0, none⟩ (.int .i64 D)).setCell ⟨w.heap.size + 1, 1, none⟩ (.slice av t.bn cv)).setCell ⟨w.heap.size + 1, 2, none⟩ (.int .i64 S)).setCell ⟨w.heap.size + 1, 3, none⟩ (.int .i64 N)).setCell ⟨w.heap.size + 1, 4, none⟩ (.int .i64 T)).setCell ⟨w.heap.size + 1, 5, none⟩ (.int .i64 (N + T))).setCell ⟨w.heap.size + 1, 6, none⟩ (.int .i64 0))) := Q4.same (fun j hj _ => bl7o (HN1.out j hj).2.1 _ _ _ _ _ _ _)
    have HZ := Lib.hid hZ
    clear hU hw6 hb6 RB6 RR6 RT6 BB6 KK6 HQ6 C4 D4 K4 Q4 hZ HS HQ HK hUz
    gi_wp2_with fail
    rw [← HZ.out]
    generalize ((((((Z.setCell ⟨w.heap.size + 1, 0, none⟩ (.int .i64 D)).setCell ⟨w.heap.size + 1, 1, none⟩ (.slice av t.bn cv)).setCell ⟨w.heap.size + 1, 2, none⟩ (.int .i64 S)).setCell ⟨w.heap.size + 1, 3, none⟩ (.int .i64 N)).setCell ⟨w.heap.size + 1, 4, none⟩ (.int .i64 T)).setCell ⟨w.heap.size + 1, 5, none⟩ (.int .i64 (N + T))).setCell ⟨w.heap.size + 1, 6, none⟩ (.int .i64 0) = W9 at Z7 ZB ZK ZQ ⊢
    refine ⟨by simp, .inl ⟨_, _, rfl, run_takeDeferred ZK.out, ?_⟩⟩
    have hr9 := row_grown Z7.out (grownBy_putObj' _ Q (.deferred none)) (fun r e => by cases e; exact ⟨_, ZK.out, rfl⟩)
    obtain ⟨⟨x0, x1, x2, x3, x4, x5, x6⟩, _⟩ := rowN7 hr9
    refine ⟨.tuple #[blV (Bi.bill t d x) t.bn av cv, .nilIface], ?_, Or.inr ⟨HOK.out, av, cv, rfl, ZQ.out.same (fun j hj _ => World.putObj_heap_other (HN1.out j hj).2.2)⟩, ZB.out.trans (belowK_b (w := w) (Nat.le_refl _) _ Q _ _ (Nat.le_trans HBB.out.size HQD.out) ZK.out rfl rfl)⟩
    rw [HBL.out]
    simp [results, Tryd.f42, go_sem, x0, x1, x2, x3, x4, x5, x6]
  case stop =>
    rintro D c pre W hD _ h _
    exact h.elim
theorem makeBill_any (t : Bi.T) (a : Option Addr) (k : Nat) (d x : Int) (w : World) (h : IsAt a (t.bn * 2) t.B w) (hn : t.bn ≤ 9223372036854775807) :
    Calls Tryd.prog 42 #[tfV t a k, .int .i64 d, .int .i64 x] w fun e w' => MbEnd w.heap.size t d x e w' ∧ Below w.heap.size w w' := by
  by_cases c : Bi.Ok t d x
  · exact makeBill_ok t a k d x w h hn c
  · exact makeBill_bad t a k d x w h hn c
set_option maxRecDepth 100000 in
set_option maxHeartbeats 4000000 in
theorem tellBill_ok (X : Bi.Bl) (n : Nat) (a : Option Addr) (k : Nat) (w : World) :
    Calls Tryd.prog 41 #[blV X n a k, .nilIface] w fun e w' => e = .returned (blV X n a k) ∧ Below w.heap.size w w' := by
  obtain ⟨W, hW⟩ : ∃ W, W = (w.alloc (.cells #[.int .i64 X.days, .slice a n k, .int .i64 X.sew, .int .i64 X.net, .int .i64 X.tax, .int .i64 X.gross, .int .i64 X.code] 30)).alloc (.cells #[.int .i64 0, .slice none 0 0, .int .i64 0, .int .i64 0, .int .i64 0, .int .i64 0, .int .i64 0] 30) := ⟨_, rfl⟩
  have HR : Hid (W.rowIs w.heap.size 30 7 (rowN (blL X n a k))) := by show W.rowIs _ _ _ _; rw [hW]; exact nrow_below (rowN_alloc w _ _) (nbel_alloc _ _)
  have HO : Hid (W.rowIs (w.heap.size + 1) 30 7 (rowN blZ)) := by show W.rowIs _ _ _ _; rw [hW]; exact rowN_alloc' (by simp) _ _
  obtain ⟨⟨x0, x1, x2, x3, x4, x5, x6⟩, _⟩ := rowN7 HR.out
  obtain ⟨⟨o0, o1, o2, o3, o4, o5, o6⟩, z0, z1, z2, z3, z4, z5, z6⟩ := rowN7 HO.out
  have hol := HO.out.lt
  rw [hW] at x0 x1 x2 x3 x4 x5 x6 o0 o1 o2 o3 o4 o5 o6 z0 z1 z2 z3 z4 z5 z6 hol
  clear hW
  go_enter Tryd.func41, Tryd.ntmps41
  go_wp2_with fail
  exact bodyPost_ret (v := blV X n a k) (by simp only [results, Tryd.results41]; simp [go_sem]) rfl ⟨rfl, (nbel_alloc _ _).alloc (by simp) _⟩
set_option maxRecDepth 100000 in
set_option maxHeartbeats 4000000 in
theorem tellBill_bad (X : Bi.Bl) (n : Nat) (a : Option Addr) (k : Nat) (ev : Value) (w : World) (he : ErrIs ev 1) (hg : Et w) :
    Calls Tryd.prog 41 #[blV X n a k, ev] w fun e w' => e = .returned (blV Bi.bad 0 none 0) ∧ Below w.heap.size w w' := by
  obtain ⟨yy, rfl, hy⟩ := he
  obtain ⟨W, hW⟩ : ∃ W, W = (w.alloc (.cells #[.int .i64 X.days, .slice a n k, .int .i64 X.sew, .int .i64 X.net, .int .i64 X.tax, .int .i64 X.gross, .int .i64 X.code] 30)).alloc (.cells #[.int .i64 0, .slice none 0 0, .int .i64 0, .int .i64 0, .int .i64 0, .int .i64 0, .int .i64 0] 30) := ⟨_, rfl⟩
  have HB : Hid (Below w.heap.size w W) := by show Below _ _ _; rw [hW]; exact (nbel_alloc _ _).alloc (by simp) _
  have HO : Hid (W.rowIs (w.heap.size + 1) 30 7 (rowN blZ)) := by show W.rowIs _ _ _ _; rw [hW]; exact rowN_alloc' (by simp) _ _
  have HW := Lib.hid hW
  have HET := Lib.hid (hg.below HB.out)
  have HY := Lib.hid hy
  clear hW hg hy
  go_enter Tryd.func41, Tryd.ntmps41
  go_wp2_with fail
  rw [← HW.out]
  clear HW
  refine (codeOf_any yy 1 HY.out _ HET.out).mono ?_
  rintro e w1 ⟨rfl, hb⟩
  have HO1 := Lib.hid (nrow_below HO.out hb)
  have HB1 : Hid (Below w.heap.size w w1) := HB.out.trans (hb.mono HB.out.size)
  clear hb HO HB
  obtain ⟨⟨o0, o1, o2, o3, o4, o5, o6⟩, z0, z1, z2, z3, z4, z5, z6⟩ := rowN7 HO1.out
  have hol := HO1.out.lt
  have zr := Lib.hid (bl7 HO1.out (.int .i64 0) (.slice none 0 0) (.int .i64 0) (.int .i64 0) (.int .i64 0) (.int .i64 0) (.int .i64 1))
  have zb := Lib.hid (bl7b HB1.out (show w.heap.size ≤ w.heap.size + 1 by omega) (.int .i64 0) (.slice none 0 0) (.int .i64 0) (.int .i64 0) (.int .i64 0) (.int .i64 0) (.int .i64 1))
  go_wp2_with fail
  refine bodyPost_ret (v := blV Bi.bad 0 none 0) ?_ rfl ⟨rfl, zb.out⟩
  obtain ⟨⟨c0, c1, c2, c3, c4, c5, c6⟩, _⟩ := rowN7 zr.out
  simp only [results, Tryd.results41]
  simp [go_sem, c0, c1, c2, c3, c4, c5, c6, Bi.bad]
set_option maxRecDepth 100000 in
set_option maxHeartbeats 4000000 in
theorem implBill_any (t : Bi.T) (a : Option Addr) (k : Nat) (d x : Int) (w : World) (h : IsAt a (t.bn * 2) t.B w) (hn : t.bn ≤ 9223372036854775807) (hg : Et w) :
    Calls Tryd.prog 10 #[tfV t a k, .int .i64 d, .int .i64 x] w fun e w' => BlEnd w.heap.size t d x e w' ∧ Below w.heap.size w w' := by
  obtain ⟨W, hW⟩ : ∃ W, W = (w.alloc (.cells #[.int .i64 t.day, .slice a t.bn k, .int .i64 t.sew, .int .i64 t.tax] 25)).alloc (.cells #[.int .i64 0, .slice none 0 0, .int .i64 0, .int .i64 0, .int .i64 0, .int .i64 0, .int .i64 0] 30) := ⟨_, rfl⟩
  have HB : Hid (Below w.heap.size w W) := by show Below _ _ _; rw [hW]; exact (nbel_alloc _ _).alloc (by simp) _
  have HO : Hid (W.rowIs (w.heap.size + 1) 30 7 (rowN blZ)) := by show W.rowIs _ _ _ _; rw [hW]; exact rowN_alloc' (by simp) _ _
  have H := Lib.hid (h.below HB.out)
  have HG := Lib.hid hg
  have HW := Lib.hid hW
  clear hW h hg
  go_enter Tryd.func10, Tryd.ntmps10
  go_wp2_with fail
  rw [← HW.out]
  clear HW
  refine (makeBill_any t a k d x _ H.out hn).mono ?_
  rintro e w1 ⟨hE, hb⟩
  have HO1 := Lib.hid (nrow_below HO.out hb)
  have HB1 : Hid (Below w.heap.size w w1) := HB.out.trans (hb.mono HB.out.size)
  have HWS : Hid (w.heap.size ≤ W.heap.size) := HB.out.size
  clear hb HO HB
  rcases hE with ⟨hN, ev, rfl, he⟩ | ⟨hok, av, cv, rfl, hq⟩
  · have HE := Lib.hid he
    have HN := Lib.hid hN
    have hsh : ∃ y, ev = .iface 105 y := by obtain ⟨y, h, _⟩ := he; exact ⟨y, h⟩
    obtain ⟨y, rfl⟩ := hsh
    clear he hN
    go_wp2_with fail
    refine (tellBill_bad ⟨0, 0, 0, 0, 0, 0⟩ 0 none 0 _ _ HE.out (HG.out.below HB1.out)).mono ?_
    rintro e w2 ⟨rfl, hb⟩
    have HO2 := nrow_below HO1.out hb
    have HB2 : Hid (Below w.heap.size w w2) := HB1.out.trans (hb.mono HB1.out.size)
    clear hb HO1
    obtain ⟨⟨o0, o1, o2, o3, o4, o5, o6⟩, z0, z1, z2, z3, z4, z5, z6⟩ := rowN7 HO2
    have hol := HO2.lt
    have zr := Lib.hid (bl7 HO2 (.int .i64 Bi.bad.days) (.slice none 0 0) (.int .i64 Bi.bad.sew) (.int .i64 Bi.bad.net) (.int .i64 Bi.bad.tax) (.int .i64 Bi.bad.gross) (.int .i64 Bi.bad.code))
    have zb := Lib.hid (bl7b HB2.out (show w.heap.size ≤ w.heap.size + 1 by omega) (.int .i64 Bi.bad.days) (.slice none 0 0) (.int .i64 Bi.bad.sew) (.int .i64 Bi.bad.net) (.int .i64 Bi.bad.tax) (.int .i64 Bi.bad.gross) (.int .i64 Bi.bad.code))
    clear HO2
    go_wp2_with fail
    refine bodyPost_ret (v := blV Bi.bad 0 none 0) ?_ rfl ⟨Or.inl ⟨HN.out, rfl⟩, zb.out⟩
    obtain ⟨⟨c0, c1, c2, c3, c4, c5, c6⟩, _⟩ := rowN7 zr.out
    simp only [results, Tryd.results10]
    simp [go_sem, c0, c1, c2, c3, c4, c5, c6]
  · have HQ := Lib.hid (hq.low HWS.out)
    have HN := Lib.hid hok
    clear hq hok
    obtain ⟨X, hX⟩ : ∃ X, X = Bi.bill t d x := ⟨_, rfl⟩
    have HX := Lib.hid hX
    rw [← hX]
    clear hX
    go_wp2_with fail
    refine (tellBill_ok X t.bn av cv _).mono ?_
    rintro e w2 ⟨rfl, hb⟩
    have HO2 := nrow_below HO1.out hb
    have HB2 : Hid (Below w.heap.size w w2) := HB1.out.trans (hb.mono HB1.out.size)
    have HQ2 := Lib.hid (HQ.out.below hb)
    have HNE : Hid (∀ j, (Value.slice av t.bn cv).ownBlock = some j → j ≠ w.heap.size + 1) := fun j hj e => HQ2.out.ne HO2 (by decide) (by rw [hj, e])
    clear hb HO1 HQ
    obtain ⟨⟨o0, o1, o2, o3, o4, o5, o6⟩, z0, z1, z2, z3, z4, z5, z6⟩ := rowN7 HO2
    have hol := HO2.lt
    have zr := Lib.hid (bl7 HO2 (.int .i64 X.days) (.slice av t.bn cv) (.int .i64 X.sew) (.int .i64 X.net) (.int .i64 X.tax) (.int .i64 X.gross) (.int .i64 X.code))
    have zb := Lib.hid (bl7b HB2.out (show w.heap.size ≤ w.heap.size + 1 by omega) (.int .i64 X.days) (.slice av t.bn cv) (.int .i64 X.sew) (.int .i64 X.net) (.int .i64 X.tax) (.int .i64 X.gross) (.int .i64 X.code))
    clear HO2
    go_wp2_with fail
    refine bodyPost_ret (v := blV X t.bn av cv) ?_ rfl ⟨Or.inr ⟨HN.out, av, cv, by rw [HX.out], HQ2.out.same (fun j hj _ => bl7o (HNE.out j hj) _ _ _ _ _ _ _)⟩, zb.out⟩
    obtain ⟨⟨c0, c1, c2, c3, c4, c5, c6⟩, _⟩ := rowN7 zr.out
    simp only [results, Tryd.results10]
    simp [go_sem, c0, c1, c2, c3, c4, c5, c6]
end Go.Proofs.YtnbnfifgajfomaaDoor
