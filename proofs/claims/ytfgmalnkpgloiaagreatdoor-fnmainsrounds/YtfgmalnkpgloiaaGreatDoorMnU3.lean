/-
  The start of mains: the model's walk.
-/
import Derived.Test.YtfgmalnkpgloiaaGreatDoorMnU2
import Derived.Test.YtfgmalnkpgloiaaGreatDoorMnEx4
namespace Go.Proofs.YtfgmalnkpgloiaaGreatDoor
open Go.RowKit Go.Deep

/-- The model's tree as it lies in memory. -/
def SpAt (v : Value) (l : List (Nat × Bool)) (W : World) : Prop := ∃ a c, v = .slice a l.length c ∧ (l = [] ∨ ∃ g, a = some ⟨g, 0, none⟩ ∧ g < W.heap.size ∧ ∀ k e, l[k]? = some e → W.cell? ⟨g, k * 2, none⟩ = some (.int .i64 (e.1 : Int)) ∧ W.cell? ⟨g, k * 2 + 1, none⟩ = some (.bool e.2))
theorem sp_of {B : Nat} {T : TypeId} {v : Value} {l : List (Nat × Bool)} {W : World} (h : W.ownsRow B T 2 v l.length (spL l)) : SpAt v l W := by
  obtain ⟨a, c, e⟩ := mown_shape h
  refine ⟨a, c, e, ?_⟩
  rcases h.2 with h2 | ⟨g, cap, cur, e1, e2, e3, e4, e5, e6, e7⟩
  · exact Or.inl (List.eq_nil_of_length_eq_zero h2.2)
  · right
    rw [e] at e1
    cases e1
    have hc := h.cells (g := g) (by rw [e]; rfl)
    refine ⟨g, rfl, (h.lt g (by rw [e]; rfl)).2, fun k x hk => ?_⟩
    have q : ∀ c, c < 2 → ∀ u, (spC x)[c]? = some u → W.cell? ⟨g, k * 2 + c, none⟩ = some u := by
      intro c hc4 u hu
      have := hc (k * 2 + c) u (by rw [spL_get l hk c hc4, hu])
      rw [Addr.add_lit] at this
      simpa using this
    exact ⟨q 0 (by omega) _ rfl, q 1 (by omega) _ rfl⟩
theorem SpAt.below {v : Value} {l : List (Nat × Bool)} {W W' : World} (h : SpAt v l W) (hb : Below W.heap.size W W') : SpAt v l W' := by
  obtain ⟨a, c, e, h⟩ := h
  refine ⟨a, c, e, ?_⟩
  rcases h with h | ⟨g, e1, h1, h2⟩
  · exact Or.inl h
  · exact Or.inr ⟨g, e1, Nat.lt_of_lt_of_le h1 hb.size, fun k x hk => ⟨(hb.cell h1).trans (h2 k x hk).1, (hb.cell h1).trans (h2 k x hk).2⟩⟩
/-- What the model's start tells. -/
inductive SsEnd (m : Mn.Mains) (B : Nat) (e : Ending) (W : World) : Prop
  | no (c a : Int) : Mn.Start m c a → c ≠ 0 → e = .returned (moV none 0 0 none 0 0 0 0 a c) → SsEnd m B e W
  | ok (gf : Nat) : Mn.Start m 0 0 → e = .returned (moV (some ⟨gf, 0, none⟩) m.pn m.pn none 0 0 0 0 0 0) → IsBlk 2 gf m.pn (Mn.flows m) W → B ≤ gf → SsEnd m B e W
structure MsS (m : Mn.Mains) (pa : Option Addr) (pk : Nat) (la : Option Addr) (lk : Nat) (wa : Option Addr) (wk : Nat) (w W : World) : Prop where
  row : W.rowIs w.heap.size 27 5 (rowN (mnL m pa pk la lk wa wk))
  res : W.rowIs (w.heap.size + 1) 31 6 (rowN (moL none 0 0 none 0 0 0 0 0 0))
  at_ : MnAt m pa la wa W
  old : Below w.heap.size w W
theorem MsS.below {m : Mn.Mains} {pa : Option Addr} {pk : Nat} {la : Option Addr} {lk : Nat} {wa : Option Addr} {wk : Nat} {w W W' : World} (h : MsS m pa pk la lk wa wk w W) (hb : Below W.heap.size W W') : MsS m pa pk la lk wa wk w W' := ⟨nrow_below h.row hb, nrow_below h.res hb, h.at_.below hb, h.old.trans (hb.mono h.old.size)⟩
def set6 (W : World) (g : Nat) (a b c d e f : Value) : World := (((((W.setCell ⟨g, 0, none⟩ a).setCell ⟨g, 1, none⟩ b).setCell ⟨g, 2, none⟩ c).setCell ⟨g, 3, none⟩ d).setCell ⟨g, 4, none⟩ e).setCell ⟨g, 5, none⟩ f
theorem set6_done {W w : World} {g : Nat} {l : List Value} (h : W.rowIs g 31 6 (rowN l)) (hl : l.length = 6) (ho : Below w.heap.size w W) (hg : w.heap.size ≤ g) (a b c d e f : Value) : (set6 W g a b c d e f).rowIs g 31 6 (rowN [a, b, c, d, e, f]) ∧ Below w.heap.size w (set6 W g a b c d e f) ∧ ∀ k, k ≠ g → (set6 W g a b c d e f).heap[k]? = W.heap[k]? := by
  match l, hl with
  | [l0, l1, l2, l3, l4, l5], _ =>
    refine ⟨rowN_put (rowN_put (rowN_put (rowN_put (rowN_put (rowN_put h 0 a (by simp)) 1 b (by simp)) 2 c (by simp)) 3 d (by simp)) 4 e (by simp)) 5 f (by simp), (((((ho.setCell (p := ⟨g, 0, none⟩) hg _).setCell (p := ⟨g, 1, none⟩) hg _).setCell (p := ⟨g, 2, none⟩) hg _).setCell (p := ⟨g, 3, none⟩) hg _).setCell (p := ⟨g, 4, none⟩) hg _).setCell (p := ⟨g, 5, none⟩) hg _, fun k hk => ?_⟩
    unfold set6
    rw [Below.heap_setCell _ _ _ _ hk, Below.heap_setCell _ _ _ _ hk, Below.heap_setCell _ _ _ _ hk, Below.heap_setCell _ _ _ _ hk, Below.heap_setCell _ _ _ _ hk, Below.heap_setCell _ _ _ _ hk]
structure BkS (m : Mn.Mains) (l : List (Nat × Bool)) (gf gd r : Nat) (w W : World) : Prop where
  f : IsBlk 2 gf m.pn (Mn.back m (l.drop r)).2 W
  d : IsBlk 2 gd (Mn.nn m) (Mn.back m (l.drop r)).1 W
  b : Below w.heap.size w W
theorem BkS.below {m : Mn.Mains} {l : List (Nat × Bool)} {gf gd r : Nat} {w W W' : World} (h : BkS m l gf gd r w W) (hb : Below W.heap.size W W') : BkS m l gf gd r w W' := ⟨h.f.below hb, h.d.below hb, h.b.trans (hb.mono h.b.size)⟩
set_option maxRecDepth 100000 in
set_option maxHeartbeats 16000000 in
theorem specStart_any (m : Mn.Mains) (pa : Option Addr) (pk : Nat) (la : Option Addr) (lk : Nat) (wa : Option Addr) (wk : Nat) (w : World) (h : MnAt m pa la wa w) (hs : MnSmall m) :
    Calls Tryz.prog 32 #[mnV m pa pk la lk wa wk] w fun e w' => SsEnd m w.heap.size e w' ∧ Below w.heap.size w w' := by
  obtain ⟨i0, hi, hz0, hz1, hz2⟩ := info_parts minfo_i64
  obtain ⟨W0, hW0⟩ : ∃ W0, W0 = (w.alloc (.cells #[.int .i64 m.nodes, .int .i64 m.head, .slice pa m.pn pk, .slice la m.ln lk, .slice wa m.wn wk] 27)).alloc (.cells #[.slice none 0 0, .slice none 0 0, .int .i64 0, .int .i64 0, .int .i64 0, .int .i64 0] 31) := ⟨_, rfl⟩
  have S0 : Hid (MsS m pa pk la lk wa wk w W0) := by
    show MsS _ _ _ _ _ _ _ _ _
    rw [hW0]
    exact ⟨nrow_below (rowN_alloc w _ _) (nbel_alloc _ _), rowN_alloc' (by simp) _ _, (h.below (nbel_alloc _ _)).below (nbel_alloc _ _), mbel2 _ _ _⟩
  have HW0 := Lib.hid hW0
  have HS := Lib.hid hs
  clear h hW0 hs
  go_enter Tryz.func32, Tryz.ntmps32
  go_wp2_with fail
  rw [← HW0.out]
  refine (specMains_any m pa pk la lk wa wk _ S0.out.at_ HS.out).mono ?_
  rintro e w1 ⟨⟨b1, rfl, hb1⟩, hb⟩
  have S1 := Lib.hid (S0.out.below hb)
  have K1 := Lib.hid hb1
  clear hb hb1 S0
  cases b1 with
  | false =>
    have D := Lib.hid (set6_done S1.out.res rfl S1.out.old (by omega) (.slice none 0 0) (.slice none 0 0) (.int .i64 0) (.int .i64 0) (.int .i64 0) (.int .i64 1))
    obtain ⟨⟨x0, x1, x2, x3, x4, x5⟩, z0, z1, z2, z3, z4, z5⟩ := rowN6 S1.out.res
    have lx := S1.out.res.lt
    have HNR : Hid (¬ Mn.Right m) := fun k => by have := K1.out.2 k; cases this
    clear K1
    go_wp2_with fail
    obtain ⟨⟨q0, q1, q2, q3, q4, q5⟩, _⟩ := rowN6 D.out.1
    unfold set6 at q0 q1 q2 q3 q4 q5
    refine bodyPost_ret (v := moV none 0 0 none 0 0 0 0 0 1) ?_ rfl ⟨SsEnd.no 1 0 (.form HNR.out) (by omega) rfl, D.out.2.1⟩
    simp only [results, Tryz.results32]
    simp [go_sem, q0, q1, q2, q3, q4, q5]
  | true =>
  have HR := Lib.hid (K1.out.1 (by trivial))
  clear K1
  obtain ⟨⟨r0, r1, r2, r3, r4⟩, _⟩ := rowN5 S1.out.row
  go_wp2_with fail
  refine (stree_any m pa pk la lk wa wk _ S1.out.at_ HR.out).mono ?_
  rintro e w2 ⟨⟨tv, r, rfl, hot, hout⟩, hb⟩
  have S2 := Lib.hid (S1.out.below hb)
  have T2 := Lib.hid (sp_of hot)
  have HO := Lib.hid hout
  have hrb : -1 ≤ r ∧ r < 12 := by
    have := HR.out.nn
    rcases hout with ⟨i, h1, h2, _⟩ | ⟨h1, _⟩ <;> omega
  obtain ⟨hrb1, hrb2⟩ := hrb
  clear hout hot hb S1 r0 r1 r2 r3 r4
  by_cases hr0 : 0 ≤ r
  · have D := Lib.hid (set6_done S2.out.res rfl S2.out.old (by omega) (.slice none 0 0) (.slice none 0 0) (.int .i64 0) (.int .i64 0) (.int .i64 r) (.int .i64 4))
    obtain ⟨⟨x0, x1, x2, x3, x4, x5⟩, z0, z1, z2, z3, z4, z5⟩ := rowN6 S2.out.res
    have lx := S2.out.res.lt
    obtain ⟨ta, tc, etv, _⟩ := T2.out
    subst etv
    go_wp2_with fail
    obtain ⟨⟨q0, q1, q2, q3, q4, q5⟩, _⟩ := rowN6 D.out.1
    unfold set6 at q0 q1 q2 q3 q4 q5
    refine bodyPost_ret (v := moV none 0 0 none 0 0 0 0 r 4) ?_ rfl ⟨SsEnd.no 4 r (.none r HR.out HO.out hr0) (by omega) rfl, D.out.2.1⟩
    simp only [results, Tryz.results32]
    simp [go_sem, q0, q1, q2, q3, q4, q5]
  have HO2 : Hid (Mn.OutAt (Mn.fin m).1 (Mn.nn m) (-1)) := by
    have e : r = -1 := by omega
    rw [← e]; exact HO.out
  clear HO
  obtain ⟨ta, tc, etv, hta⟩ := T2.out
  subst etv
  clear hta
  obtain ⟨l, hl⟩ : ∃ l, l = (Mn.fin m).2 := ⟨_, rfl⟩
  have hfin := Mn.fin_ok HR.out
  rw [← hl] at T2 hfin ⊢
  have HF := Lib.hid hfin
  have HFL : Hid (Mn.flows m = (Mn.back m (l.drop 0)).2) := by show _ = _; rw [hl]; rfl
  have hpn := HR.out.pn
  obtain ⟨hnn, hn1, hn2, hwn⟩ := HR.out.nn
  have hll : l.length ≤ 11 := by omega
  have hmk := mmk_i64 m.pn (by omega)
  have HWN := Lib.hid hwn
  obtain ⟨bw, ew, _⟩ := S2.out.at_.w.at1 (i := 0) (by omega)
  subst ew
  obtain ⟨⟨r0, r1, r2, r3, r4⟩, _⟩ := rowN5 S2.out.row
  have HWC : Hid (∀ j, j < m.wn → w2.cell? ⟨bw, j, none⟩ = some (.int .i64 (m.W j))) := isAt_cells S2.out.at_.w rfl
  have hwn2 : m.wn ≤ 12 := by omega
  have lz : w.heap.size + 1 < w2.heap.size := S2.out.res.lt
  have lz0 : w.heap.size < w2.heap.size := S2.out.row.lt
  have HM : Hid (((w2.alloc (.cells (madeCells #[.int .i64 0] m.pn) 2)).alloc (.cells #[] 2)).ownsRow (w2.heap.size + 1) 2 1 (.slice (some ⟨w2.heap.size + 1, 0, none⟩) 0 0) 0 []) := by
    have := World.ownsRow_made (e := 2) (size := 1) (base := w2.heap.size + 1) (w2.alloc (.cells (madeCells #[.int .i64 0] m.pn) 2)) #[] 0 (by simp) (Nat.zero_le _) rfl
    rw [World.size_alloc] at this
    exact this
  clear hl hfin hnn hwn
  go_wp2_with (at_builtin; refine wpList_append_own _ rfl _ _ 25 rfl (w2.heap.size + 1) 2 i0 (.int .i64 0) 1 8 Tryz.underlying25 hi hz0 hz1 hz2 rfl (by decide) _ _ _ rfl HM.out ⟨bw, 0, none⟩ m.wn wk (isV m.W m.wn) rfl ?qc1 ?qc2 ?qc3 ?qc4 ?qc5 ?qc6 ?_)
  case qc1 => simp [isV_len]
  case qc2 =>
    intro j u hj
    have hjn : j < m.wn := by
      have := (List.getElem?_eq_some_iff.1 hj).1
      simpa [isV_len] using this
    rw [Addr.add_lit]
    refine Lib.cell?_alloc_some _ (Lib.cell?_alloc_some _ ?_)
    rw [Nat.zero_add, HWC.out j hjn, ← hj, isV_get m.W m.wn hjn]
  case qc3 =>
    intro u hu
    unfold isV at hu
    obtain ⟨x, _, rfl⟩ := List.mem_map.1 hu
    rfl
  case qc4 => unfold maxLen; omega
  case qc5 => omega
  case qc6 => simp
  intro v' w3 hown hgrow hnil
  have HB : Hid (Below (w2.heap.size + 1) (w2.alloc (.cells (madeCells #[.int .i64 0] m.pn) 2)) w3) := ((Below.refl _ _).alloc (by simp) _).grown hgrow (by simp) (by intro k hk; simp [Value.ownBlock] at hk; omega)
  have hown' : w3.ownsRow (w2.heap.size + 1) 2 1 v' m.wn (isV m.W m.wn) := by simpa using hown
  obtain ⟨a2, c2, rfl, ho2⟩ := owl_of hown'
  obtain ⟨gd, rfl, hgd, hk2⟩ := ho2.pos (by have := HWN.out; omega)
  have F1 : Hid (BkS m l w2.heap.size gd l.length w2 w3) := by
    refine ⟨?_, ?_, (nbel_alloc w2 _).trans (HB.out.mono (Nat.le_succ w2.heap.size))⟩
    · refine ((mis_new w2 m.pn).block (HB.out.block _ (by omega))).congr (fun j _ => ?_)
      rw [List.drop_length]; rfl
    · rw [List.drop_length, ← HWN.out]; exact hk2
  clear hown hown' hgrow hnil HB HM ho2 hk2 r0 r1 r2 r3 r4 HWC hmk
  rw [HWN.out]
  clear HWN
  go_wp2_with fail
  go_loopw [7] (fun kv wr => ∃ (r : Nat), r ≤ l.length ∧ kv = .int .i64 ((r : Int) - 1) ∧ Hid (BkS m l w2.heap.size gd r w2 wr)) (fun kv _ => (intOf kv + 1).toNat)
  case atStart => exact ⟨l.length, Nat.le_refl _, rfl, F1⟩
  case round =>
    obtain ⟨r, hrl, rfl, hS⟩ := hrel
    clear F1
    by_cases hr0 : r = 0
    · subst hr0
      obtain ⟨⟨r0, r1, r2, r3, r4⟩, _⟩ := rowN5 (nrow_below S2.out.row hS.out.b)
      go_wp2_with fail
      refine (swrong_any m pa pk la lk (some ⟨bw, 0, none⟩) wk (some ⟨w2.heap.size, 0, none⟩) m.pn (Mn.flows m) _ (S2.out.at_.below hS.out.b) (by rw [HFL.out]; exact hS.out.f.at_) HR.out).mono ?_
      rintro e w7 ⟨⟨z, rfl, hwr⟩, hb⟩
      have HWR := Lib.hid hwr
      obtain ⟨hzb1, hzb2⟩ := hwr.pos HR.out.pn
      have F7 : Hid (IsBlk 2 w2.heap.size m.pn (Mn.flows m) w7) := by show IsBlk _ _ _ _ _; rw [HFL.out]; exact hS.out.f.below hb
      have S7 := Lib.hid (S2.out.below (hS.out.b.trans (hb.mono hS.out.b.size)))
      obtain ⟨⟨x0, x1, x2, x3, x4, x5⟩, z0, z1, z2, z3, z4, z5⟩ := rowN6 S7.out.res
      have lx := S7.out.res.lt
      clear hwr hb hS r0 r1 r2 r3 r4
      by_cases hz0 : 0 ≤ z
      · have D := Lib.hid (set6_done S7.out.res rfl S7.out.old (by omega) (.slice none 0 0) (.slice none 0 0) (.int .i64 0) (.int .i64 0) (.int .i64 z) (.int .i64 5))
        go_wp2_with fail
        obtain ⟨⟨q0, q1, q2, q3, q4, q5⟩, _⟩ := rowN6 D.out.1
        unfold set6 at q0 q1 q2 q3 q4 q5
        refine bodyPost_ret (v := moV none 0 0 none 0 0 0 0 z 5) ?_ rfl ⟨SsEnd.no 5 z (.over z HR.out HO2.out HWR.out hz0) (by omega) rfl, D.out.2.1⟩
        simp only [results, Tryz.results32]
        simp [go_sem, q0, q1, q2, q3, q4, q5]
      · have HW2 : Hid (Mn.WrongAt m (Mn.flows m) (-1)) := by
          have e : z = -1 := by omega
          rw [← e]; exact HWR.out
        have D := Lib.hid (set6_done S7.out.res rfl S7.out.old (by omega) (.slice (some ⟨w2.heap.size, 0, none⟩) m.pn m.pn) (.slice none 0 0) (.int .i64 0) (.int .i64 0) (.int .i64 0) (.int .i64 0))
        go_wp2_with fail
        obtain ⟨⟨q0, q1, q2, q3, q4, q5⟩, _⟩ := rowN6 D.out.1
        unfold set6 at q0 q1 q2 q3 q4 q5
        refine bodyPost_ret (v := moV (some ⟨w2.heap.size, 0, none⟩) m.pn m.pn none 0 0 0 0 0 0) ?_ rfl ⟨SsEnd.ok w2.heap.size (.ok HR.out HO2.out HW2.out) rfl (F7.out.block (D.out.2.2 _ (by omega))) (by omega), D.out.2.1⟩
        simp only [results, Tryz.results32]
        simp [go_sem, q0, q1, q2, q3, q4, q5]
    · obtain ⟨q, rfl⟩ : ∃ q, r = q + 1 := ⟨r - 1, by omega⟩
      have e1 : ((q + 1 : Nat) : Int) - 1 = (q : Int) := by omega
      rw [e1]
      have hql : q < l.length := by omega
      have hqz : (q : Int) < (l.length : Int) := by omega
      obtain ⟨x, hx⟩ : ∃ x, l[q]? = some x := ⟨_, List.getElem?_eq_getElem hql⟩
      have hxp := HF.out.2 x (List.mem_of_getElem? hx)
      have hff := HR.out.fN hxp
      have htt := HR.out.tN hxp
      have hne := HR.out.ftne hxp
      have hdrop : l.drop q = x :: l.drop (q + 1) := by
        rw [List.drop_eq_getElem_cons hql]
        have := List.getElem?_eq_getElem hql
        rw [this] at hx
        cases hx; rfl
      have hsm := Mn.back_small HR.out (l := l) HF.out.2 HF.out.1 (q + 1)
      have HDR := Lib.hid hdrop
      obtain ⟨_, _, e3, q3⟩ := T2.out
      rcases q3 with q3 | ⟨tg, q4, q5, q6⟩
      · rw [q3] at hql; exact absurd hql (by simp)
      cases e3
      subst q4
      obtain ⟨t0, t1⟩ := q6 q x hx
      have old := hS.out.b
      replace t0 := (old.cell q5).trans t0
      replace t1 := (old.cell q5).trans t1
      have ltg : tg < wr.heap.size := Nat.lt_of_lt_of_le q5 old.size
      obtain ⟨pb, epb, c0, c1, c2, c3, c4⟩ := (S2.out.at_.p.below old).at5 hxp
      subst epb
      obtain ⟨⟨r0, r1, r2, r3, r4⟩, _⟩ := rowN5 (nrow_below S2.out.row old)
      clear q5 q6 hdrop hx old
      obtain ⟨i, fw⟩ := x
      simp only at hxp hff htt hne t0 t1 c0 c1 c2 c3 c4
      rw [hff.1] at c1
      rw [htt.1] at c2
      obtain ⟨L, hL⟩ : ∃ L, L = (Mn.back m (l.drop (q + 1))).1 := ⟨_, rfl⟩
      obtain ⟨F, hF⟩ : ∃ F, F = (Mn.back m (l.drop (q + 1))).2 := ⟨_, rfl⟩
      have HLF : Hid (L = (Mn.back m (l.drop (q + 1))).1 ∧ F = (Mn.back m (l.drop (q + 1))).2) := ⟨hL, hF⟩
      have df := hS.out.d.cell hff.2
      have dt := hS.out.d.cell htt.2
      have ff := hS.out.f.cell hxp
      have zf := hS.out.f.frozen i
      have zd1 := hS.out.d.frozen (Mn.fN m i)
      have zd2 := hS.out.d.frozen (Mn.tN m i)
      rw [← hL] at df dt hsm
      rw [← hF] at ff
      obtain ⟨sf0, sf1⟩ := hsm _ hff.2
      obtain ⟨st0, st1⟩ := hsm _ htt.2
      have lgd := hS.out.d.lt
      have lgf := hS.out.f.lt
      have lpb : pb < wr.heap.size := World.block_lt_of_cell? _ _ c0
      have hxz : (i : Int) < (m.pn : Int) := by omega
      have hfz : (Mn.fN m i : Int) < (Mn.nn m : Int) := by omega
      have htz : (Mn.tN m i : Int) < (Mn.nn m : Int) := by omega
      have lzz : w.heap.size < wr.heap.size := by omega
      clear hsm hff htt hL hF e1
      cases fw with
      | true =>
        have HE : Hid (updI F i (L (Mn.tN m i)) = (Mn.back m (l.drop q)).2 ∧ updI L (Mn.fN m i) (L (Mn.fN m i) + L (Mn.tN m i)) = (Mn.back m (l.drop q)).1) := by
          rw [HDR.out]
          show _ = (Mn.backStep m (i, true) (Mn.back m (l.drop (q + 1)))).2 ∧ _ = (Mn.backStep m (i, true) (Mn.back m (l.drop (q + 1)))).1
          rw [HLF.out.1, HLF.out.2]
          exact ⟨rfl, rfl⟩
        have HS2 : Hid (BkS m l w2.heap.size gd q w2 ((wr.setCell ⟨w2.heap.size, i, none⟩ (.int .i64 (L (Mn.tN m i)))).setCell ⟨gd, Mn.fN m i, none⟩ (.int .i64 (L (Mn.fN m i) + L (Mn.tN m i))))) := by
          have s := hS.out
          refine ⟨?_, ?_, (s.b.setCell (p := ⟨w2.heap.size, i, none⟩) (Nat.le_refl _) (.int .i64 (L (Mn.tN m i)))).setCell (p := ⟨gd, Mn.fN m i, none⟩) (by show w2.heap.size ≤ gd; omega) (.int .i64 (L (Mn.fN m i) + L (Mn.tN m i)))⟩
          · rw [← HE.out.1, HLF.out.2]
            exact (s.f.set i _).block (Below.heap_setCell _ _ _ _ (by show w2.heap.size ≠ gd; omega))
          · rw [← HE.out.2, HLF.out.1]
            exact (s.d.block (Below.heap_setCell _ _ _ _ (by show gd ≠ w2.heap.size; omega))).set _ _
        clear hS HDR HLF HE
        go_wp2_with fail
        go_region
        go_wp2_with fail
        go_region
        go_wp2_with fail
        go_region
        go_wp2_with fail
        go_roundw
        case rel => exact ⟨q, by omega, by go_num, HS2.out.below ((nbel_alloc _ _).drew.drew.drew)⟩
        case measure => simp [intOf]
      | false =>
        have HE : Hid (updI F i (-(L (Mn.fN m i))) = (Mn.back m (l.drop q)).2 ∧ updI L (Mn.tN m i) (L (Mn.tN m i) + L (Mn.fN m i)) = (Mn.back m (l.drop q)).1) := by
          rw [HDR.out]
          show _ = (Mn.backStep m (i, false) (Mn.back m (l.drop (q + 1)))).2 ∧ _ = (Mn.backStep m (i, false) (Mn.back m (l.drop (q + 1)))).1
          rw [HLF.out.1, HLF.out.2]
          exact ⟨rfl, rfl⟩
        have HS2 : Hid (BkS m l w2.heap.size gd q w2 ((wr.setCell ⟨w2.heap.size, i, none⟩ (.int .i64 (-(L (Mn.fN m i))))).setCell ⟨gd, Mn.tN m i, none⟩ (.int .i64 (L (Mn.tN m i) + L (Mn.fN m i))))) := by
          have s := hS.out
          refine ⟨?_, ?_, (s.b.setCell (p := ⟨w2.heap.size, i, none⟩) (Nat.le_refl _) (.int .i64 (-(L (Mn.fN m i))))).setCell (p := ⟨gd, Mn.tN m i, none⟩) (by show w2.heap.size ≤ gd; omega) (.int .i64 (L (Mn.tN m i) + L (Mn.fN m i)))⟩
          · rw [← HE.out.1, HLF.out.2]
            exact (s.f.set i _).block (Below.heap_setCell _ _ _ _ (by show w2.heap.size ≠ gd; omega))
          · rw [← HE.out.2, HLF.out.1]
            exact (s.d.block (Below.heap_setCell _ _ _ _ (by show gd ≠ w2.heap.size; omega))).set _ _
        clear hS HDR HLF HE
        go_wp2_with fail
        go_region
        go_wp2_with fail
        go_region
        go_wp2_with fail
        go_region
        go_wp2_with fail
        go_roundw
        case rel => exact ⟨q, by omega, by go_num, HS2.out.below ((nbel_alloc _ _).drew.drew.drew)⟩
        case measure => simp [intOf]
end Go.Proofs.YtfgmalnkpgloiaaGreatDoor
