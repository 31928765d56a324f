/-
  Flows along the tree of mains, which of them may be: the program's walk.
-/
import Derived.Test.YtfgmalnkpgloiaaGreatDoorMnT1
import Derived.Test.YtfgmalnkpgloiaaGreatDoorMnOw
namespace Go.Proofs.YtfgmalnkpgloiaaGreatDoor
open Go.RowKit Go.Deep

/-- A tree as it lies in memory. -/
def TrAt (m : Mn.Mains) (v : Value) (l : List (Nat × Bool)) (W : World) : Prop := ∃ a c, v = .slice a l.length c ∧ (l = [] ∨ ∃ g, a = some ⟨g, 0, none⟩ ∧ g < W.heap.size ∧ ∀ k e, l[k]? = some e → W.cell? ⟨g, k * 4, none⟩ = some (.int .i64 (e.1 : Int)) ∧ W.cell? ⟨g, k * 4 + 1, none⟩ = some (.int .i64 (if e.2 then 1 else -1)) ∧ W.cell? ⟨g, k * 4 + 2, none⟩ = some (.int .i64 (if e.2 then (Mn.fN m e.1 : Int) else (Mn.tN m e.1 : Int))) ∧ W.cell? ⟨g, k * 4 + 3, none⟩ = some (.int .i64 (if e.2 then (Mn.tN m e.1 : Int) else (Mn.fN m e.1 : Int))))
theorem tr_of {m : Mn.Mains} {B : Nat} {T : TypeId} {v : Value} {l : List (Nat × Bool)} {W : World} (h : W.ownsRow B T 4 v l.length (brL m l)) : TrAt m v l W := by
  obtain ⟨a, c, e⟩ := mown_shape h
  refine ⟨a, c, e, ?_⟩
  rcases h.2 with h2 | ⟨g, cap, cur, e1, e2, e3, e4, e5, e6, e7⟩
  · exact Or.inl (List.eq_nil_of_length_eq_zero h2.2)
  · right
    rw [e] at e1
    cases e1
    have hb : (Value.slice (some ⟨g, 0, none⟩) l.length c).ownBlock = some g := rfl
    have hc := h.cells (g := g) (by rw [e]; rfl)
    refine ⟨g, rfl, (h.lt g (by rw [e]; rfl)).2, fun k x hk => ?_⟩
    have q : ∀ c, c < 4 → ∀ u, (brC m x)[c]? = some u → W.cell? ⟨g, k * 4 + c, none⟩ = some u := by
      intro c hc4 u hu
      have := hc (k * 4 + c) u (by rw [brL_get m l hk c hc4, hu])
      rw [Addr.add_lit] at this
      simpa using this
    exact ⟨q 0 (by omega) _ rfl, q 1 (by omega) _ rfl, q 2 (by omega) _ rfl, q 3 (by omega) _ rfl⟩
theorem TrAt.below {m : Mn.Mains} {v : Value} {l : List (Nat × Bool)} {W W' : World} (h : TrAt m v l W) (hb : Below W.heap.size W W') : TrAt m v l W' := by
  obtain ⟨a, c, e, h⟩ := h
  refine ⟨a, c, e, ?_⟩
  rcases h with h | ⟨g, e1, h1, h2⟩
  · exact Or.inl h
  · exact Or.inr ⟨g, e1, Nat.lt_of_lt_of_le h1 hb.size, fun k x hk => ⟨(hb.cell h1).trans (h2 k x hk).1, (hb.cell h1).trans (h2 k x hk).2.1, (hb.cell h1).trans (h2 k x hk).2.2.1, (hb.cell h1).trans (h2 k x hk).2.2.2⟩⟩
structure TfS (m : Mn.Mains) (pa : Option Addr) (pk : Nat) (la : Option Addr) (lk : Nat) (wa : Option Addr) (wk : Nat) (v : Value) (l : List (Nat × Bool)) (g2 r : Nat) (w W : World) : Prop where
  t : TrAt m v l w
  f : IsBlk 2 (w.heap.size + 1) m.pn (Mn.back m (l.drop r)).2 W
  d : IsBlk 2 g2 (Mn.nn m) (Mn.back m (l.drop r)).1 W
  old : Below w.heap.size w W
  lo : w.heap.size + 1 < g2
theorem TfS.below {m : Mn.Mains} {pa : Option Addr} {pk : Nat} {la : Option Addr} {lk : Nat} {wa : Option Addr} {wk : Nat} {v : Value} {l : List (Nat × Bool)} {g2 r : Nat} {w W W' : World} (h : TfS m pa pk la lk wa wk v l g2 r w W) (hb : Below W.heap.size W W') : TfS m pa pk la lk wa wk v l g2 r w W' := ⟨h.t, h.f.below hb, h.d.below hb, h.old.trans (hb.mono h.old.size), h.lo⟩
set_option maxRecDepth 100000 in
set_option maxHeartbeats 8000000 in
theorem treeFlows_any (m : Mn.Mains) (pa : Option Addr) (pk : Nat) (la : Option Addr) (lk : Nat) (wa : Option Addr) (wk : Nat) (tv : Value) (w : World) (h : MnAt m pa la wa w) (ht : TrAt m tv (Mn.fin m).2 w) (hr : Mn.Right m) :
    Calls Tryz.prog 74 #[mnV m pa pk la lk wa wk, tv] w fun e w' => (e = .returned (.slice (some ⟨w.heap.size + 1, 0, none⟩) m.pn m.pn) ∧ IsBlk 2 (w.heap.size + 1) m.pn (Mn.flows m) w') ∧ Below w.heap.size w w' := by
  obtain ⟨ta, tc, rfl, ht'⟩ := ht
  have ht : TrAt m (.slice ta (Mn.fin m).2.length tc) (Mn.fin m).2 w := ⟨ta, tc, rfl, ht'⟩
  obtain ⟨l, hl⟩ : ∃ l, l = (Mn.fin m).2 := ⟨_, rfl⟩
  rw [← hl] at ht ht' ⊢
  have hfin := Mn.fin_ok hr
  rw [← hl] at hfin
  have hpn := hr.pn
  obtain ⟨hnn, hn1, hn2, hwn⟩ := hr.nn
  have hmk := mmk_i64 m.pn (by omega)
  have HR := Lib.hid hr
  have HT := Lib.hid ht
  have HF := Lib.hid hfin
  have HFL : Hid (Mn.flows m = (Mn.back m (l.drop 0)).2) := by show _ = _; rw [hl]; rfl
  have hll : l.length ≤ 11 := by omega
  obtain ⟨W0, hW0⟩ : ∃ W0, W0 = (w.alloc (.cells #[.int .i64 m.nodes, .int .i64 m.head, .slice pa m.pn pk, .slice la m.ln lk, .slice wa m.wn wk] 27)).alloc (.cells (madeCells #[.int .i64 0] m.pn) 2) := ⟨_, rfl⟩
  have S0 : Hid (MnS 27 m pa pk la lk wa wk w W0) := by show MnS _ _ _ _ _ _ _ _ _ _; rw [hW0]; exact (MnS.new 27 (pk := pk) (lk := lk) (wk := wk) h).alloc _
  have F0 : Hid (IsBlk 2 (w.heap.size + 1) m.pn (fun _ => 0) W0) := by show IsBlk _ _ _ _ _; rw [hW0]; have := mis_new (w.alloc (.cells #[.int .i64 m.nodes, .int .i64 m.head, .slice pa m.pn pk, .slice la m.ln lk, .slice wa m.wn wk] 27)) m.pn; rwa [World.size_alloc] at this
  have HW0 := Lib.hid hW0
  obtain ⟨bw, ew, _⟩ := h.w.at1 (i := 0) (by omega)
  subst ew
  have HWN := Lib.hid hwn
  clear h hr hnn hwn hW0 hl hfin ht ht'
  go_enter Tryz.func74, Tryz.ntmps74
  go_wp2_with fail
  rw [← HW0.out]
  clear hmk
  refine (mclone_any bw m.wn wk m.W _ (isAt_cells S0.out.at_.w rfl) (by have := HWN.out; omega)).mono ?_
  rintro e w1 ⟨⟨a2, c2, rfl, ho⟩, hb⟩
  obtain ⟨g2, rfl, hg2, hk2⟩ := ho.pos (by have := HWN.out; omega)
  have F1 : Hid (TfS m pa pk la lk (some ⟨bw, 0, none⟩) wk (.slice ta l.length tc) l g2 l.length w w1) := by
    have f0 := F0.out.lt
    refine ⟨HT.out, (F0.out.below hb).congr (fun j _ => ?_), ?_, S0.out.old.trans (hb.mono S0.out.old.size), by omega⟩
    · rw [List.drop_length]; rfl
    · rw [List.drop_length, ← HWN.out]; exact hk2
  clear ho hb hk2 F0
  rw [HWN.out]
  clear HWN
  go_wp2_with fail
  go_loopw [7] (fun kv wr => ∃ (r : Nat), r ≤ l.length ∧ kv = .int .i64 ((r : Int) - 1) ∧ Hid (TfS m pa pk la lk (some ⟨bw, 0, none⟩) wk (.slice ta l.length tc) l g2 r w wr)) (fun kv _ => (intOf kv + 1).toNat)
  case atStart => exact ⟨l.length, Nat.le_refl _, rfl, F1⟩
  case round =>
    obtain ⟨r, hrl, rfl, hS⟩ := hrel
    clear F1 S0
    by_cases hr0 : r = 0
    · subst hr0
      go_wp2_with fail
      go_ret
      exact ⟨⟨rfl, by rw [HFL.out]; exact hS.out.f⟩, hS.out.old⟩
    · obtain ⟨q, rfl⟩ : ∃ q, r = q + 1 := ⟨r - 1, by omega⟩
      have e1 : ((q + 1 : Nat) : Int) - 1 = (q : Int) := by omega
      rw [e1]
      have hql : q < l.length := by omega
      have hqz : (q : Int) < (l.length : Int) := by omega
      obtain ⟨x, hx⟩ : ∃ x, l[q]? = some x := ⟨_, List.getElem?_eq_getElem hql⟩
      have hxp := HF.out.2 x (List.mem_of_getElem? hx)
      have hff := HR.out.fN hxp
      have htt := HR.out.tN hxp
      have hne := HR.out.ftne hxp
      have hdrop : l.drop q = x :: l.drop (q + 1) := by
        rw [List.drop_eq_getElem_cons hql]
        have := List.getElem?_eq_getElem hql
        rw [this] at hx
        cases hx; rfl
      have hsm := Mn.back_small HR.out (l := l) HF.out.2 HF.out.1 (q + 1)
      have HDR := Lib.hid hdrop
      obtain ⟨_, _, e3, q3⟩ := HT.out
      rcases q3 with q3 | ⟨tg, q4, q5, q6⟩
      · rw [q3] at hql; exact absurd hql (by simp)
      cases e3
      subst q4
      obtain ⟨c0, c1, c2, c3⟩ := q6 q x hx
      have ltg : tg < w.heap.size := q5
      have old := hS.out.old
      replace c0 := (old.cell ltg).trans c0
      replace c1 := (old.cell ltg).trans c1
      replace c2 := (old.cell ltg).trans c2
      replace c3 := (old.cell ltg).trans c3
      clear q5 q6 hdrop hx old
      obtain ⟨i, fw⟩ := x
      simp only at hxp hff htt hne c0 c1 c2 c3
      obtain ⟨L, hL⟩ : ∃ L, L = (Mn.back m (l.drop (q + 1))).1 := ⟨_, rfl⟩
      obtain ⟨F, hF⟩ : ∃ F, F = (Mn.back m (l.drop (q + 1))).2 := ⟨_, rfl⟩
      have HLF : Hid (L = (Mn.back m (l.drop (q + 1))).1 ∧ F = (Mn.back m (l.drop (q + 1))).2) := ⟨hL, hF⟩
      have df := hS.out.d.cell hff.2
      have dt := hS.out.d.cell htt.2
      have ff := hS.out.f.cell hxp
      have zf := hS.out.f.frozen i
      have zd1 := hS.out.d.frozen (Mn.fN m i)
      have zd2 := hS.out.d.frozen (Mn.tN m i)
      rw [← hL] at df dt hsm
      rw [← hF] at ff
      obtain ⟨sf0, sf1⟩ := hsm _ hff.2
      obtain ⟨st0, st1⟩ := hsm _ htt.2
      have lg2 := hS.out.d.lt
      have lo := hS.out.lo
      have hxz : (i : Int) < (m.pn : Int) := by omega
      have hfz : (Mn.fN m i : Int) < (Mn.nn m : Int) := by omega
      have htz : (Mn.tN m i : Int) < (Mn.nn m : Int) := by omega
      have lz : w.heap.size < wr.heap.size := by omega
      have lz1 : w.heap.size + 1 < wr.heap.size := by omega
      have ltg2 : tg < wr.heap.size := by omega
      clear hsm hff htt hL hF e1
      cases fw with
      | true =>
        simp only [if_true] at c1 c2 c3
        have HE : Hid (updI F i (L (Mn.tN m i)) = (Mn.back m (l.drop q)).2 ∧ updI L (Mn.fN m i) (L (Mn.fN m i) + L (Mn.tN m i)) = (Mn.back m (l.drop q)).1) := by
          rw [HDR.out]
          show _ = (Mn.backStep m (i, true) (Mn.back m (l.drop (q + 1)))).2 ∧ _ = (Mn.backStep m (i, true) (Mn.back m (l.drop (q + 1)))).1
          rw [HLF.out.1, HLF.out.2]
          exact ⟨rfl, rfl⟩
        have hm1 : (1 : Int) * L (Mn.tN m i) = L (Mn.tN m i) := by omega
        have HS2 : Hid (TfS m pa pk la lk (some ⟨bw, 0, none⟩) wk (.slice (some ⟨tg, 0, none⟩) l.length tc) l g2 q w ((wr.setCell ⟨w.heap.size + 1, i, none⟩ (.int .i64 (L (Mn.tN m i)))).setCell ⟨g2, Mn.fN m i, none⟩ (.int .i64 (L (Mn.fN m i) + L (Mn.tN m i))))) := by
          have s := hS.out
          refine ⟨s.t, ?_, ?_, (s.old.setCell (p := ⟨w.heap.size + 1, i, none⟩) (by show w.heap.size ≤ w.heap.size + 1; omega) _).setCell (p := ⟨g2, Mn.fN m i, none⟩) (by show w.heap.size ≤ g2; omega) _, s.lo⟩
          · rw [← HE.out.1, HLF.out.2]
            exact (s.f.set i _).block (Below.heap_setCell _ _ _ _ (by show w.heap.size + 1 ≠ g2; omega))
          · rw [← HE.out.2, HLF.out.1]
            exact (s.d.block (Below.heap_setCell _ _ _ _ (by show g2 ≠ w.heap.size + 1; omega))).set _ _
        clear hS HDR HLF HE
        go_wp2_with fail
        go_region
        go_wp2_with fail
        go_region
        go_wp2_with fail
        go_roundw
        case rel => exact ⟨q, by omega, by go_num, HS2.out.below (((Below.refl _ _).alloc (Nat.le_refl _) _).drew.drew)⟩
        case measure => simp [intOf]
      | false =>
        simp only [if_false, Bool.false_eq_true] at c1 c2 c3
        have HE : Hid (updI F i (-(L (Mn.fN m i))) = (Mn.back m (l.drop q)).2 ∧ updI L (Mn.tN m i) (L (Mn.tN m i) + L (Mn.fN m i)) = (Mn.back m (l.drop q)).1) := by
          rw [HDR.out]
          show _ = (Mn.backStep m (i, false) (Mn.back m (l.drop (q + 1)))).2 ∧ _ = (Mn.backStep m (i, false) (Mn.back m (l.drop (q + 1)))).1
          rw [HLF.out.1, HLF.out.2]
          exact ⟨rfl, rfl⟩
        have hm1 : ((-1) : Int) * L (Mn.fN m i) = -(L (Mn.fN m i)) := by omega
        have HS2 : Hid (TfS m pa pk la lk (some ⟨bw, 0, none⟩) wk (.slice (some ⟨tg, 0, none⟩) l.length tc) l g2 q w ((wr.setCell ⟨w.heap.size + 1, i, none⟩ (.int .i64 (-(L (Mn.fN m i))))).setCell ⟨g2, Mn.tN m i, none⟩ (.int .i64 (L (Mn.tN m i) + L (Mn.fN m i))))) := by
          have s := hS.out
          refine ⟨s.t, ?_, ?_, (s.old.setCell (p := ⟨w.heap.size + 1, i, none⟩) (by show w.heap.size ≤ w.heap.size + 1; omega) _).setCell (p := ⟨g2, Mn.tN m i, none⟩) (by show w.heap.size ≤ g2; omega) _, s.lo⟩
          · rw [← HE.out.1, HLF.out.2]
            exact (s.f.set i _).block (Below.heap_setCell _ _ _ _ (by show w.heap.size + 1 ≠ g2; omega))
          · rw [← HE.out.2, HLF.out.1]
            exact (s.d.block (Below.heap_setCell _ _ _ _ (by show g2 ≠ w.heap.size + 1; omega))).set _ _
        clear hS HDR HLF HE
        go_wp2_with fail
        go_region
        go_wp2_with fail
        go_region
        go_wp2_with fail
        go_roundw
        case rel => exact ⟨q, by omega, by go_num, HS2.out.below (((Below.refl _ _).alloc (Nat.le_refl _) _).drew.drew)⟩
        case measure => simp [intOf]
end Go.Proofs.YtfgmalnkpgloiaaGreatDoor
