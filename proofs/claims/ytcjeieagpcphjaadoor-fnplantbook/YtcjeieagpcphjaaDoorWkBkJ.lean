/-
  Joined: StLw, WkQm, WkFl4, WkD2, WkQf, WkQs, WkQd, WkPk, WkLawQ.
-/
import Derived.Test.YtcjeieagpcphjaaDoorStDr
import Derived.Test.YtcjeieagpcphjaaDoorWkPm
import Derived.Test.YtcjeieagpcphjaaDoorWkFl1
import Derived.Test.YtcjeieagpcphjaaDoorWkDr
import Derived.Test.YtcjeieagpcphjaaDoorWkPs
import Derived.Test.YtcjeieagpcphjaaDoorWkBs
import Derived.Test.YtcjeieagpcphjaaDoorWkPi
import Derived.Test.YtcjeieagpcphjaaDoorWkPj
import Derived.Deep.DeepCutAuto
namespace Go.Proofs.YtcjeieagpcphjaaDoor
open Go.RowKit Go.Deep

def inVsS (f : Nat → Int) (n : Nat) : List Value := (listOf f n).map (Value.int .i64)
set_option maxRecDepth 100000 in
set_option maxHeartbeats 2000000 in
theorem lwCopyS_any (b n cap : Nat) (f : Nat → Int) (w : World) (h : InBlk b n f w) (hn2 : n ≤ 1000) :
    Calls Tryd.prog 19 #[.slice (some ⟨b, 0, none⟩) n cap] w fun e w' => (∃ a c, e = .returned (.slice a n c) ∧ IntsAt a n f w') ∧ Below w.heap.size w w' := by
  obtain ⟨i0, hi, hz0, hz1, hz2⟩ := info_parts dinfo_i64
  have H := Lib.hid h
  clear h
  go_enter Tryd.func19, Tryd.ntmps19
  go_wp2_with (at_builtin; refine wpList_append_own _ rfl _ _ 24 rfl w.heap.size 2 i0 (.int .i64 0) 1 8 Tryd.underlying24 hi hz0 hz1 hz2 rfl (by decide) _ _ _ rfl (World.ownsRow_made w #[] 0 (Nat.le_refl _) (Nat.zero_le _) rfl) ⟨b, 0, none⟩ n cap (inVsS f n) rfl ?qc1 ?qc2 ?qc3 ?qc4 ?qc5 ?qc6 ?_)
  case qc1 => simp [inVsS, listOf_len]
  case qc2 =>
    intro j u hj
    have hjn : j < n := by
      have := (List.getElem?_eq_some_iff.1 hj).1
      simpa [inVsS, listOf_len] using this
    rw [Addr.add_lit]
    refine Lib.cell?_alloc_some _ ?_
    rw [Nat.zero_add, H.out.cell hjn, ← hj]
    simp [inVsS, listOf, hjn]
  case qc3 =>
    intro u hu
    unfold inVsS at hu
    obtain ⟨x, _, rfl⟩ := List.mem_map.1 hu
    rfl
  case qc4 => unfold maxLen; omega
  case qc5 => omega
  case qc6 => simp
  intro v' w1 hown hgrow hnil
  have HB : Hid (Below w.heap.size w w1) := ((Below.refl _ w).alloc (Nat.le_refl _) _).grown hgrow (by simp) (by intro k hk; simp [Value.ownBlock] at hk; omega)
  have hown' : w1.ownsRow w.heap.size 2 1 v' n (inVsS f n) := by simpa using hown
  have h' : w1.ownsRow w.heap.size 2 1 v' (listOf f n).length ((listOf f n).map (Value.int .i64)) := by rw [listOf_len]; exact hown'
  have hres : ∃ a c, v' = .slice a n c ∧ IntsAt a n f w1 := by
    rcases own_ints h' with ⟨e1, e2⟩ | ⟨g, c, e1, hg, hblk⟩
    · have hn : n = 0 := by have := congrArg List.length e2; simpa [listOf_len] using this
      exact ⟨none, 0, by rw [e1, hn], Or.inl hn⟩
    · rw [listOf_len] at e1 hblk
      exact ⟨_, c, e1, (hblk.congr (fun j hj => inList_of f hj)).at_⟩
  obtain ⟨a, c, rfl, hia⟩ := hres
  have HIA := Lib.hid hia
  clear hown hown' h' hgrow hnil hia
  go_wp2_with fail
  go_ret
  exact ⟨⟨a, c, rfl, HIA.out⟩, HB.out⟩
set_option maxRecDepth 100000 in
set_option maxHeartbeats 2000000 in
theorem lwCopyNil_any (w : World) :
    Calls Tryd.prog 19 #[.slice none 0 0] w fun e w' => (∃ a c, e = .returned (.slice a 0 c)) ∧ Below w.heap.size w w' := by
  go_enter Tryd.func19, Tryd.ntmps19
  go_wp2_with fail
  go_ret
  exact ⟨⟨_, _, rfl⟩, (Below.refl _ _).alloc (Nat.le_refl _) _⟩
end Go.Proofs.YtcjeieagpcphjaaDoor
namespace Go.Proofs.YtcjeieagpcphjaaDoor
namespace Wk

theorem mix_good {k : Nat} {bs : Nat → Bt} (h : (mix k bs).c = 0) : AllOk k bs ∧ Ok (mixed k bs) ∧ (mix k bs).x = mixed k bs := by
  unfold mix at h ⊢
  split at h
  · simp [bad] at h
  · rename_i h0
    split at h
    · rename_i h1
      split at h
      · rename_i h2
        rw [if_neg h0, if_pos h1, if_pos h2]; exact ⟨h1, h2, rfl⟩
      · simp [bad] at h
    · simp [bad] at h
section
variable {m : Nat} {mi : Nat → Int} {bs : Nat → Bt} {f : Fl}
theorem pcode_all : ∀ k, pcode m mi bs f k = 0 → ∀ i, i < k → (pse m mi bs i).c = 0 ∧ (pst m mi bs f i).c = 0 := by
  intro k
  induction k with
  | zero => intro _ i hi; omega
  | succ k ih =>
    intro h i hi
    simp only [pcode] at h
    split at h
    · rename_i h0
      by_cases e : i = k
      · subst e
        unfold pfault at h
        split at h
        · rename_i h1; exact ⟨h1, h⟩
        · rename_i h1; exact absurd h h1
      · exact ih h0 i (by omega)
    · rename_i h0; exact absurd h h0
/-- One batch: what goes in comes out. -/
theorem one_book {i : Nat} (h1 : (pse m mi bs i).c = 0) (h2 : (pst m mi bs f i).c = 0) :
    (Ok (bs i) ∧ (bs i).n = m ∧ 0 < m) ∧ (pclean m mi bs f i).n = m ∧
    (pclean m mi bs f i).wt + ((pse m mi bs i).y.wt + (pst m mi bs f i).waste.wt) = (bs i).wt ∧
    (∀ j, (pclean m mi bs f i).f j + ((pse m mi bs i).y.f j + (pst m mi bs f i).waste.f j) = (bs i).f j + (if j = 0 then (pfl m mi bs f i).held - (pfl m mi bs f (i + 1)).held else 0)) ∧
    (0 ≤ (pfl m mi bs f i).held ∧ (pfl m mi bs f i).held ≤ 1000000000) ∧ (0 ≤ (pfl m mi bs f (i + 1)).held ∧ (pfl m mi bs f (i + 1)).held ≤ 1000000000) := by
  obtain ⟨a1, a2⟩ := settle_good (b := bs i) (m := m) (mi := mi) h1
  obtain ⟨b1, b2, b3⟩ := step_good (f := pfl m mi bs f i) (b := (pse m mi bs i).x) h2
  have hx : (pse m mi bs i).x = cut (bs i) 0 (sett (bs i) mi) := by show (settle (bs i) m mi).x = _; rw [a2]
  have hy : (pse m mi bs i).y = ⟨0, (bs i).n, sett (bs i) mi⟩ := by show (settle (bs i) m mi).y = _; rw [a2]
  have hc := caught_bounds b1
  have hf := b1.1
  have hn0 : 0 < (bs i).n := by have := b1.2.2; rw [hx] at this; exact this
  have hm := a1.2.1
  have hst : pst m mi bs f i = filt (pfl m mi bs f i) (pse m mi bs i).x := b3
  have hfl : pfl m mi bs f (i + 1) = (filt (pfl m mi bs f i) (pse m mi bs i).x).f := by show (step _ _).f = _; rw [show settle (bs i) m mi = pse m mi bs i from rfl, b3]
  refine ⟨⟨a1.1, hm.symm, by omega⟩, ?_, ?_, ?_, hf.1, ?_⟩
  · unfold pclean; rw [hst, (filt_n _ _).1, hx]; exact hm.symm
  · unfold pclean
    rw [hst, hy]
    unfold filt
    split
    · rw [hx]; simp only [cut]; omega
    · rw [hx]; simp only [cut]; omega
  · intro j
    unfold pclean
    rw [hfl, hst, hy]
    unfold filt
    split
    · rw [hx]
      by_cases e : j = 0
      · subst e; simp only [upd0, cut, if_true]; omega
      · simp only [upd0, cut, e, if_false]; omega
    · rw [hx]
      by_cases e : j = 0
      · subst e; simp only [upd0, cut, if_true]; omega
      · simp only [upd0, cut, e, if_false]; omega
  · rw [hfl]
    unfold filt
    split
    · exact ⟨Int.le_refl _, by show (0 : Int) ≤ _; omega⟩
    · have := hf.1.1
      refine ⟨?_, ?_⟩
      · show 0 ≤ (pfl m mi bs f i).held + caught _ _; omega
      · show (pfl m mi bs f i).held + caught _ _ ≤ _; omega
theorem run_book {k : Nat} (h : ∀ i, i < k → (pse m mi bs i).c = 0 ∧ (pst m mi bs f i).c = 0) : ∀ i, i ≤ k →
    sumW (pclean m mi bs f) i + sumW (pwaste m mi bs f) (i * 2) = sumW bs i ∧
    ∀ j, sumP (pclean m mi bs f) j i + sumP (pwaste m mi bs f) j (i * 2) = sumP bs j i + (if j = 0 then f.held - (pfl m mi bs f i).held else 0) := by
  intro i
  induction i with
  | zero => intro _; exact ⟨rfl, fun j => by simp [sumP, pfl]⟩
  | succ i ih =>
    intro hi
    obtain ⟨q1, q2⟩ := ih (by omega)
    obtain ⟨_, _, p1, p2, _⟩ := one_book (h i (by omega)).1 (h i (by omega)).2
    have e : (i + 1) * 2 = i * 2 + 1 + 1 := by omega
    refine ⟨?_, fun j => ?_⟩
    · rw [e]
      simp only [sumW]
      rw [pwaste_even, pwaste_odd]
      omega
    · have p := p2 j
      have q := q2 j
      rw [e]
      simp only [sumP]
      rw [pwaste_even, pwaste_odd]
      by_cases ej : j = 0
      · simp only [ej, if_true] at p q ⊢; omega
      · simp only [ej, if_false] at p q ⊢; omega
/-- The books of a plant's run that goes well. -/
structure Book (m : Nat) (bs : Nat → Bt) (f : Fl) (k : Nat) (A : PO) : Prop where
  k0 : 0 < k
  k1 : k ≤ 60
  m0 : 0 < m
  m1 : m ≤ 6
  bt : ∀ i, i < k → Ok (bs i) ∧ (bs i).n = m
  cn : A.clean.n = m
  wn : A.waste.n = m
  co : Ok A.clean
  wo : Ok A.waste
  wat : sumW bs k = A.clean.wt + A.waste.wt
  par : ∀ j, sumP bs j k + (if j = 0 then f.held - A.fl.held else 0) = A.clean.f j + A.waste.f j
  h0 : 0 ≤ f.held ∧ f.held ≤ 1000000000
  h1 : 0 ≤ A.fl.held ∧ A.fl.held ≤ 1000000000
theorem book {k : Nat} (h : (plant m mi bs f k).c = 0) : Book m bs f k (plant m mi bs f k) := by
  have hs : ¬ (400 < m ∨ 60 < k) := fun hh => by rw [plant_big k hh] at h; simp [badP] at h
  have hp : pcode m mi bs f k = 0 := Classical.byContradiction fun hh => by
    unfold plant at h; rw [if_neg hs, if_neg hh] at h; exact hh h
  have hc : (mix k (pclean m mi bs f)).c = 0 := Classical.byContradiction fun hh => by rw [plant_clean hs hp hh] at h; exact hh h
  have hw : (mix (k * 2) (pwaste m mi bs f)).c = 0 := Classical.byContradiction fun hh => by rw [plant_waste hs hp hc hh] at h; exact hh h
  rw [plant_ok hs hp hc hw]
  obtain ⟨c1, c2, c3⟩ := mix_good hc
  obtain ⟨w1, w2, w3⟩ := mix_good hw
  have all := pcode_all k hp
  have k0 : 0 < k := c1.1
  obtain ⟨o1, o2, _, _, o5, _⟩ := one_book (all 0 k0).1 (all 0 k0).2
  obtain ⟨_, _, _, _, _, l6⟩ := one_book (all (k - 1) (by omega)).1 (all (k - 1) (by omega)).2
  rw [show k - 1 + 1 = k by omega] at l6
  obtain ⟨r1, r2⟩ := run_book all k (Nat.le_refl _)
  have wn : (pwaste m mi bs f 0).n = m := by
    have e0 := pwaste_even (m := m) (mi := mi) (bs := bs) (f := f) 0
    rw [Nat.zero_mul] at e0
    rw [e0]
    obtain ⟨a1, a2⟩ := settle_good (b := bs 0) (m := m) (mi := mi) (all 0 k0).1
    show (settle (bs 0) m mi).y.n = m
    rw [a2]; exact a1.2.1.symm
  refine ⟨k0, by omega, o1.2.2, ?_, fun i hi => ?_, ?_, ?_, ?_, ?_, ?_, fun j => ?_, o5, l6⟩
  · have := o1.1.2.1; rw [o1.2.1] at this; exact this
  · have := (one_book (all i hi).1 (all i hi).2).1; exact ⟨this.1, this.2.1⟩
  · show (mix k _).x.n = m; rw [c3]; exact o2
  · show (mix (k * 2) _).x.n = m; rw [w3]; exact wn
  · show Ok (mix k _).x; rw [c3]; exact c2
  · show Ok (mix (k * 2) _).x; rw [w3]; exact w2
  · show _ = (mix k _).x.wt + (mix (k * 2) _).x.wt; rw [c3, w3]; exact r1.symm
  · show _ = (mix k _).x.f j + (mix (k * 2) _).x.f j; rw [c3, w3]; exact (r2 j).symm
end
end Wk
end Go.Proofs.YtcjeieagpcphjaaDoor
namespace Go.Proofs.YtcjeieagpcphjaaDoor
open Go.RowKit Go.Deep

theorem fo_row (w : World) (A : Wk.FO) (ax : Option Addr) (kx : Nat) (ay : Option Addr) (ky : Nat) : (w.alloc (foO A ax kx ay ky)).rowIs w.heap.size 54 10 (rowL (foL A ax kx ay ky)) := rowL_alloc w (foL A ax kx ay ky) 54
theorem row4_sets {w : World} {g : Nat} {t : TypeId} {F : Nat → Value} (h : w.rowIs g t 4 F) (a b c d : Value) : (setAll g 0 [a, b, c, d] w).rowIs g t 4 (rowL [a, b, c, d]) := setAll_row [a, b, c, d] h rfl
set_option maxRecDepth 100000 in
set_option maxHeartbeats 4000000 in
theorem toFilter_any (fl : Wk.Fl) (w : World) :
    Calls Tryd.prog 7 #[flV fl] w fun e w' => e = .returned (flV fl) ∧ Below w.heap.size w w' := by
  obtain ⟨W, hW⟩ : ∃ W, W = ((w.alloc (.cells #[.int .i64 fl.held, .int .i64 fl.most, .int .i64 fl.catch_, .int .i64 fl.wash] 23)).alloc (.cells #[.int .i64 0, .int .i64 0, .int .i64 0, .int .i64 0] 29)).alloc (.cells #[.int .i64 0, .int .i64 0, .int .i64 0, .int .i64 0] 29) := ⟨_, rfl⟩
  have HB : Hid (Below w.heap.size w W) := by show Below _ _ _; rw [hW]; exact (((Below.refl _ _).alloc (Nat.le_refl _) _).alloc (by simp) _).alloc (by simp; omega) _
  clear hW
  go_enter Tryd.func7, Tryd.ntmps7
  go_wp2_with fail
  refine bodyPost_ret (v := flV fl) ?_ rfl ⟨rfl, ?_⟩
  · simp [results, Tryd.results7, go_sem]
  · exact (((Below.refl _ _).alloc (Nat.le_refl _) _).alloc (by simp) _).alloc (by simp; omega) _
set_option maxRecDepth 100000 in
set_option maxHeartbeats 4000000 in
theorem eqFilter_same (fl : Wk.Fl) (w : World) :
    Calls Tryd.prog 28 #[flV fl, flV fl] w fun e w' => e = .returned (.bool true) ∧ Below w.heap.size w w' := by
  go_enter Tryd.func28, Tryd.ntmps28
  go_wp2_with fail
  go_ret
  exact ⟨rfl, ((Below.refl _ _).alloc (Nat.le_refl _) _).alloc (by simp) _⟩
/-- An answer of two batches, laid in a box. -/
structure FoM (lo hi : Nat) (A : Wk.FO) (ax : Option Addr) (kx : Nat) (ay : Option Addr) (ky : Nat) (gb : Nat) (W : World) : Prop where
  row : W.rowIs gb 54 10 (rowL (foL A ax kx ay ky))
  two : TwM lo hi ax A.clean.n kx A.clean.f ay A.waste.n ky A.waste.f W
  bd : lo ≤ gb ∧ gb < hi
  far : ∀ g, (atP ax g ∨ atP ay g) → g ≠ gb
theorem FoM.same {lo hi : Nat} {A : Wk.FO} {ax : Option Addr} {kx : Nat} {ay : Option Addr} {ky gb : Nat} {W W' : World} (h : FoM lo hi A ax kx ay ky gb W) (hb : ∀ g, lo ≤ g → g < hi → g < W.heap.size → W'.heap[g]? = W.heap[g]?) : FoM lo hi A ax kx ay ky gb W' := ⟨h.row.of_block (hb _ h.bd.1 h.bd.2 h.row.lt), h.two.same hb, h.bd, h.far⟩
theorem FoM.below {lo hi : Nat} {A : Wk.FO} {ax : Option Addr} {kx : Nat} {ay : Option Addr} {ky gb : Nat} {W W' : World} (h : FoM lo hi A ax kx ay ky gb W) (hb : Below W.heap.size W W') : FoM lo hi A ax kx ay ky gb W' := h.same (fun g _ _ hl => hb.block g hl)
theorem foM_of {lo : Nat} {A : Wk.FO} {ax : Option Addr} {kx : Nat} {ay : Option Addr} {ky : Nat} {W : World} (h : TwM lo W.heap.size ax A.clean.n kx A.clean.f ay A.waste.n ky A.waste.f W) (hl : lo ≤ W.heap.size) : FoM lo (W.heap.size + 1) A ax kx ay ky W.heap.size (W.alloc (foO A ax kx ay ky)) :=
  ⟨fo_row W A ax kx ay ky, (h.below (bel_alloc _ _)).mono (Nat.le_refl _) (by omega), ⟨hl, by omega⟩, fun g hg => by
    rcases hg with hg | hg
    · have := h.px.atp hg; omega
    · have := h.py.atp hg; omega⟩
end Go.Proofs.YtcjeieagpcphjaaDoor
namespace Go.Proofs.YtcjeieagpcphjaaDoor
open Go.RowKit Go.Deep

theorem wrapW_id {x : Int} (h1 : -9223372036854775808 ≤ x) (h2 : x ≤ 9223372036854775807) : IntKind.i64.wrap x = x := by simp [IntKind.wrap, IntKind.bits, IntKind.signed]; omega
/-- What stands in the draw of a batch and more. -/
structure DS (w : World) (sb B b5 : Nat) (wt : Int) (a : Option Addr) (N k : Nat) (zs : List Int) (W : World) : Prop where
  res : W.rowIs w.heap.size 28 2 (r2 (.int .i64 0) (.slice none 0 0))
  box : W.rowIs b5 28 2 (r2 (.int .i64 wt) (.slice a N k))
  own : W.ownsRow B 2 1 (.slice a N k) N (zs.map (Value.int .i64))
  src : Src sb W
  bel : Below w.heap.size w W
  num : w.heap.size < sb ∧ sb < B ∧ sb < b5
theorem DS.draw {w : World} {sb B b5 : Nat} {wt : Int} {a : Option Addr} {N k : Nat} {zs : List Int} {W W' : World} (h : DS w sb B b5 wt a N k zs W) (hd : Drew sb W W') : DS w sb B b5 wt a N k zs W' := by
  have hn := h.num
  exact ⟨h.res.of_block (hd.2.2.2.2.2 _ h.res.lt (by omega)), h.box.of_block (hd.2.2.2.2.2 _ h.box.lt (by omega)), ownFar h.own (fun g hg hl => hd.2.2.2.2.2 g hl (by have := (h.own.lt g hg).1; omega)), hd.1, h.bel.trans (hd.2.below (by omega) h.bel.size), h.num⟩
theorem DS.drew {w : World} {sb B b5 : Nat} {wt : Int} {a : Option Addr} {N k : Nat} {zs : List Int} {W : World} (h : DS w sb B b5 wt a N k zs W) : DS w sb B b5 wt a N k zs W.drew := ⟨h.res.of_block rfl, h.box.of_block rfl, ownFar h.own (fun _ _ _ => rfl), h.src.below (Below.refl _ _).drew, h.bel.drew, h.num⟩
/-- What is left of it at the end. -/
theorem DS.fin {w : World} {sb B b5 : Nat} {wt : Int} {a : Option Addr} {N k : Nat} {zs : List Int} {W : World} (h : DS w sb B b5 wt a N k zs W) (hz : zs.length = N) (x y : Value) : PtM w.heap.size ((W.setCell ⟨w.heap.size, 0, none⟩ x).setCell ⟨w.heap.size, 1, none⟩ y).heap.size a N k (inList zs) ((W.setCell ⟨w.heap.size, 0, none⟩ x).setCell ⟨w.heap.size, 1, none⟩ y) ∧ Below w.heap.size w ((W.setCell ⟨w.heap.size, 0, none⟩ x).setCell ⟨w.heap.size, 1, none⟩ y) := by
  have hn := h.num
  subst hz
  refine ⟨?_, (h.bel.setCell (p := ⟨w.heap.size, 0, none⟩) (Nat.le_refl _) _).setCell (p := ⟨w.heap.size, 1, none⟩) (Nat.le_refl _) _⟩
  rcases own_ints h.own with ⟨h1, h2⟩ | ⟨g, cap, h1, h2, h3⟩
  · simp at h1
    exact Or.inl ⟨h1.1, by rw [h2]; rfl, h1.2.2⟩
  · simp at h1
    obtain ⟨rfl, rfl⟩ := h1
    have h4 := (h3.block (Below.heap_setCell _ ⟨w.heap.size, 0, none⟩ x _ (by show g ≠ w.heap.size; omega))).block (Below.heap_setCell _ ⟨w.heap.size, 1, none⟩ y _ (by show g ≠ w.heap.size; omega))
    exact Or.inr ⟨g, rfl, ⟨by omega, h4.lt⟩, h4⟩
end Go.Proofs.YtcjeieagpcphjaaDoor
namespace Go.Proofs.YtcjeieagpcphjaaDoor
open Go.RowKit Go.Deep

/-- What the draw of a filter keeps. -/
structure FD (w : World) (sb b3 : Nat) (x0 x1 x2 x3 : Int) (W : World) : Prop where
  o : W.rowIs w.heap.size 29 4 (rowL [.int .i64 0, .int .i64 0, .int .i64 0, .int .i64 0])
  b : W.rowIs b3 29 4 (rowL [.int .i64 x0, .int .i64 x1, .int .i64 x2, .int .i64 x3])
  dr : Drew sb w W
  lt : sb < w.heap.size
  lb : w.heap.size < b3
section
variable {w : World} {sb b3 : Nat} {x0 x1 x2 x3 : Int} {W W' : World}
theorem FD.draw (h : FD w sb b3 x0 x1 x2 x3 W) (hd : Drew sb W W') : FD w sb b3 x0 x1 x2 x3 W' := by
  have hl := h.lt
  have hb := h.lb
  exact ⟨h.o.of_block (hd.2.2.2.2.2 _ h.o.lt (by omega)), h.b.of_block (hd.2.2.2.2.2 _ h.b.lt (by omega)), ⟨hd.1, h.dr.2.trans hd.2⟩, hl, hb⟩
theorem FD.below (h : FD w sb b3 x0 x1 x2 x3 W) (hb : Below W.heap.size W W') : FD w sb b3 x0 x1 x2 x3 W' := ⟨wrow_below h.o hb, wrow_below h.b hb, ⟨h.dr.1.below hb, h.dr.2.trans (Chg.of_below hb)⟩, h.lt, h.lb⟩
theorem FD.keep (h : FD w sb b3 x0 x1 x2 x3 W) {g : Nat} (hg : w.heap.size ≤ g) (i : Nat) (v : Value) : Drew sb w (W.setCell ⟨g, i, none⟩ v) := by
  have hl := h.lt
  have e : ∀ k, k ≠ g → (W.setCell ⟨g, i, none⟩ v).heap[k]? = W.heap[k]? := fun k hk => Below.heap_setCell _ ⟨g, i, none⟩ _ _ hk
  refine ⟨h.dr.1.keep (fun k hk => e k (by omega)), ?_⟩
  exact ⟨h.dr.2.1, h.dr.2.2.1, h.dr.2.2.2.1, by have := h.dr.2.size; simpa using this, fun k hk1 hk2 => (e k (by omega)).trans (h.dr.2.2.2.2.2 k hk1 hk2)⟩
theorem rowL4_put {g : Nat} {T : TypeId} {a b c d : Value} (h : W.rowIs g T 4 (rowL [a, b, c, d])) (i : Nat) (hi : i < 4) (x : Value) : (W.setCell ⟨g, i, none⟩ x).rowIs g T 4 (rowL ([a, b, c, d].set i x)) := by
  have h2 := h.set i x
  have e : (fun j => if j = i then x else rowL [a, b, c, d] j) = rowL ([a, b, c, d].set i x) := by
    funext j
    unfold rowL
    by_cases ej : j = i
    · subst ej
      have : j = 0 ∨ j = 1 ∨ j = 2 ∨ j = 3 := by omega
      rcases this with rfl | rfl | rfl | rfl <;> simp
    · simp [ej, Ne.symm ej]
  rw [e] at h2
  exact h2
theorem FD.set0 (h : FD w sb b3 x0 x1 x2 x3 W) (y : Int) : FD w sb b3 y x1 x2 x3 (W.setCell ⟨b3, 0, none⟩ (.int .i64 y)) := by
  have hb := h.lb
  exact ⟨h.o.of_block (Below.heap_setCell _ _ _ _ (by show w.heap.size ≠ b3; omega)), rowL4_put h.b 0 (by omega) _, h.keep (by omega) 0 _, h.lt, h.lb⟩
theorem FD.set1 (h : FD w sb b3 x0 x1 x2 x3 W) (y : Int) : FD w sb b3 x0 y x2 x3 (W.setCell ⟨b3, 1, none⟩ (.int .i64 y)) := by
  have hb := h.lb
  exact ⟨h.o.of_block (Below.heap_setCell _ _ _ _ (by show w.heap.size ≠ b3; omega)), rowL4_put h.b 1 (by omega) _, h.keep (by omega) 1 _, h.lt, h.lb⟩
theorem put4w {g : Nat} {T : TypeId} {p q r s : Value} (h : W.rowIs g T 4 (rowL [p, q, r, s])) (a b c d : Value) : (((((W).setCell ⟨g, 0, none⟩ a).setCell ⟨g, 1, none⟩ b).setCell ⟨g, 2, none⟩ c).setCell ⟨g, 3, none⟩ d).rowIs g T 4 (rowL [a, b, c, d]) :=
  rowL4_put (rowL4_put (rowL4_put (rowL4_put h 0 (by omega) a) 1 (by omega) b) 2 (by omega) c) 3 (by omega) d
theorem FD.end_ (h : FD w sb b3 x0 x1 x2 x3 W) (a b c d : Value) : Drew sb w (((((W).setCell ⟨w.heap.size, 0, none⟩ a).setCell ⟨w.heap.size, 1, none⟩ b).setCell ⟨w.heap.size, 2, none⟩ c).setCell ⟨w.heap.size, 3, none⟩ d) := by
  have hl := h.lt
  have e : ∀ k, k ≠ w.heap.size → (((((W).setCell ⟨w.heap.size, 0, none⟩ a).setCell ⟨w.heap.size, 1, none⟩ b).setCell ⟨w.heap.size, 2, none⟩ c).setCell ⟨w.heap.size, 3, none⟩ d).heap[k]? = W.heap[k]? := fun k hk => by
    rw [Below.heap_setCell _ _ _ _ hk, Below.heap_setCell _ _ _ _ hk, Below.heap_setCell _ _ _ _ hk, Below.heap_setCell _ _ _ _ hk]
  refine ⟨h.dr.1.keep (fun k hk => e k (by omega)), ?_⟩
  exact ⟨h.dr.2.1, h.dr.2.2.1, h.dr.2.2.2.1, by have := h.dr.2.size; simpa using this, fun k hk1 hk2 => (e k (by omega)).trans (h.dr.2.2.2.2.2 k hk1 hk2)⟩
theorem fd_o (h : FD w sb b3 x0 x1 x2 x3 W) : (W.cell? ⟨w.heap.size, 0, none⟩ = some (.int .i64 0) ∧ W.cell? ⟨w.heap.size, 1, none⟩ = some (.int .i64 0) ∧ W.cell? ⟨w.heap.size, 2, none⟩ = some (.int .i64 0) ∧ W.cell? ⟨w.heap.size, 3, none⟩ = some (.int .i64 0)) ∧ W.frozen? ⟨w.heap.size, 0, none⟩ = false ∧ W.frozen? ⟨w.heap.size, 1, none⟩ = false ∧ W.frozen? ⟨w.heap.size, 2, none⟩ = false ∧ W.frozen? ⟨w.heap.size, 3, none⟩ = false :=
  ⟨row4_cells h.o, h.o.frozen 0, h.o.frozen 1, h.o.frozen 2, h.o.frozen 3⟩
end
set_option maxRecDepth 100000 in
set_option maxHeartbeats 8000000 in
theorem filterD_any (sb : Nat) (w : World) (h : Src sb w) :
    Calls Tryd.prog 32 #[.pointer (some ⟨sb, 0, none⟩)] w fun e w' => (∃ f : Wk.Fl, e = .returned (flV f)) ∧ Drew sb w w' := by
  obtain ⟨W, hW⟩ : ∃ W, W = w.alloc (.cells #[.int .i64 0, .int .i64 0, .int .i64 0, .int .i64 0] 29) := ⟨_, rfl⟩
  have hB : Below w.heap.size w W := by rw [hW]; exact bel_alloc _ _
  have HRO : Hid (W.rowIs w.heap.size 29 4 (rowL [.int .i64 0, .int .i64 0, .int .i64 0, .int .i64 0])) := by show World.rowIs _ _ _ _ _; rw [hW]; exact rowL_alloc w _ _
  have HS0 : Hid (Drew sb W W) := ⟨h.below hB, Chg.refl _ _⟩
  have HLT := Lib.hid h.lt
  have HW := Lib.hid hW
  have HB := Lib.hid hB
  clear h hW hB
  go_enter Tryd.func32, Tryd.ntmps32
  go_wp2_with fail
  rw [← HW.out]
  refine (n_any sb 500 _ HS0.out.1 (by omega)).mono ?_
  rintro e W1 ⟨⟨x0, rfl, _, _, _⟩, hD⟩
  have HS1 : Hid (Drew sb W W1) := ⟨hD.1, HS0.out.2.trans hD.2⟩
  clear hD HS0
  go_wp2_with fail
  refine (n_any sb 900 _ HS1.out.1 (by omega)).mono ?_
  rintro e W2 ⟨⟨x1, rfl, _, _, _⟩, hD⟩
  have HS2 : Hid (Drew sb W W2) := ⟨hD.1, HS1.out.2.trans hD.2⟩
  clear hD HS1
  go_wp2_with fail
  refine (n_any sb 1001 _ HS2.out.1 (by omega)).mono ?_
  rintro e W3 ⟨⟨x2, rfl, _, _, _⟩, hD⟩
  have HS3 : Hid (Drew sb W W3) := ⟨hD.1, HS2.out.2.trans hD.2⟩
  clear hD HS2
  go_wp2_with fail
  refine (n_any sb 400 _ HS3.out.1 (by omega)).mono ?_
  rintro e W4 ⟨⟨x3, rfl, _, _, _⟩, hD⟩
  have HS4 : Hid (Drew sb W W4) := ⟨hD.1, HS3.out.2.trans hD.2⟩
  clear hD HS3
  obtain ⟨b3, hb3⟩ : ∃ b, b = W4.heap.size := ⟨_, rfl⟩
  obtain ⟨Wb, hWb⟩ : ∃ Wb, Wb = W4.alloc (.cells #[.int .i64 x0, .int .i64 x1, .int .i64 x2, .int .i64 x3] 29) := ⟨_, rfl⟩
  have HD : Hid (FD w sb b3 x0 x1 x2 x3 Wb) := by
    show FD _ _ _ _ _ _ _ _
    have hl := HLT.out
    have o4 : W4.rowIs w.heap.size 29 4 (rowL [.int .i64 0, .int .i64 0, .int .i64 0, .int .i64 0]) := HRO.out.of_block (HS4.out.2.2.2.2.2 _ HRO.out.lt (by omega))
    rw [hWb, hb3]
    exact ⟨wrow_below o4 (bel_alloc _ _), rowL_alloc W4 [.int .i64 x0, .int .i64 x1, .int .i64 x2, .int .i64 x3] _, ⟨HS4.out.1.below (bel_alloc _ _), ((Chg.of_below HB.out).trans HS4.out.2).trans (Chg.of_below (bel_alloc _ _))⟩, hl, o4.lt⟩
  have HWb := Lib.hid hWb
  have HB3 := Lib.hid hb3
  clear hWb hb3 HS4 HRO HW HB
  go_wp2_with fail
  rw [← HWb.out, ← HB3.out]
  clear HWb HB3
  refine (one_any sb 20 _ HD.out.dr.1 (by omega)).mono ?_
  rintro e Wc ⟨⟨c0, rfl⟩, hD⟩
  have HDn := Lib.hid (HD.out.draw hD)
  clear hD HD
  have HD := HDn
  clear HDn
  cases c0 with
  | true =>
    obtain ⟨V1, hV1⟩ : ∃ V, V = Wc.alloc (.cells #[.int .i64 1000000000, .int .i64 1000000001, .int .i64 (-1)] 2) := ⟨_, rfl⟩
    have HD1a : Hid (FD w sb b3 x0 x1 x2 x3 V1) := by show FD _ _ _ _ _ _ _ _; rw [hV1]; exact HD.out.below (bel_alloc _ _)
    have HG1 : Hid (V1.heap[Wc.heap.size]? = some (.cells #[.int .i64 1000000000, .int .i64 1000000001, .int .i64 (-1)] 2)) := by show _ = _; rw [hV1]; exact blk_alloc_new _ _
    have HN1 : Hid (sb < Wc.heap.size) := HD.out.dr.1.lt
    have HE1 := Lib.hid hV1
    clear hV1 HD
    go_wp2_with fail
    rw [← HE1.out]
    refine (n_any sb 3 _ HD1a.out.dr.1 (by omega)).mono ?_
    rintro e W1n ⟨⟨z1, rfl, z10, z11, _⟩, hD⟩
    have z12 := z11 (by omega)
    have HD := Lib.hid (HD1a.out.draw hD)
    obtain ⟨y1, hy1, _⟩ := oneOfW (W := V1) (W' := W1n) (g := Wc.heap.size) (z := z1) (n := 3) #[.int .i64 1000000000, .int .i64 1000000001, .int .i64 (-1)] 2 three_ok HG1.out rfl (fun k hk => by subst hk; exact hD.2.2.2.2.2 _ (by rw [HE1.out]; simp) (by have := HN1.out; omega)) z10 (by omega)
    clear hD HD1a HG1 HN1 HE1 z11
    obtain ⟨m1, hm1⟩ : ∃ m : Nat, z1 = (m : Int) := ⟨z1.toNat, by omega⟩
    subst hm1
    simp only [Int.toNat_natCast] at hy1
    have hmz1 : (m1 : Int) < 3 := by omega
    obtain ⟨q0, q1, q2, q3⟩ := row4_cells HD.out.b
    have hqf := HD.out.b.frozen 0
    have hql := HD.out.b.lt
    obtain ⟨U1, hU1⟩ : ∃ U, U = W1n.setCell ⟨b3, 0, none⟩ (.int .i64 y1) := ⟨_, rfl⟩
    have HDs : Hid (FD w sb b3 y1 x1 x2 x3 U1) := by show FD _ _ _ _ _ _ _ _; rw [hU1]; exact HD.out.set0 y1
    have HU1 := Lib.hid hU1
    clear hU1 HD
    have HD := HDs
    clear HDs
    go_wp2_with fail
    rw [← HU1.out]
    clear HU1 q0 q1 q2 q3 hqf hql
    refine (one_any sb 20 _ HD.out.dr.1 (by omega)).mono ?_
    rintro e W10b ⟨⟨c10, rfl⟩, hD⟩
    have HDn := Lib.hid (HD.out.draw hD)
    clear hD HD
    have HD := HDn
    clear HDn
    cases c10 with
    | true =>
      obtain ⟨V11, hV11⟩ : ∃ V, V = W10b.alloc (.cells #[.int .i64 0, .int .i64 1000000000, .int .i64 1000000001, .int .i64 (-1)] 2) := ⟨_, rfl⟩
      have HD11a : Hid (FD w sb b3 y1 x1 x2 x3 V11) := by show FD _ _ _ _ _ _ _ _; rw [hV11]; exact HD.out.below (bel_alloc _ _)
      have HG11 : Hid (V11.heap[W10b.heap.size]? = some (.cells #[.int .i64 0, .int .i64 1000000000, .int .i64 1000000001, .int .i64 (-1)] 2)) := by show _ = _; rw [hV11]; exact blk_alloc_new _ _
      have HN11 : Hid (sb < W10b.heap.size) := HD.out.dr.1.lt
      have HE11 := Lib.hid hV11
      clear hV11 HD
      go_wp2_with fail
      rw [← HE11.out]
      refine (n_any sb 4 _ HD11a.out.dr.1 (by omega)).mono ?_
      rintro e W11n ⟨⟨z11, rfl, z110, z111, _⟩, hD⟩
      have z112 := z111 (by omega)
      have HD := Lib.hid (HD11a.out.draw hD)
      obtain ⟨y11, hy11, _⟩ := oneOfW (W := V11) (W' := W11n) (g := W10b.heap.size) (z := z11) (n := 4) #[.int .i64 0, .int .i64 1000000000, .int .i64 1000000001, .int .i64 (-1)] 2 four_ok HG11.out rfl (fun k hk => by subst hk; exact hD.2.2.2.2.2 _ (by rw [HE11.out]; simp) (by have := HN11.out; omega)) z110 (by omega)
      clear hD HD11a HG11 HN11 HE11 z111
      obtain ⟨m11, hm11⟩ : ∃ m : Nat, z11 = (m : Int) := ⟨z11.toNat, by omega⟩
      subst hm11
      simp only [Int.toNat_natCast] at hy11
      have hmz11 : (m11 : Int) < 4 := by omega
      obtain ⟨q0, q1, q2, q3⟩ := row4_cells HD.out.b
      have hqf := HD.out.b.frozen 1
      have hql := HD.out.b.lt
      obtain ⟨U11, hU11⟩ : ∃ U, U = W11n.setCell ⟨b3, 1, none⟩ (.int .i64 y11) := ⟨_, rfl⟩
      have HDs : Hid (FD w sb b3 y1 y11 x2 x3 U11) := by show FD _ _ _ _ _ _ _ _; rw [hU11]; exact HD.out.set1 y11
      have HU11 := Lib.hid hU11
      clear hU11
      have HDP := HD
      clear HD
      have HD := HDs
      clear HDs
      have HZR := Lib.hid (put4w HD.out.o (.int .i64 y1) (.int .i64 y11) (.int .i64 x2) (.int .i64 x3))
      have HZD := Lib.hid (HD.out.end_ (.int .i64 y1) (.int .i64 y11) (.int .i64 x2) (.int .i64 x3))
      obtain ⟨⟨o0, o1, o2, o3⟩, z0, z1, z2, z3⟩ := fd_o HDP.out
      have hol := HDP.out.o.lt
      have hn1 : ¬ b3 = w.heap.size := by have := HDP.out.lb; omega
      have hn2 : ¬ w.heap.size = b3 := by have := HDP.out.lb; omega
      go_wp2_with fail
      rw [← HU11.out]
      clear HU11 q0 q1 q2 q3 hqf hql
      generalize ((((U11).setCell ⟨w.heap.size, 0, none⟩ (.int .i64 y1)).setCell ⟨w.heap.size, 1, none⟩ (.int .i64 y11)).setCell ⟨w.heap.size, 2, none⟩ (.int .i64 x2)).setCell ⟨w.heap.size, 3, none⟩ (.int .i64 x3) = Z at HZR HZD ⊢
      obtain ⟨e0, e1, e2, e3⟩ := row4_cells HZR.out
      exact bodyPost_ret (v := flV ⟨y1, y11, x2, x3⟩) (by simp only [results, Tryd.results32]; simp [go_sem, e0, e1, e2, e3]) rfl ⟨⟨_, rfl⟩, HZD.out⟩
    | false =>
      have HZR := Lib.hid (put4w HD.out.o (.int .i64 y1) (.int .i64 x1) (.int .i64 x2) (.int .i64 x3))
      have HZD := Lib.hid (HD.out.end_ (.int .i64 y1) (.int .i64 x1) (.int .i64 x2) (.int .i64 x3))
      obtain ⟨⟨o0, o1, o2, o3⟩, z0, z1, z2, z3⟩ := fd_o HD.out
      obtain ⟨q0, q1, q2, q3⟩ := row4_cells HD.out.b
      have hol := HD.out.o.lt
      go_wp2_with fail
      generalize ((((W10b).setCell ⟨w.heap.size, 0, none⟩ (.int .i64 y1)).setCell ⟨w.heap.size, 1, none⟩ (.int .i64 x1)).setCell ⟨w.heap.size, 2, none⟩ (.int .i64 x2)).setCell ⟨w.heap.size, 3, none⟩ (.int .i64 x3) = Z at HZR HZD ⊢
      obtain ⟨e0, e1, e2, e3⟩ := row4_cells HZR.out
      exact bodyPost_ret (v := flV ⟨y1, x1, x2, x3⟩) (by simp only [results, Tryd.results32]; simp [go_sem, e0, e1, e2, e3]) rfl ⟨⟨_, rfl⟩, HZD.out⟩
  | false =>
    go_wp2_with fail
    refine (one_any sb 20 _ HD.out.dr.1 (by omega)).mono ?_
    rintro e W20b ⟨⟨c20, rfl⟩, hD⟩
    have HDn := Lib.hid (HD.out.draw hD)
    clear hD HD
    have HD := HDn
    clear HDn
    cases c20 with
    | true =>
      obtain ⟨V21, hV21⟩ : ∃ V, V = W20b.alloc (.cells #[.int .i64 0, .int .i64 1000000000, .int .i64 1000000001, .int .i64 (-1)] 2) := ⟨_, rfl⟩
      have HD21a : Hid (FD w sb b3 x0 x1 x2 x3 V21) := by show FD _ _ _ _ _ _ _ _; rw [hV21]; exact HD.out.below (bel_alloc _ _)
      have HG21 : Hid (V21.heap[W20b.heap.size]? = some (.cells #[.int .i64 0, .int .i64 1000000000, .int .i64 1000000001, .int .i64 (-1)] 2)) := by show _ = _; rw [hV21]; exact blk_alloc_new _ _
      have HN21 : Hid (sb < W20b.heap.size) := HD.out.dr.1.lt
      have HE21 := Lib.hid hV21
      clear hV21 HD
      go_wp2_with fail
      rw [← HE21.out]
      refine (n_any sb 4 _ HD21a.out.dr.1 (by omega)).mono ?_
      rintro e W21n ⟨⟨z21, rfl, z210, z211, _⟩, hD⟩
      have z212 := z211 (by omega)
      have HD := Lib.hid (HD21a.out.draw hD)
      obtain ⟨y21, hy21, _⟩ := oneOfW (W := V21) (W' := W21n) (g := W20b.heap.size) (z := z21) (n := 4) #[.int .i64 0, .int .i64 1000000000, .int .i64 1000000001, .int .i64 (-1)] 2 four_ok HG21.out rfl (fun k hk => by subst hk; exact hD.2.2.2.2.2 _ (by rw [HE21.out]; simp) (by have := HN21.out; omega)) z210 (by omega)
      clear hD HD21a HG21 HN21 HE21 z211
      obtain ⟨m21, hm21⟩ : ∃ m : Nat, z21 = (m : Int) := ⟨z21.toNat, by omega⟩
      subst hm21
      simp only [Int.toNat_natCast] at hy21
      have hmz21 : (m21 : Int) < 4 := by omega
      obtain ⟨q0, q1, q2, q3⟩ := row4_cells HD.out.b
      have hqf := HD.out.b.frozen 1
      have hql := HD.out.b.lt
      obtain ⟨U21, hU21⟩ : ∃ U, U = W21n.setCell ⟨b3, 1, none⟩ (.int .i64 y21) := ⟨_, rfl⟩
      have HDs : Hid (FD w sb b3 x0 y21 x2 x3 U21) := by show FD _ _ _ _ _ _ _ _; rw [hU21]; exact HD.out.set1 y21
      have HU21 := Lib.hid hU21
      clear hU21
      have HDP := HD
      clear HD
      have HD := HDs
      clear HDs
      have HZR := Lib.hid (put4w HD.out.o (.int .i64 x0) (.int .i64 y21) (.int .i64 x2) (.int .i64 x3))
      have HZD := Lib.hid (HD.out.end_ (.int .i64 x0) (.int .i64 y21) (.int .i64 x2) (.int .i64 x3))
      obtain ⟨⟨o0, o1, o2, o3⟩, z0, z1, z2, z3⟩ := fd_o HDP.out
      have hol := HDP.out.o.lt
      have hn1 : ¬ b3 = w.heap.size := by have := HDP.out.lb; omega
      have hn2 : ¬ w.heap.size = b3 := by have := HDP.out.lb; omega
      go_wp2_with fail
      rw [← HU21.out]
      clear HU21 q0 q1 q2 q3 hqf hql
      generalize ((((U21).setCell ⟨w.heap.size, 0, none⟩ (.int .i64 x0)).setCell ⟨w.heap.size, 1, none⟩ (.int .i64 y21)).setCell ⟨w.heap.size, 2, none⟩ (.int .i64 x2)).setCell ⟨w.heap.size, 3, none⟩ (.int .i64 x3) = Z at HZR HZD ⊢
      obtain ⟨e0, e1, e2, e3⟩ := row4_cells HZR.out
      exact bodyPost_ret (v := flV ⟨x0, y21, x2, x3⟩) (by simp only [results, Tryd.results32]; simp [go_sem, e0, e1, e2, e3]) rfl ⟨⟨_, rfl⟩, HZD.out⟩
    | false =>
      have HZR := Lib.hid (put4w HD.out.o (.int .i64 x0) (.int .i64 x1) (.int .i64 x2) (.int .i64 x3))
      have HZD := Lib.hid (HD.out.end_ (.int .i64 x0) (.int .i64 x1) (.int .i64 x2) (.int .i64 x3))
      obtain ⟨⟨o0, o1, o2, o3⟩, z0, z1, z2, z3⟩ := fd_o HD.out
      obtain ⟨q0, q1, q2, q3⟩ := row4_cells HD.out.b
      have hol := HD.out.o.lt
      go_wp2_with fail
      generalize ((((W20b).setCell ⟨w.heap.size, 0, none⟩ (.int .i64 x0)).setCell ⟨w.heap.size, 1, none⟩ (.int .i64 x1)).setCell ⟨w.heap.size, 2, none⟩ (.int .i64 x2)).setCell ⟨w.heap.size, 3, none⟩ (.int .i64 x3) = Z at HZR HZD ⊢
      obtain ⟨e0, e1, e2, e3⟩ := row4_cells HZR.out
      exact bodyPost_ret (v := flV ⟨x0, x1, x2, x3⟩) (by simp only [results, Tryd.results32]; simp [go_sem, e0, e1, e2, e3]) rfl ⟨⟨_, rfl⟩, HZD.out⟩
end Go.Proofs.YtcjeieagpcphjaaDoor
namespace Go.Proofs.YtcjeieagpcphjaaDoor
open Go.RowKit Go.Deep

/-- A batch's parts lie in memory of the call's own. -/
def Ptq (B : Nat) (x : Be) (W : World) : Prop := x.n = 0 ∨ ∃ g, x.pa = some ⟨g, 0, none⟩ ∧ B ≤ g ∧ InBlk g x.n x.f W
theorem Ptq.keep {B : Nat} {x : Be} {W W' : World} (h : Ptq B x W) (hb : ∀ (g : Nat) (cur : Array Value), B ≤ g → g < W.heap.size → W.heap[g]? = some (Obj.cells cur 2 (0, 0)) → W'.heap[g]? = W.heap[g]?) : Ptq B x W' := by
  rcases h with h | ⟨g, e, h1, h2⟩
  · exact Or.inl h
  · obtain ⟨cur, hc⟩ := inBlk_type h2
    exact Or.inr ⟨g, e, h1, h2.block (hb g cur h1 h2.lt hc)⟩
theorem Ptq.low {B B' : Nat} {x : Be} {W : World} (h : Ptq B x W) (hb : B' ≤ B) : Ptq B' x W := by
  rcases h with h | ⟨g, e, h1, h2⟩
  · exact Or.inl h
  · exact Or.inr ⟨g, e, by omega, h2⟩
theorem Ptq.at_ {B : Nat} {x : Be} {W : World} (h : Ptq B x W) : IntsAt x.pa x.n x.f W := by
  rcases h with h | ⟨g, e, h1, h2⟩
  · exact Or.inl h
  · rw [e]; exact h2.at_
theorem ptq_of {B N k : Nat} {a : Option Addr} {wt : Int} {zs : List Int} {W : World} (hz : zs.length = N) (h : W.ownsRow B 2 1 (.slice a N k) N (zs.map (Value.int .i64))) : Ptq B ⟨wt, a, N, k, inList zs⟩ W := by
  rcases h.2 with ⟨_, h2⟩ | ⟨g, cap, cur, e1, e2, e3, e4, e5, e6, e7⟩
  · exact Or.inl h2
  · refine Or.inr ⟨g, by injection e1, e2, cap, fun i => cur[i]?.getD undef, e4, ⟨cur, e3, by simpa using e6, fun i hi => ?_⟩, fun j hj => ?_⟩
    · show cur[i]? = some (cur[i]?.getD undef)
      rw [Array.getElem?_eq_getElem (by omega)]
      rfl
    · have hj' : j < N := hj
      have q : (cur.toList.take (N * 1))[j]? = (zs.map (Value.int .i64))[j]? := by rw [e7]
      rw [List.getElem?_take, if_pos (by omega), Array.getElem?_toList, List.getElem?_map, List.getElem?_eq_getElem (by omega)] at q
      show cur[j]?.getD undef = Value.int .i64 (inList zs j)
      rw [q]
      have hjz : j < zs.length := by omega
      simp [inList, hjz]
/-- What the drawing of a list of batches keeps. -/
structure SL (w : World) (sb : Nat) (v : Value) (n : Nat) (cs : Nat → Be) (W : World) : Prop where
  own : W.ownsRow w.heap.size 28 2 v n (beL cs n)
  parts : ∀ i, i < n → (cs i).n ≤ 10 ∧ Ptq w.heap.size (cs i) W
  dr : Drew sb w W
  lt : sb < w.heap.size
theorem SL.draw {w : World} {sb n : Nat} {v : Value} {cs : Nat → Be} {W W' : World} (h : SL w sb v n cs W) (hd : Drew sb W W') : SL w sb v n cs W' := by
  have hl := h.lt
  exact ⟨ownFar h.own (fun k hk h2 => hd.2.2.2.2.2 k h2 (by have := (h.own.lt k hk).1; omega)), fun i hi => ⟨(h.parts i hi).1, (h.parts i hi).2.keep (fun g _ h1 h2 _ => hd.2.2.2.2.2 g h2 (by omega))⟩, ⟨hd.1, h.dr.2.trans hd.2⟩, hl⟩
theorem SL.at_ {w : World} {sb n k : Nat} {a : Option Addr} {cs : Nat → Be} {W : World} (h : SL w sb (.slice a n k) n cs W) : BtsAt a n cs W := by
  rcases h.own.2 with ⟨_, e⟩ | ⟨g, cap, cur, e, h1, h2, h3, h4, h5, h6⟩
  · exact Or.inl e
  · refine Or.inr ⟨g, by injection e, fun i hi => ⟨?_, (h.parts i hi).2.at_⟩⟩
    have hx : Value.ownBlock (.slice a n k) = some g := by rw [e]; rfl
    have q0 := h.own.cells hx (i * 2) _ (beL_at cs hi).1
    have q1 := h.own.cells hx (i * 2 + 1) _ (beL_at cs hi).2
    rw [Addr.add_lit, Nat.zero_add] at q0 q1
    exact ⟨q0, q1⟩
theorem SL.push {w : World} {sb n : Nat} {v v' : Value} {cs : Nat → Be} {x : Be} {W W' : World} {o : Obj} (h : SL w sb v n cs W) (hx : x.n ≤ 10) (hp : Ptq w.heap.size x W) (hg : (W.alloc o).grownBy W' v.ownBlock)
    (hown : W'.ownsRow w.heap.size 28 2 v' (n + 1) (beL cs n ++ [.int .i64 x.wt, .slice x.pa x.n x.k])) : SL w sb v' (n + 1) (fun i => if i < n then cs i else x) W' := by
  have hz := h.dr.2.size
  have hl := h.lt
  have hrow : ∀ k, v.ownBlock = some k → w.heap.size ≤ k := fun k e => (h.own.lt k e).1
  have hk : ∀ k, k < W.heap.size → v.ownBlock ≠ some k → W'.heap[k]? = W.heap[k]? := fun k hk hne => by
    rw [hg.block k (by simp; omega) (fun e => hne e.symm)]
    exact blk_alloc_lt _ _ _ (by omega)
  have hk0 : ∀ k, k < w.heap.size → W'.heap[k]? = W.heap[k]? := fun k hk1 => hk k (by omega) (fun e => by have := hrow k e; omega)
  have hkt : ∀ (g : Nat) (cur : Array Value), w.heap.size ≤ g → g < W.heap.size → W.heap[g]? = some (Obj.cells cur 2 (0, 0)) → W'.heap[g]? = W.heap[g]? := fun g cur _ h2 h3 => hk g h2 (fun e => blk_ne ⟨cur, h3⟩ (own_type h.own e).2 (by decide) rfl)
  refine ⟨?_, fun i hi => ?_, ⟨h.dr.1.keep (fun k hk2 => hk0 k (by omega)), ?_⟩, hl⟩
  · have e : beL (fun i => if i < n then cs i else x) (n + 1) = beL cs n ++ [.int .i64 x.wt, .slice x.pa x.n x.k] := by
      simp only [beL]
      rw [beL_congr (ds := cs) (fun i hi => by simp [hi])]
      simp
    rw [e]; exact hown
  · by_cases e : i < n
    · simp only [e, if_true]; exact ⟨(h.parts i e).1, (h.parts i e).2.keep hkt⟩
    · simp only [e, if_false]; exact ⟨hx, hp.keep hkt⟩
  · exact ⟨hg.os.trans h.dr.2.1, hg.tape.trans h.dr.2.2.1, hg.output.trans h.dr.2.2.2.1, by have := hg.size; simp at this; omega, fun k hk1 hk2 => (hk0 k hk1).trans (h.dr.2.2.2.2.2 k hk1 hk2)⟩
theorem sl_start {w : World} {sb : Nat} (h : Src sb w) (cs : Nat → Be) : SL w sb (.slice (some ⟨w.heap.size, 0, none⟩) 0 0) 0 cs (w.alloc (.cells #[] 28)) :=
  ⟨World.ownsRow_made w #[] 0 (Nat.le_refl _) (Nat.zero_le _) rfl, fun _ hi => absurd hi (Nat.not_lt_zero _), ⟨h.below ((Below.refl _ _).alloc (Nat.le_refl _) _), Chg.of_below ((Below.refl _ _).alloc (Nat.le_refl _) _)⟩, h.lt⟩
theorem qinfo_bt : (Tryd.prog.info? 28).map (fun i => (i.zero, i.size, i.bytes)) = some (some (.agg #[.int .i64 0, .slice none 0 0]), 2, 32) := by kernel_rfl
set_option maxRecDepth 100000 in
set_option maxHeartbeats 8000000 in
theorem someD_any (sb N p : Nat) (hN : N ≤ 100) (hp : p ≤ 5) (w : World) (h : Src sb w) :
    Calls Tryd.prog 36 #[.pointer (some ⟨sb, 0, none⟩), .int .i64 N, .int .i64 p] w fun e w' => ∃ (n : Nat) (v : Value) (cs : Nat → Be), e = .returned v ∧ n ≤ 100 ∧ SL w sb v n cs w' := by
  obtain ⟨i0, hi, hz0, hz1, hz2⟩ := info_parts qinfo_bt
  have H := Lib.hid h
  clear h
  go_enter Tryd.func36, Tryd.ntmps36
  go_wp2_with fail
  go_loopw [1, 7, 8] (fun nv ov _ wr => ∃ (m n : Nat) (cs : Nat → Be), nv = .int .i64 m ∧ Hid (m + n = N) ∧ Hid (SL w sb ov n cs wr)) (fun nv _ _ _ => (intOf nv).toNat)
  case atStart => exact ⟨N, 0, fun _ => ⟨0, none, 0, 0, fun _ => 0⟩, rfl, by show _ = _; simp, sl_start H.out _⟩
  case round =>
    obtain ⟨m, n, cs, rfl, hm, hS⟩ := hrel
    obtain ⟨av, cv, rfl⟩ := ownShape hS.out.own
    have hmN : m ≤ 100 := by have := hm.out; omega
    by_cases hlt2 : 0 < m
    · have hltz : 0 < (m : Int) := by omega
      go_wp2_with fail
      refine (one_any sb 60 _ hS.out.dr.1 (by omega)).mono ?_
      rintro e w1 ⟨⟨c1, rfl⟩, hD⟩
      have HS1 := Lib.hid (hS.out.draw hD)
      clear hD hS
      cases c1
      · have hq2 : p ≤ 10 := by omega
        go_wp2_with fail
        refine (batchD_any sb p (by omega) _ HS1.out.dr.1).mono ?_
        rintro e w2 ⟨⟨wt, a, k, zs, rfl, _, hzl, hown⟩, hD⟩
        have HP2 := Lib.hid (ptq_of (wt := wt) hzl hown)
        have HL1 : Hid (w.heap.size ≤ w1.heap.size) := HS1.out.dr.2.size
        have HS2 := Lib.hid (HS1.out.draw hD)
        clear hD hown HS1
        go_wp2_with (at_builtin; refine wpList_append_own _ rfl _ _ 35 rfl w.heap.size 28 i0 (.agg #[.int .i64 0, .slice none 0 0]) 2 32 Tryd.underlying35 hi hz0 hz1 hz2 rfl (by decide) _ n (beL cs n) rfl (HS2.out.own.alloc _) ⟨w2.heap.size, 0, none⟩ 1 1 [.int .i64 wt, .slice a p k] rfl rfl ?c1 ?c2 ?c3 ?c4 ?c5 ?_)
        try (case c1 => (intro j u hj; match j, hj with
          | 0, hj => (simp at hj; subst hj; simp [Addr.add])
          | 1, hj => (simp at hj; subst hj; simp [Addr.add])))
        try (case c2 => (intro u hu; simp at hu; rcases hu with rfl | rfl <;> rfl))
        try (case c3 => (have := hm.out; unfold maxLen; omega))
        try (case c4 => (have := hm.out; omega))
        try (case c5 => (have := HS2.out.dr.2.size; first | omega | (simp; omega)))
        intro v' w3 hown hgrow hnil
        have HS3 : Hid (SL w sb v' (n + 1) (fun i => if i < n then cs i else ⟨wt, a, p, k, inList zs⟩) w3) := HS2.out.push (x := ⟨wt, a, p, k, inList zs⟩) hq2 (HP2.out.low HL1.out) hgrow hown
        clear hown hgrow hnil HS2 HP2 HL1
        go_wp2_with fail
        go_roundw
        case rel => exact ⟨m - 1, n + 1, _, by go_num, by show _ = _; have := hm.out; omega, HS3⟩
        case measure => simp [intOf]; omega
      · have hq2 : p + 1 ≤ 10 := by omega
        go_wp2_with fail
        have hq : (p : Int) + 1 = ((p + 1 : Nat) : Int) := by omega
        rw [hq]
        clear hq
        refine (batchD_any sb (p + 1) (by omega) _ HS1.out.dr.1).mono ?_
        rintro e w2 ⟨⟨wt, a, k, zs, rfl, _, hzl, hown⟩, hD⟩
        have HP2 := Lib.hid (ptq_of (wt := wt) hzl hown)
        have HL1 : Hid (w.heap.size ≤ w1.heap.size) := HS1.out.dr.2.size
        have HS2 := Lib.hid (HS1.out.draw hD)
        clear hD hown HS1
        go_wp2_with (at_builtin; refine wpList_append_own _ rfl _ _ 35 rfl w.heap.size 28 i0 (.agg #[.int .i64 0, .slice none 0 0]) 2 32 Tryd.underlying35 hi hz0 hz1 hz2 rfl (by decide) _ n (beL cs n) rfl (HS2.out.own.alloc _) ⟨w2.heap.size, 0, none⟩ 1 1 [.int .i64 wt, .slice a (p + 1) k] rfl rfl ?d1 ?d2 ?d3 ?d4 ?d5 ?_)
        try (case d1 => (intro j u hj; match j, hj with
          | 0, hj => (simp at hj; subst hj; simp [Addr.add])
          | 1, hj => (simp at hj; subst hj; simp [Addr.add])))
        try (case d2 => (intro u hu; simp at hu; rcases hu with rfl | rfl <;> rfl))
        try (case d3 => (have := hm.out; unfold maxLen; omega))
        try (case d4 => (have := hm.out; omega))
        try (case d5 => (have := HS2.out.dr.2.size; first | omega | (simp; omega)))
        intro v' w3 hown hgrow hnil
        have HS3 : Hid (SL w sb v' (n + 1) (fun i => if i < n then cs i else ⟨wt, a, (p + 1), k, inList zs⟩) w3) := HS2.out.push (x := ⟨wt, a, (p + 1), k, inList zs⟩) hq2 (HP2.out.low HL1.out) hgrow hown
        clear hown hgrow hnil HS2 HP2 HL1
        go_wp2_with fail
        go_roundw
        case rel => exact ⟨m - 1, n + 1, _, by go_num, by show _ = _; have := hm.out; omega, HS3⟩
        case measure => simp [intOf]; omega
    · obtain rfl : m = 0 := by omega
      go_wp2_with fail
      go_ret
      exact ⟨n, _, cs, rfl, by have := hm.out; omega, hS.out⟩
end Go.Proofs.YtcjeieagpcphjaaDoor
namespace Go.Proofs.YtcjeieagpcphjaaDoor
open Go.RowKit Go.Deep

/-- What the draw keeps. -/
structure PB (w : World) (sb b6 : Nat) (fl : Wk.Fl) (W : World) : Prop where
  o' : ∃ r0 r1 r2 r3 : Int, W.rowIs w.heap.size 29 4 (rowL [.int .i64 r0, .int .i64 r1, .int .i64 r2, .int .i64 r3])
  b : W.rowIs b6 29 4 (rowL [.int .i64 fl.held, .int .i64 fl.most, .int .i64 fl.catch_, .int .i64 fl.wash])
  old : Below w.heap.size w W
  lo : w.heap.size < sb ∧ sb < b6
structure PD (w : World) (sb b6 : Nat) (fl : Wk.Fl) (W : World) : Prop where
  pb : PB w sb b6 fl W
  src : Src sb W
section
variable {w : World} {sb b6 : Nat} {fl : Wk.Fl} {W W' : World}
theorem PB.olt (h : PB w sb b6 fl W) : w.heap.size < W.heap.size := by obtain ⟨_, _, _, _, h⟩ := h.o'; exact h.lt
theorem PB.below (h : PB w sb b6 fl W) (hb : Below W.heap.size W W') : PB w sb b6 fl W' := by
  obtain ⟨r0, r1, r2, r3, hr⟩ := h.o'
  exact ⟨⟨r0, r1, r2, r3, wrow_below hr hb⟩, wrow_below h.b hb, h.old.trans (hb.mono h.old.size), h.lo⟩
theorem PB.draw (h : PB w sb b6 fl W) (hd : Drew sb W W') : PB w sb b6 fl W' := by
  obtain ⟨r0, r1, r2, r3, hr⟩ := h.o'
  have l := h.lo
  exact ⟨⟨r0, r1, r2, r3, hr.of_block (hd.2.2.2.2.2 _ hr.lt (by omega))⟩, h.b.of_block (hd.2.2.2.2.2 _ h.b.lt (by omega)), h.old.trans (hd.2.below (by omega) h.old.size), l⟩
theorem PD.below (h : PD w sb b6 fl W) (hb : Below W.heap.size W W') : PD w sb b6 fl W' := ⟨h.pb.below hb, h.src.below hb⟩
theorem PD.draw (h : PD w sb b6 fl W) (hd : Drew sb W W') : PD w sb b6 fl W' := ⟨h.pb.draw hd, hd.1⟩
theorem PB.put (h : PB w sb b6 fl W) (a b c d : Value) (ha : ∃ x, a = .int .i64 x) (hb : ∃ x, b = .int .i64 x) (hc : ∃ x, c = .int .i64 x) (hd : ∃ x, d = .int .i64 x) : PB w sb b6 fl ((((W.setCell ⟨w.heap.size, 0, none⟩ a).setCell ⟨w.heap.size, 1, none⟩ b).setCell ⟨w.heap.size, 2, none⟩ c).setCell ⟨w.heap.size, 3, none⟩ d) := by
  obtain ⟨r0, r1, r2, r3, hr⟩ := h.o'
  obtain ⟨x0, rfl⟩ := ha
  obtain ⟨x1, rfl⟩ := hb
  obtain ⟨x2, rfl⟩ := hc
  obtain ⟨x3, rfl⟩ := hd
  have l := h.lo
  have e : ∀ k, k ≠ w.heap.size → ((((W.setCell ⟨w.heap.size, 0, none⟩ (.int .i64 x0)).setCell ⟨w.heap.size, 1, none⟩ (.int .i64 x1)).setCell ⟨w.heap.size, 2, none⟩ (.int .i64 x2)).setCell ⟨w.heap.size, 3, none⟩ (.int .i64 x3)).heap[k]? = W.heap[k]? := fun k hk => by
    rw [Below.heap_setCell _ _ _ _ hk, Below.heap_setCell _ _ _ _ hk, Below.heap_setCell _ _ _ _ hk, Below.heap_setCell _ _ _ _ hk]
  refine ⟨⟨x0, x1, x2, x3, put4w hr _ _ _ _⟩, h.b.of_block (e _ (by omega)), ?_, l⟩
  exact (((h.old.setCell (p := ⟨w.heap.size, 0, none⟩) (Nat.le_refl _) _).setCell (p := ⟨w.heap.size, 1, none⟩) (Nat.le_refl _) _).setCell (p := ⟨w.heap.size, 2, none⟩) (Nat.le_refl _) _).setCell (p := ⟨w.heap.size, 3, none⟩) (Nat.le_refl _) _
theorem pd_o (h : PB w sb b6 fl W) : (∃ r0 r1 r2 r3 : Int, (W.cell? ⟨w.heap.size, 0, none⟩ = some (.int .i64 r0) ∧ W.cell? ⟨w.heap.size, 1, none⟩ = some (.int .i64 r1) ∧ W.cell? ⟨w.heap.size, 2, none⟩ = some (.int .i64 r2) ∧ W.cell? ⟨w.heap.size, 3, none⟩ = some (.int .i64 r3))) ∧ W.frozen? ⟨w.heap.size, 0, none⟩ = false ∧ W.frozen? ⟨w.heap.size, 1, none⟩ = false ∧ W.frozen? ⟨w.heap.size, 2, none⟩ = false ∧ W.frozen? ⟨w.heap.size, 3, none⟩ = false := by
  obtain ⟨r0, r1, r2, r3, hr⟩ := h.o'
  exact ⟨⟨r0, r1, r2, r3, row4_cells hr⟩, hr.frozen 0, hr.frozen 1, hr.frozen 2, hr.frozen 3⟩
end
/-- How it ends. -/
def PdEnd (lo : Nat) (e : Ending) (W : World) : Prop := ∃ (fl : Wk.Fl) (ma : Option Addr) (p mk : Nat) (mi : Nat → Int) (a : Option Addr) (n k : Nat) (cs : Nat → Be), e = .returned (.tuple #[flV fl, .slice ma p mk, .slice a n k]) ∧ p ≤ 5 ∧ n ≤ 100 ∧ Ptq lo ⟨0, ma, p, mk, mi⟩ W ∧ BtsAt a n cs W ∧ ∀ i, i < n → (cs i).n ≤ 10
set_option maxRecDepth 100000 in
set_option maxHeartbeats 16000000 in
theorem drawPlant_any (a0 : Option Addr) (len cap : Nat) (w : World) (h : Bytes a0 len w) (hl : len ≤ 1048576) :
    Calls Tryd.prog 18 #[.slice a0 len cap] w fun e w' => PdEnd w.heap.size e w' ∧ Below w.heap.size w w' := by
  obtain ⟨W0, hW0⟩ : ∃ W0, W0 = w.alloc (.cells #[.int .i64 0, .int .i64 0, .int .i64 0, .int .i64 0] 29) := ⟨_, rfl⟩
  have hb0 : Below w.heap.size w W0 := by rw [hW0]; exact bel_alloc _ _
  have RO : W0.rowIs w.heap.size 29 4 (rowL [.int .i64 0, .int .i64 0, .int .i64 0, .int .i64 0]) := by rw [hW0]; exact rowL_alloc w _ _
  have H := Lib.hid (h.below hb0)
  have HW0 := Lib.hid hW0
  have HB0 := Lib.hid hb0
  have HR0 := Lib.hid RO
  clear h hW0 hb0 RO
  go_enter Tryd.func18, Tryd.ntmps18
  go_wp2_with fail
  rw [← HW0.out]
  refine (source_any a0 len cap _ H.out (by omega)).mono ?_
  rintro e W1 ⟨rfl, hsrc, hb1⟩
  obtain ⟨sb, hsb⟩ : ∃ sb, sb = W0.heap.size := ⟨_, rfl⟩
  rw [← hsb] at hsrc ⊢
  have HB1 : Hid (Below w.heap.size w W1) := HB0.out.trans (hb1.mono HB0.out.size)
  have HR1 := Lib.hid (wrow_below HR0.out hb1)
  have HN1 : Hid (w.heap.size < sb ∧ sb < W1.heap.size) := ⟨by rw [hsb]; exact HR0.out.lt, hsrc.lt⟩
  have HS1 := Lib.hid hsrc
  clear hsb hb1 hsrc HW0 HR0 HB0 H
  go_wp2_with fail
  refine (filterD_any sb _ HS1.out).mono ?_
  rintro e W2 ⟨⟨fl, rfl⟩, hD⟩
  obtain ⟨b6, hb6⟩ : ∃ b, b = W2.heap.size := ⟨_, rfl⟩
  obtain ⟨W3, hW3⟩ : ∃ W3, W3 = W2.alloc (.cells #[.int .i64 fl.held, .int .i64 fl.most, .int .i64 fl.catch_, .int .i64 fl.wash] 29) := ⟨_, rfl⟩
  have HQ : Hid (PD w sb b6 fl W3) := by
    have hn1 := HN1.out
    have hs := hD.2.size
    have hb3 : Below W2.heap.size W2 W3 := by rw [hW3]; exact bel_alloc _ _
    have h1 := HB1.out.trans (hD.2.below (by omega) HB1.out.size)
    refine ⟨⟨⟨0, 0, 0, 0, wrow_below (HR1.out.of_block (hD.2.2.2.2.2 _ HR1.out.lt (by omega))) hb3⟩, by rw [hW3, hb6]; exact rowL_alloc W2 _ _, h1.trans (hb3.mono h1.size), by omega⟩, hD.1.below hb3⟩
  have HW3 := Lib.hid hW3
  have HB6 := Lib.hid hb6
  clear hD hW3 hb6 HS1 HR1 HB1 HN1
  go_wp2_with fail
  rw [← HW3.out, ← HB6.out]
  clear HW3 HB6
  refine (n_any sb 3 _ HQ.out.src (by omega)).mono ?_
  rintro e W4 ⟨⟨x, rfl, x0, x1, _⟩, hD⟩
  have x2 := x1 (by omega)
  have HQn := Lib.hid (HQ.out.draw hD)
  clear hD HQ x1
  have HQ := HQn
  clear HQn
  go_wp2_with fail
  refine (one_any sb 30 _ HQ.out.src (by omega)).mono ?_
  rintro e W5 ⟨⟨c1, rfl⟩, hD⟩
  have HQn := Lib.hid (HQ.out.draw hD)
  clear hD HQ
  have HQ := HQn
  clear HQn
  obtain ⟨P, hP⟩ : ∃ P : Nat, 1 + x = (P : Int) := ⟨(1 + x).toNat, by omega⟩
  have hP9 : P ≤ 5 := by omega
  have HPE := Lib.hid hP
  clear hP
  cases c1 with
  | true =>
    clear HPE hP9
    have hP9 : (0 : Nat) ≤ 5 := by omega
    obtain ⟨sa, slen, scap, sat, smix, ssize, ⟨sc0, sc1, sc2, sc3, sc4, sc5, sc6, sc7⟩, _, _, _, ss0, ss1, _⟩ := HQ.out.src
    go_wp2_with fail
    clear sc0 sc1 sc2 sc3 sc4 sc5 sc6 sc7
    refine (n_any sb (4 + ssize) _ HQ.out.src (by omega)).mono ?_
    rintro e W10a ⟨⟨y, rfl, y0, y1, y9⟩, hD⟩
    have hy : 0 ≤ y ∧ y ≤ 16 := by
      refine ⟨y0, ?_⟩
      by_cases h : 1 < 4 + ssize
      · have := y1 h; omega
      · omega
    have HQn := Lib.hid (HQ.out.draw hD)
    clear hD HQ y1 y9
    have HQ := HQn
    clear HQn
    go_wp2_with fail
    refine (one_any sb 60 _ HQ.out.src (by omega)).mono ?_
    rintro e W10b ⟨⟨c2, rfl⟩, hD⟩
    have HQn := Lib.hid (HQ.out.draw hD)
    clear hD HQ
    have HQ := HQn
    clear HQn
    cases c2 with
    | true =>
      obtain ⟨V, hV⟩ : ∃ V, V = W10b.alloc (.cells #[.int .i64 0, .int .i64 60, .int .i64 61] 2) := ⟨_, rfl⟩
      have HQa : Hid (PD w sb b6 fl V) := by show PD _ _ _ _ _; rw [hV]; exact HQ.out.below (bel_alloc _ _)
      have HG : Hid (V.heap[W10b.heap.size]? = some (.cells #[.int .i64 0, .int .i64 60, .int .i64 61] 2)) := by show _ = _; rw [hV]; exact blk_alloc_new _ _
      have HN : Hid (sb < W10b.heap.size) := HQ.out.src.lt
      have HE := Lib.hid hV
      clear hV HQ
      go_wp2_with fail
      rw [← HE.out]
      refine (n_any sb 3 _ HQa.out.src (by omega)).mono ?_
      rintro e W10c ⟨⟨z, rfl, z0, z1, _⟩, hD⟩
      have z2 := z1 (by omega)
      have HQ := Lib.hid (HQa.out.draw hD)
      obtain ⟨mz, hmz⟩ : ∃ m : Nat, z = (m : Int) := ⟨z.toNat, by omega⟩
      subst hmz
      have hcell : W10c.heap[W10b.heap.size]? = some (.cells #[.int .i64 0, .int .i64 60, .int .i64 61] 2) := (hD.2.2.2.2.2 _ (by rw [HE.out]; simp) (by have := HN.out; omega)).trans HG.out
      obtain ⟨N, hN9, hy0⟩ : ∃ N : Nat, N ≤ 100 ∧ W10c.cell? ⟨W10b.heap.size, mz, none⟩ = some (.int .i64 N) := by
        have : mz = 0 ∨ mz = 1 ∨ mz = 2 := by omega
        rcases this with rfl | rfl | rfl
        · exact ⟨0, by omega, by simp only [World.cell?, hcell]; rfl⟩
        · exact ⟨60, by omega, by simp only [World.cell?, hcell]; rfl⟩
        · exact ⟨61, by omega, by simp only [World.cell?, hcell]; rfl⟩
      have hmz3 : (mz : Int) < 3 := by omega
      clear hD HQa HG HN HE z1 hcell
      go_wp2_with fail
      clear hy0 hmz3 z2 z0
      refine wp_region_held_drew (S := PB w sb b6 fl) (by kernel_rfl) (HQ.out.pb.below (Below.refl _ _).drew) (fun hHeld => ?_)
      have HSRC := Lib.hid (HQ.out.src.below (Below.refl _ _).drew)
      clear HQ
      generalize W10c.drew = Wd at hHeld HSRC ⊢
      refine take_do (i := 0) (v := (flV fl)) rfl (by kernel_rfl) (by kernel_rfl) (by kernel_rfl) (fun _ _ _ h => h) (by rfl) ?_ (by assumption) ?_
      · intro w hSw
        obtain ⟨q0, q1, q2, q3⟩ := row4_cells hSw.b
        go_simp
      simp only [Act.put, List.setIfInBounds_toArray, List.set_cons_zero, List.set_cons_succ]
      refine take_do (i := 1) (v := (.pointer (some ⟨sb, 0, none⟩))) rfl (by kernel_rfl) (by kernel_rfl) (by kernel_rfl) (fun _ _ _ h => h) (by rfl) ?_ (by assumption) ?_
      · intro w hSw
        obtain ⟨q0, q1, q2, q3⟩ := row4_cells hSw.b
        go_simp
      simp only [Act.put, List.setIfInBounds_toArray, List.set_cons_zero, List.set_cons_succ]
      refine take_do (i := 2) (v := (.int .i64 ((0 : Nat) : Int))) rfl (by kernel_rfl) (by kernel_rfl) (by kernel_rfl) (fun _ _ _ h => h) (by rfl) ?_ (by assumption) ?_
      · intro w hSw
        obtain ⟨q0, q1, q2, q3⟩ := row4_cells hSw.b
        go_simp
      simp only [Act.put, List.setIfInBounds_toArray, List.set_cons_zero, List.set_cons_succ]
      refine take_do (i := 4) (v := (.pointer (some ⟨sb, 0, none⟩))) rfl (by kernel_rfl) (by kernel_rfl) (by kernel_rfl) (fun _ _ _ h => h) (by rfl) ?_ (by assumption) ?_
      · intro w hSw
        obtain ⟨q0, q1, q2, q3⟩ := row4_cells hSw.b
        go_simp
      simp only [Act.put, List.setIfInBounds_toArray, List.set_cons_zero, List.set_cons_succ]
      refine take_do (i := 5) (v := (.int .i64 N)) rfl (by kernel_rfl) (by kernel_rfl) (by kernel_rfl) (fun _ _ _ h => h) (by rfl) ?_ (by assumption) ?_
      · intro w hSw
        obtain ⟨q0, q1, q2, q3⟩ := row4_cells hSw.b
        go_simp
      simp only [Act.put, List.setIfInBounds_toArray, List.set_cons_zero, List.set_cons_succ]
      refine take_do (i := 6) (v := (.int .i64 ((0 : Nat) : Int))) rfl (by kernel_rfl) (by kernel_rfl) (by kernel_rfl) (fun _ _ _ h => h) (by rfl) ?_ (by assumption) ?_
      · intro w hSw
        obtain ⟨q0, q1, q2, q3⟩ := row4_cells hSw.b
        go_simp
      simp only [Act.put, List.setIfInBounds_toArray, List.set_cons_zero, List.set_cons_succ]
      refine take_call (i := 3) rfl (by kernel_rfl) (fun K2 hK => ?_)
      go_simp
      refine (listW_any sb 0 (by omega) 1000 (by omega) (by omega) _ HSRC.out).mono ?_
      rintro e Wl ⟨vl, rfl, zs, hzl, hil⟩
      obtain ⟨al, kl, rfl⟩ := ownShape hil.1
      have HIL := Lib.hid hil
      have HZL := Lib.hid hzl
      clear hzl
      have HLO : Hid (w.heap.size < Wd.heap.size) := hHeld.olt
      go_wp2_with fail
      refine hK.out _ _ (hHeld.draw hil.2.1) (fun hHeld2 => ?_)
      clear hK hHeld hil
      have hHeld := hHeld2
      clear hHeld2
      refine take_call (i := 7) rfl (by kernel_rfl) (fun K2 hK => ?_)
      go_simp
      refine (someD_any sb N 0 (by omega) (by omega) _ HIL.out.2.1.1).mono ?_
      rintro e Ws ⟨n, vs, cs, rfl, hn, hsl⟩
      obtain ⟨as_, ks, rfl⟩ := ownShape hsl.own
      have HSL := Lib.hid hsl
      have HNN := Lib.hid hn
      have HIL2 := Lib.hid (HIL.out.draw hsl.dr)
      have HLL : Hid (Wd.heap.size ≤ Wl.heap.size) := HIL.out.2.1.2.size
      go_wp2_with fail
      refine hK.out _ _ (hHeld.draw hsl.dr) (fun hHeld2 => ?_)
      clear hK hHeld hsl hn HIL
      have hHeld := hHeld2
      clear hHeld2
      have HOT : Hid (∃ cur, Ws.heap[w.heap.size]? = some (.cells cur 29 (0, 0))) := by obtain ⟨_, _, _, _, hr⟩ := hHeld.o'; exact rowIs_type hr
      obtain ⟨⟨r0, r1, r2, r3, o0, o1, o2, o3⟩, z0, z1, z2, z3⟩ := pd_o hHeld
      refine take_call (i := 8) rfl (by kernel_rfl) (fun K2 hK => ?_)
      obtain ⟨Z, hZ⟩ : ∃ Z, Z = (((Ws.setCell ⟨w.heap.size, 0, none⟩ (.int .i64 fl.held)).setCell ⟨w.heap.size, 1, none⟩ (.int .i64 fl.most)).setCell ⟨w.heap.size, 2, none⟩ (.int .i64 fl.catch_)).setCell ⟨w.heap.size, 3, none⟩ (.int .i64 fl.wash) := ⟨_, rfl⟩
      have zk : ∀ k, k ≠ w.heap.size → Z.heap[k]? = Ws.heap[k]? := fun k hk => by rw [hZ, Below.heap_setCell _ _ _ _ hk, Below.heap_setCell _ _ _ _ hk, Below.heap_setCell _ _ _ _ hk, Below.heap_setCell _ _ _ _ hk]
      have HZS : Hid (PB w sb b6 fl Z) := by show PB _ _ _ _ _; rw [hZ]; exact hHeld.put (.int .i64 fl.held) (.int .i64 fl.most) (.int .i64 fl.catch_) (.int .i64 fl.wash) ⟨_, rfl⟩ ⟨_, rfl⟩ ⟨_, rfl⟩ ⟨_, rfl⟩
      have HZR : Hid (Z.rowIs w.heap.size 29 4 (rowL [.int .i64 fl.held, .int .i64 fl.most, .int .i64 fl.catch_, .int .i64 fl.wash])) := by
        obtain ⟨_, _, _, _, hr⟩ := hHeld.o'
        show Z.rowIs _ _ _ _
        rw [hZ]; exact put4w hr (.int .i64 fl.held) (.int .i64 fl.most) (.int .i64 fl.catch_) (.int .i64 fl.wash)
      have hlo := HLO.out
      have hll := HLL.out
      have hzz : Z.heap.size = Ws.heap.size := by rw [hZ]; simp
      have HM : Hid (Ptq w.heap.size ⟨0, al, zs.length, kl, inList zs⟩ Z) := ((ptq_of (wt := 0) rfl HIL2.out.1).low (by omega)).keep (fun g _ h1 h2 h3 => zk g (by
        intro e
        subst e
        exact blk_ne ⟨_, h3⟩ HOT.out (by decide) rfl))
      have HA : Hid (BtsAt as_ n cs Z) := by
        rcases HSL.out.at_ with h | ⟨b, e, h⟩
        · exact Or.inl h
        · refine Or.inr ⟨b, e, fun i hi => ⟨(h i hi).1.block (zk b ?_), ?_⟩⟩
          · subst e
            have := (HSL.out.own.lt b rfl).1
            omega
          · exact ((((HSL.out.parts i hi).2.low (show w.heap.size ≤ Wl.heap.size by omega)).keep (fun g _ h1 h2 h3 => zk g (by
              intro e2
              subst e2
              exact blk_ne ⟨_, h3⟩ HOT.out (by decide) rfl))).at_)
      have HZ := Lib.hid hZ
      clear hZ zk hlo hll hzz
      go_simp
      rw [← HZ.out]
      refine hK.out _ _ HZS.out (fun hHeld2 => ?_)
      clear hK hHeld o0 o1 o2 o3 z0 z1 z2 z3 HZ
      have hHeld := hHeld2
      clear hHeld2
      refine take_do (i := 9) (v := (.slice al zs.length kl)) rfl (by kernel_rfl) (by kernel_rfl) (by kernel_rfl) (fun _ _ _ h => h) (by rfl) ?_ (by assumption) ?_
      · intro w hSw
        skip
        go_simp
      simp only [Act.put, List.setIfInBounds_toArray, List.set_cons_zero, List.set_cons_succ]
      refine take_do (i := 10) (v := (.slice as_ n ks)) rfl (by kernel_rfl) (by kernel_rfl) (by kernel_rfl) (fun _ _ _ h => h) (by rfl) ?_ (by assumption) ?_
      · intro w hSw
        skip
        go_simp
      simp only [Act.put, List.setIfInBounds_toArray, List.set_cons_zero, List.set_cons_succ]
      refine wpAnyH_done (by kernel_rfl) ?_ _
      have HOLD := Lib.hid hHeld.old
      clear hHeld HZS
      obtain ⟨e0, e1, e2, e3⟩ := row4_cells HZR.out
      go_wp2_with fail
      exact bodyPost_ret (v := .tuple #[flV fl, .slice al zs.length kl, .slice as_ n ks]) (by simp only [results, Tryd.results18]; simp [go_sem, e0, e1, e2, e3]) rfl ⟨⟨fl, al, zs.length, kl, inList zs, as_, n, ks, cs, rfl, by have := HZL.out; omega, HNN.out, HM.out, HA.out, fun i hi => (HSL.out.parts i hi).1⟩, HOLD.out⟩
    | false =>
      obtain ⟨N, hN⟩ : ∃ N : Nat, 1 + y = (N : Int) := ⟨(1 + y).toNat, by omega⟩
      have hN9 : N ≤ 100 := by omega
      have HNE := Lib.hid hN
      clear hN
      go_wp2_with fail
      rw [HNE.out]
      refine wp_region_held_drew (S := PB w sb b6 fl) (by kernel_rfl) (HQ.out.pb.below (Below.refl _ _).drew) (fun hHeld => ?_)
      have HSRC := Lib.hid (HQ.out.src.below (Below.refl _ _).drew)
      clear HQ
      generalize W10b.drew = Wd at hHeld HSRC ⊢
      refine take_do (i := 0) (v := (flV fl)) rfl (by kernel_rfl) (by kernel_rfl) (by kernel_rfl) (fun _ _ _ h => h) (by rfl) ?_ (by assumption) ?_
      · intro w hSw
        obtain ⟨q0, q1, q2, q3⟩ := row4_cells hSw.b
        go_simp
      simp only [Act.put, List.setIfInBounds_toArray, List.set_cons_zero, List.set_cons_succ]
      refine take_do (i := 1) (v := (.pointer (some ⟨sb, 0, none⟩))) rfl (by kernel_rfl) (by kernel_rfl) (by kernel_rfl) (fun _ _ _ h => h) (by rfl) ?_ (by assumption) ?_
      · intro w hSw
        obtain ⟨q0, q1, q2, q3⟩ := row4_cells hSw.b
        go_simp
      simp only [Act.put, List.setIfInBounds_toArray, List.set_cons_zero, List.set_cons_succ]
      refine take_do (i := 2) (v := (.int .i64 ((0 : Nat) : Int))) rfl (by kernel_rfl) (by kernel_rfl) (by kernel_rfl) (fun _ _ _ h => h) (by rfl) ?_ (by assumption) ?_
      · intro w hSw
        obtain ⟨q0, q1, q2, q3⟩ := row4_cells hSw.b
        go_simp
      simp only [Act.put, List.setIfInBounds_toArray, List.set_cons_zero, List.set_cons_succ]
      refine take_do (i := 4) (v := (.pointer (some ⟨sb, 0, none⟩))) rfl (by kernel_rfl) (by kernel_rfl) (by kernel_rfl) (fun _ _ _ h => h) (by rfl) ?_ (by assumption) ?_
      · intro w hSw
        obtain ⟨q0, q1, q2, q3⟩ := row4_cells hSw.b
        go_simp
      simp only [Act.put, List.setIfInBounds_toArray, List.set_cons_zero, List.set_cons_succ]
      refine take_do (i := 5) (v := (.int .i64 N)) rfl (by kernel_rfl) (by kernel_rfl) (by kernel_rfl) (fun _ _ _ h => h) (by rfl) ?_ (by assumption) ?_
      · intro w hSw
        obtain ⟨q0, q1, q2, q3⟩ := row4_cells hSw.b
        go_simp
      simp only [Act.put, List.setIfInBounds_toArray, List.set_cons_zero, List.set_cons_succ]
      refine take_do (i := 6) (v := (.int .i64 ((0 : Nat) : Int))) rfl (by kernel_rfl) (by kernel_rfl) (by kernel_rfl) (fun _ _ _ h => h) (by rfl) ?_ (by assumption) ?_
      · intro w hSw
        obtain ⟨q0, q1, q2, q3⟩ := row4_cells hSw.b
        go_simp
      simp only [Act.put, List.setIfInBounds_toArray, List.set_cons_zero, List.set_cons_succ]
      refine take_call (i := 3) rfl (by kernel_rfl) (fun K2 hK => ?_)
      go_simp
      refine (listW_any sb 0 (by omega) 1000 (by omega) (by omega) _ HSRC.out).mono ?_
      rintro e Wl ⟨vl, rfl, zs, hzl, hil⟩
      obtain ⟨al, kl, rfl⟩ := ownShape hil.1
      have HIL := Lib.hid hil
      have HZL := Lib.hid hzl
      clear hzl
      have HLO : Hid (w.heap.size < Wd.heap.size) := hHeld.olt
      go_wp2_with fail
      refine hK.out _ _ (hHeld.draw hil.2.1) (fun hHeld2 => ?_)
      clear hK hHeld hil
      have hHeld := hHeld2
      clear hHeld2
      refine take_call (i := 7) rfl (by kernel_rfl) (fun K2 hK => ?_)
      go_simp
      refine (someD_any sb N 0 (by omega) (by omega) _ HIL.out.2.1.1).mono ?_
      rintro e Ws ⟨n, vs, cs, rfl, hn, hsl⟩
      obtain ⟨as_, ks, rfl⟩ := ownShape hsl.own
      have HSL := Lib.hid hsl
      have HNN := Lib.hid hn
      have HIL2 := Lib.hid (HIL.out.draw hsl.dr)
      have HLL : Hid (Wd.heap.size ≤ Wl.heap.size) := HIL.out.2.1.2.size
      go_wp2_with fail
      refine hK.out _ _ (hHeld.draw hsl.dr) (fun hHeld2 => ?_)
      clear hK hHeld hsl hn HIL
      have hHeld := hHeld2
      clear hHeld2
      have HOT : Hid (∃ cur, Ws.heap[w.heap.size]? = some (.cells cur 29 (0, 0))) := by obtain ⟨_, _, _, _, hr⟩ := hHeld.o'; exact rowIs_type hr
      obtain ⟨⟨r0, r1, r2, r3, o0, o1, o2, o3⟩, z0, z1, z2, z3⟩ := pd_o hHeld
      refine take_call (i := 8) rfl (by kernel_rfl) (fun K2 hK => ?_)
      obtain ⟨Z, hZ⟩ : ∃ Z, Z = (((Ws.setCell ⟨w.heap.size, 0, none⟩ (.int .i64 fl.held)).setCell ⟨w.heap.size, 1, none⟩ (.int .i64 fl.most)).setCell ⟨w.heap.size, 2, none⟩ (.int .i64 fl.catch_)).setCell ⟨w.heap.size, 3, none⟩ (.int .i64 fl.wash) := ⟨_, rfl⟩
      have zk : ∀ k, k ≠ w.heap.size → Z.heap[k]? = Ws.heap[k]? := fun k hk => by rw [hZ, Below.heap_setCell _ _ _ _ hk, Below.heap_setCell _ _ _ _ hk, Below.heap_setCell _ _ _ _ hk, Below.heap_setCell _ _ _ _ hk]
      have HZS : Hid (PB w sb b6 fl Z) := by show PB _ _ _ _ _; rw [hZ]; exact hHeld.put (.int .i64 fl.held) (.int .i64 fl.most) (.int .i64 fl.catch_) (.int .i64 fl.wash) ⟨_, rfl⟩ ⟨_, rfl⟩ ⟨_, rfl⟩ ⟨_, rfl⟩
      have HZR : Hid (Z.rowIs w.heap.size 29 4 (rowL [.int .i64 fl.held, .int .i64 fl.most, .int .i64 fl.catch_, .int .i64 fl.wash])) := by
        obtain ⟨_, _, _, _, hr⟩ := hHeld.o'
        show Z.rowIs _ _ _ _
        rw [hZ]; exact put4w hr (.int .i64 fl.held) (.int .i64 fl.most) (.int .i64 fl.catch_) (.int .i64 fl.wash)
      have hlo := HLO.out
      have hll := HLL.out
      have hzz : Z.heap.size = Ws.heap.size := by rw [hZ]; simp
      have HM : Hid (Ptq w.heap.size ⟨0, al, zs.length, kl, inList zs⟩ Z) := ((ptq_of (wt := 0) rfl HIL2.out.1).low (by omega)).keep (fun g _ h1 h2 h3 => zk g (by
        intro e
        subst e
        exact blk_ne ⟨_, h3⟩ HOT.out (by decide) rfl))
      have HA : Hid (BtsAt as_ n cs Z) := by
        rcases HSL.out.at_ with h | ⟨b, e, h⟩
        · exact Or.inl h
        · refine Or.inr ⟨b, e, fun i hi => ⟨(h i hi).1.block (zk b ?_), ?_⟩⟩
          · subst e
            have := (HSL.out.own.lt b rfl).1
            omega
          · exact ((((HSL.out.parts i hi).2.low (show w.heap.size ≤ Wl.heap.size by omega)).keep (fun g _ h1 h2 h3 => zk g (by
              intro e2
              subst e2
              exact blk_ne ⟨_, h3⟩ HOT.out (by decide) rfl))).at_)
      have HZ := Lib.hid hZ
      clear hZ zk hlo hll hzz
      go_simp
      rw [← HZ.out]
      refine hK.out _ _ HZS.out (fun hHeld2 => ?_)
      clear hK hHeld o0 o1 o2 o3 z0 z1 z2 z3 HZ
      have hHeld := hHeld2
      clear hHeld2
      refine take_do (i := 9) (v := (.slice al zs.length kl)) rfl (by kernel_rfl) (by kernel_rfl) (by kernel_rfl) (fun _ _ _ h => h) (by rfl) ?_ (by assumption) ?_
      · intro w hSw
        skip
        go_simp
      simp only [Act.put, List.setIfInBounds_toArray, List.set_cons_zero, List.set_cons_succ]
      refine take_do (i := 10) (v := (.slice as_ n ks)) rfl (by kernel_rfl) (by kernel_rfl) (by kernel_rfl) (fun _ _ _ h => h) (by rfl) ?_ (by assumption) ?_
      · intro w hSw
        skip
        go_simp
      simp only [Act.put, List.setIfInBounds_toArray, List.set_cons_zero, List.set_cons_succ]
      refine wpAnyH_done (by kernel_rfl) ?_ _
      have HOLD := Lib.hid hHeld.old
      clear hHeld HZS
      obtain ⟨e0, e1, e2, e3⟩ := row4_cells HZR.out
      go_wp2_with fail
      exact bodyPost_ret (v := .tuple #[flV fl, .slice al zs.length kl, .slice as_ n ks]) (by simp only [results, Tryd.results18]; simp [go_sem, e0, e1, e2, e3]) rfl ⟨⟨fl, al, zs.length, kl, inList zs, as_, n, ks, cs, rfl, by have := HZL.out; omega, HNN.out, HM.out, HA.out, fun i hi => (HSL.out.parts i hi).1⟩, HOLD.out⟩
  | false =>
    rw [HPE.out]
    obtain ⟨sa, slen, scap, sat, smix, ssize, ⟨sc0, sc1, sc2, sc3, sc4, sc5, sc6, sc7⟩, _, _, _, ss0, ss1, _⟩ := HQ.out.src
    go_wp2_with fail
    clear sc0 sc1 sc2 sc3 sc4 sc5 sc6 sc7
    refine (n_any sb (4 + ssize) _ HQ.out.src (by omega)).mono ?_
    rintro e W20a ⟨⟨y, rfl, y0, y1, y9⟩, hD⟩
    have hy : 0 ≤ y ∧ y ≤ 16 := by
      refine ⟨y0, ?_⟩
      by_cases h : 1 < 4 + ssize
      · have := y1 h; omega
      · omega
    have HQn := Lib.hid (HQ.out.draw hD)
    clear hD HQ y1 y9
    have HQ := HQn
    clear HQn
    go_wp2_with fail
    refine (one_any sb 60 _ HQ.out.src (by omega)).mono ?_
    rintro e W20b ⟨⟨c2, rfl⟩, hD⟩
    have HQn := Lib.hid (HQ.out.draw hD)
    clear hD HQ
    have HQ := HQn
    clear HQn
    cases c2 with
    | true =>
      obtain ⟨V, hV⟩ : ∃ V, V = W20b.alloc (.cells #[.int .i64 0, .int .i64 60, .int .i64 61] 2) := ⟨_, rfl⟩
      have HQa : Hid (PD w sb b6 fl V) := by show PD _ _ _ _ _; rw [hV]; exact HQ.out.below (bel_alloc _ _)
      have HG : Hid (V.heap[W20b.heap.size]? = some (.cells #[.int .i64 0, .int .i64 60, .int .i64 61] 2)) := by show _ = _; rw [hV]; exact blk_alloc_new _ _
      have HN : Hid (sb < W20b.heap.size) := HQ.out.src.lt
      have HE := Lib.hid hV
      clear hV HQ
      go_wp2_with fail
      rw [← HE.out]
      refine (n_any sb 3 _ HQa.out.src (by omega)).mono ?_
      rintro e W20c ⟨⟨z, rfl, z0, z1, _⟩, hD⟩
      have z2 := z1 (by omega)
      have HQ := Lib.hid (HQa.out.draw hD)
      obtain ⟨mz, hmz⟩ : ∃ m : Nat, z = (m : Int) := ⟨z.toNat, by omega⟩
      subst hmz
      have hcell : W20c.heap[W20b.heap.size]? = some (.cells #[.int .i64 0, .int .i64 60, .int .i64 61] 2) := (hD.2.2.2.2.2 _ (by rw [HE.out]; simp) (by have := HN.out; omega)).trans HG.out
      obtain ⟨N, hN9, hy0⟩ : ∃ N : Nat, N ≤ 100 ∧ W20c.cell? ⟨W20b.heap.size, mz, none⟩ = some (.int .i64 N) := by
        have : mz = 0 ∨ mz = 1 ∨ mz = 2 := by omega
        rcases this with rfl | rfl | rfl
        · exact ⟨0, by omega, by simp only [World.cell?, hcell]; rfl⟩
        · exact ⟨60, by omega, by simp only [World.cell?, hcell]; rfl⟩
        · exact ⟨61, by omega, by simp only [World.cell?, hcell]; rfl⟩
      have hmz3 : (mz : Int) < 3 := by omega
      clear hD HQa HG HN HE z1 hcell
      go_wp2_with fail
      clear hy0 hmz3 z2 z0
      refine wp_region_held_drew (S := PB w sb b6 fl) (by kernel_rfl) (HQ.out.pb.below (Below.refl _ _).drew) (fun hHeld => ?_)
      have HSRC := Lib.hid (HQ.out.src.below (Below.refl _ _).drew)
      clear HQ
      generalize W20c.drew = Wd at hHeld HSRC ⊢
      refine take_do (i := 0) (v := (flV fl)) rfl (by kernel_rfl) (by kernel_rfl) (by kernel_rfl) (fun _ _ _ h => h) (by rfl) ?_ (by assumption) ?_
      · intro w hSw
        obtain ⟨q0, q1, q2, q3⟩ := row4_cells hSw.b
        go_simp
      simp only [Act.put, List.setIfInBounds_toArray, List.set_cons_zero, List.set_cons_succ]
      refine take_do (i := 1) (v := (.pointer (some ⟨sb, 0, none⟩))) rfl (by kernel_rfl) (by kernel_rfl) (by kernel_rfl) (fun _ _ _ h => h) (by rfl) ?_ (by assumption) ?_
      · intro w hSw
        obtain ⟨q0, q1, q2, q3⟩ := row4_cells hSw.b
        go_simp
      simp only [Act.put, List.setIfInBounds_toArray, List.set_cons_zero, List.set_cons_succ]
      refine take_do (i := 2) (v := (.int .i64 P)) rfl (by kernel_rfl) (by kernel_rfl) (by kernel_rfl) (fun _ _ _ h => h) (by rfl) ?_ (by assumption) ?_
      · intro w hSw
        obtain ⟨q0, q1, q2, q3⟩ := row4_cells hSw.b
        go_simp
      simp only [Act.put, List.setIfInBounds_toArray, List.set_cons_zero, List.set_cons_succ]
      refine take_do (i := 4) (v := (.pointer (some ⟨sb, 0, none⟩))) rfl (by kernel_rfl) (by kernel_rfl) (by kernel_rfl) (fun _ _ _ h => h) (by rfl) ?_ (by assumption) ?_
      · intro w hSw
        obtain ⟨q0, q1, q2, q3⟩ := row4_cells hSw.b
        go_simp
      simp only [Act.put, List.setIfInBounds_toArray, List.set_cons_zero, List.set_cons_succ]
      refine take_do (i := 5) (v := (.int .i64 N)) rfl (by kernel_rfl) (by kernel_rfl) (by kernel_rfl) (fun _ _ _ h => h) (by rfl) ?_ (by assumption) ?_
      · intro w hSw
        obtain ⟨q0, q1, q2, q3⟩ := row4_cells hSw.b
        go_simp
      simp only [Act.put, List.setIfInBounds_toArray, List.set_cons_zero, List.set_cons_succ]
      refine take_do (i := 6) (v := (.int .i64 P)) rfl (by kernel_rfl) (by kernel_rfl) (by kernel_rfl) (fun _ _ _ h => h) (by rfl) ?_ (by assumption) ?_
      · intro w hSw
        obtain ⟨q0, q1, q2, q3⟩ := row4_cells hSw.b
        go_simp
      simp only [Act.put, List.setIfInBounds_toArray, List.set_cons_zero, List.set_cons_succ]
      refine take_call (i := 3) rfl (by kernel_rfl) (fun K2 hK => ?_)
      go_simp
      refine (listW_any sb P (by omega) 1000 (by omega) (by omega) _ HSRC.out).mono ?_
      rintro e Wl ⟨vl, rfl, zs, hzl, hil⟩
      obtain ⟨al, kl, rfl⟩ := ownShape hil.1
      have HIL := Lib.hid hil
      have HZL := Lib.hid hzl
      clear hzl
      have HLO : Hid (w.heap.size < Wd.heap.size) := hHeld.olt
      go_wp2_with fail
      refine hK.out _ _ (hHeld.draw hil.2.1) (fun hHeld2 => ?_)
      clear hK hHeld hil
      have hHeld := hHeld2
      clear hHeld2
      refine take_call (i := 7) rfl (by kernel_rfl) (fun K2 hK => ?_)
      go_simp
      refine (someD_any sb N P (by omega) (by omega) _ HIL.out.2.1.1).mono ?_
      rintro e Ws ⟨n, vs, cs, rfl, hn, hsl⟩
      obtain ⟨as_, ks, rfl⟩ := ownShape hsl.own
      have HSL := Lib.hid hsl
      have HNN := Lib.hid hn
      have HIL2 := Lib.hid (HIL.out.draw hsl.dr)
      have HLL : Hid (Wd.heap.size ≤ Wl.heap.size) := HIL.out.2.1.2.size
      go_wp2_with fail
      refine hK.out _ _ (hHeld.draw hsl.dr) (fun hHeld2 => ?_)
      clear hK hHeld hsl hn HIL
      have hHeld := hHeld2
      clear hHeld2
      have HOT : Hid (∃ cur, Ws.heap[w.heap.size]? = some (.cells cur 29 (0, 0))) := by obtain ⟨_, _, _, _, hr⟩ := hHeld.o'; exact rowIs_type hr
      obtain ⟨⟨r0, r1, r2, r3, o0, o1, o2, o3⟩, z0, z1, z2, z3⟩ := pd_o hHeld
      refine take_call (i := 8) rfl (by kernel_rfl) (fun K2 hK => ?_)
      obtain ⟨Z, hZ⟩ : ∃ Z, Z = (((Ws.setCell ⟨w.heap.size, 0, none⟩ (.int .i64 fl.held)).setCell ⟨w.heap.size, 1, none⟩ (.int .i64 fl.most)).setCell ⟨w.heap.size, 2, none⟩ (.int .i64 fl.catch_)).setCell ⟨w.heap.size, 3, none⟩ (.int .i64 fl.wash) := ⟨_, rfl⟩
      have zk : ∀ k, k ≠ w.heap.size → Z.heap[k]? = Ws.heap[k]? := fun k hk => by rw [hZ, Below.heap_setCell _ _ _ _ hk, Below.heap_setCell _ _ _ _ hk, Below.heap_setCell _ _ _ _ hk, Below.heap_setCell _ _ _ _ hk]
      have HZS : Hid (PB w sb b6 fl Z) := by show PB _ _ _ _ _; rw [hZ]; exact hHeld.put (.int .i64 fl.held) (.int .i64 fl.most) (.int .i64 fl.catch_) (.int .i64 fl.wash) ⟨_, rfl⟩ ⟨_, rfl⟩ ⟨_, rfl⟩ ⟨_, rfl⟩
      have HZR : Hid (Z.rowIs w.heap.size 29 4 (rowL [.int .i64 fl.held, .int .i64 fl.most, .int .i64 fl.catch_, .int .i64 fl.wash])) := by
        obtain ⟨_, _, _, _, hr⟩ := hHeld.o'
        show Z.rowIs _ _ _ _
        rw [hZ]; exact put4w hr (.int .i64 fl.held) (.int .i64 fl.most) (.int .i64 fl.catch_) (.int .i64 fl.wash)
      have hlo := HLO.out
      have hll := HLL.out
      have hzz : Z.heap.size = Ws.heap.size := by rw [hZ]; simp
      have HM : Hid (Ptq w.heap.size ⟨0, al, zs.length, kl, inList zs⟩ Z) := ((ptq_of (wt := 0) rfl HIL2.out.1).low (by omega)).keep (fun g _ h1 h2 h3 => zk g (by
        intro e
        subst e
        exact blk_ne ⟨_, h3⟩ HOT.out (by decide) rfl))
      have HA : Hid (BtsAt as_ n cs Z) := by
        rcases HSL.out.at_ with h | ⟨b, e, h⟩
        · exact Or.inl h
        · refine Or.inr ⟨b, e, fun i hi => ⟨(h i hi).1.block (zk b ?_), ?_⟩⟩
          · subst e
            have := (HSL.out.own.lt b rfl).1
            omega
          · exact ((((HSL.out.parts i hi).2.low (show w.heap.size ≤ Wl.heap.size by omega)).keep (fun g _ h1 h2 h3 => zk g (by
              intro e2
              subst e2
              exact blk_ne ⟨_, h3⟩ HOT.out (by decide) rfl))).at_)
      have HZ := Lib.hid hZ
      clear hZ zk hlo hll hzz
      go_simp
      rw [← HZ.out]
      refine hK.out _ _ HZS.out (fun hHeld2 => ?_)
      clear hK hHeld o0 o1 o2 o3 z0 z1 z2 z3 HZ
      have hHeld := hHeld2
      clear hHeld2
      refine take_do (i := 9) (v := (.slice al zs.length kl)) rfl (by kernel_rfl) (by kernel_rfl) (by kernel_rfl) (fun _ _ _ h => h) (by rfl) ?_ (by assumption) ?_
      · intro w hSw
        skip
        go_simp
      simp only [Act.put, List.setIfInBounds_toArray, List.set_cons_zero, List.set_cons_succ]
      refine take_do (i := 10) (v := (.slice as_ n ks)) rfl (by kernel_rfl) (by kernel_rfl) (by kernel_rfl) (fun _ _ _ h => h) (by rfl) ?_ (by assumption) ?_
      · intro w hSw
        skip
        go_simp
      simp only [Act.put, List.setIfInBounds_toArray, List.set_cons_zero, List.set_cons_succ]
      refine wpAnyH_done (by kernel_rfl) ?_ _
      have HOLD := Lib.hid hHeld.old
      clear hHeld HZS
      obtain ⟨e0, e1, e2, e3⟩ := row4_cells HZR.out
      go_wp2_with fail
      exact bodyPost_ret (v := .tuple #[flV fl, .slice al zs.length kl, .slice as_ n ks]) (by simp only [results, Tryd.results18]; simp [go_sem, e0, e1, e2, e3]) rfl ⟨⟨fl, al, zs.length, kl, inList zs, as_, n, ks, cs, rfl, by have := HZL.out; omega, HNN.out, HM.out, HA.out, fun i hi => (HSL.out.parts i hi).1⟩, HOLD.out⟩
    | false =>
      obtain ⟨N, hN⟩ : ∃ N : Nat, 1 + y = (N : Int) := ⟨(1 + y).toNat, by omega⟩
      have hN9 : N ≤ 100 := by omega
      have HNE := Lib.hid hN
      clear hN
      go_wp2_with fail
      rw [HNE.out]
      refine wp_region_held_drew (S := PB w sb b6 fl) (by kernel_rfl) (HQ.out.pb.below (Below.refl _ _).drew) (fun hHeld => ?_)
      have HSRC := Lib.hid (HQ.out.src.below (Below.refl _ _).drew)
      clear HQ
      generalize W20b.drew = Wd at hHeld HSRC ⊢
      refine take_do (i := 0) (v := (flV fl)) rfl (by kernel_rfl) (by kernel_rfl) (by kernel_rfl) (fun _ _ _ h => h) (by rfl) ?_ (by assumption) ?_
      · intro w hSw
        obtain ⟨q0, q1, q2, q3⟩ := row4_cells hSw.b
        go_simp
      simp only [Act.put, List.setIfInBounds_toArray, List.set_cons_zero, List.set_cons_succ]
      refine take_do (i := 1) (v := (.pointer (some ⟨sb, 0, none⟩))) rfl (by kernel_rfl) (by kernel_rfl) (by kernel_rfl) (fun _ _ _ h => h) (by rfl) ?_ (by assumption) ?_
      · intro w hSw
        obtain ⟨q0, q1, q2, q3⟩ := row4_cells hSw.b
        go_simp
      simp only [Act.put, List.setIfInBounds_toArray, List.set_cons_zero, List.set_cons_succ]
      refine take_do (i := 2) (v := (.int .i64 P)) rfl (by kernel_rfl) (by kernel_rfl) (by kernel_rfl) (fun _ _ _ h => h) (by rfl) ?_ (by assumption) ?_
      · intro w hSw
        obtain ⟨q0, q1, q2, q3⟩ := row4_cells hSw.b
        go_simp
      simp only [Act.put, List.setIfInBounds_toArray, List.set_cons_zero, List.set_cons_succ]
      refine take_do (i := 4) (v := (.pointer (some ⟨sb, 0, none⟩))) rfl (by kernel_rfl) (by kernel_rfl) (by kernel_rfl) (fun _ _ _ h => h) (by rfl) ?_ (by assumption) ?_
      · intro w hSw
        obtain ⟨q0, q1, q2, q3⟩ := row4_cells hSw.b
        go_simp
      simp only [Act.put, List.setIfInBounds_toArray, List.set_cons_zero, List.set_cons_succ]
      refine take_do (i := 5) (v := (.int .i64 N)) rfl (by kernel_rfl) (by kernel_rfl) (by kernel_rfl) (fun _ _ _ h => h) (by rfl) ?_ (by assumption) ?_
      · intro w hSw
        obtain ⟨q0, q1, q2, q3⟩ := row4_cells hSw.b
        go_simp
      simp only [Act.put, List.setIfInBounds_toArray, List.set_cons_zero, List.set_cons_succ]
      refine take_do (i := 6) (v := (.int .i64 P)) rfl (by kernel_rfl) (by kernel_rfl) (by kernel_rfl) (fun _ _ _ h => h) (by rfl) ?_ (by assumption) ?_
      · intro w hSw
        obtain ⟨q0, q1, q2, q3⟩ := row4_cells hSw.b
        go_simp
      simp only [Act.put, List.setIfInBounds_toArray, List.set_cons_zero, List.set_cons_succ]
      refine take_call (i := 3) rfl (by kernel_rfl) (fun K2 hK => ?_)
      go_simp
      refine (listW_any sb P (by omega) 1000 (by omega) (by omega) _ HSRC.out).mono ?_
      rintro e Wl ⟨vl, rfl, zs, hzl, hil⟩
      obtain ⟨al, kl, rfl⟩ := ownShape hil.1
      have HIL := Lib.hid hil
      have HZL := Lib.hid hzl
      clear hzl
      have HLO : Hid (w.heap.size < Wd.heap.size) := hHeld.olt
      go_wp2_with fail
      refine hK.out _ _ (hHeld.draw hil.2.1) (fun hHeld2 => ?_)
      clear hK hHeld hil
      have hHeld := hHeld2
      clear hHeld2
      refine take_call (i := 7) rfl (by kernel_rfl) (fun K2 hK => ?_)
      go_simp
      refine (someD_any sb N P (by omega) (by omega) _ HIL.out.2.1.1).mono ?_
      rintro e Ws ⟨n, vs, cs, rfl, hn, hsl⟩
      obtain ⟨as_, ks, rfl⟩ := ownShape hsl.own
      have HSL := Lib.hid hsl
      have HNN := Lib.hid hn
      have HIL2 := Lib.hid (HIL.out.draw hsl.dr)
      have HLL : Hid (Wd.heap.size ≤ Wl.heap.size) := HIL.out.2.1.2.size
      go_wp2_with fail
      refine hK.out _ _ (hHeld.draw hsl.dr) (fun hHeld2 => ?_)
      clear hK hHeld hsl hn HIL
      have hHeld := hHeld2
      clear hHeld2
      have HOT : Hid (∃ cur, Ws.heap[w.heap.size]? = some (.cells cur 29 (0, 0))) := by obtain ⟨_, _, _, _, hr⟩ := hHeld.o'; exact rowIs_type hr
      obtain ⟨⟨r0, r1, r2, r3, o0, o1, o2, o3⟩, z0, z1, z2, z3⟩ := pd_o hHeld
      refine take_call (i := 8) rfl (by kernel_rfl) (fun K2 hK => ?_)
      obtain ⟨Z, hZ⟩ : ∃ Z, Z = (((Ws.setCell ⟨w.heap.size, 0, none⟩ (.int .i64 fl.held)).setCell ⟨w.heap.size, 1, none⟩ (.int .i64 fl.most)).setCell ⟨w.heap.size, 2, none⟩ (.int .i64 fl.catch_)).setCell ⟨w.heap.size, 3, none⟩ (.int .i64 fl.wash) := ⟨_, rfl⟩
      have zk : ∀ k, k ≠ w.heap.size → Z.heap[k]? = Ws.heap[k]? := fun k hk => by rw [hZ, Below.heap_setCell _ _ _ _ hk, Below.heap_setCell _ _ _ _ hk, Below.heap_setCell _ _ _ _ hk, Below.heap_setCell _ _ _ _ hk]
      have HZS : Hid (PB w sb b6 fl Z) := by show PB _ _ _ _ _; rw [hZ]; exact hHeld.put (.int .i64 fl.held) (.int .i64 fl.most) (.int .i64 fl.catch_) (.int .i64 fl.wash) ⟨_, rfl⟩ ⟨_, rfl⟩ ⟨_, rfl⟩ ⟨_, rfl⟩
      have HZR : Hid (Z.rowIs w.heap.size 29 4 (rowL [.int .i64 fl.held, .int .i64 fl.most, .int .i64 fl.catch_, .int .i64 fl.wash])) := by
        obtain ⟨_, _, _, _, hr⟩ := hHeld.o'
        show Z.rowIs _ _ _ _
        rw [hZ]; exact put4w hr (.int .i64 fl.held) (.int .i64 fl.most) (.int .i64 fl.catch_) (.int .i64 fl.wash)
      have hlo := HLO.out
      have hll := HLL.out
      have hzz : Z.heap.size = Ws.heap.size := by rw [hZ]; simp
      have HM : Hid (Ptq w.heap.size ⟨0, al, zs.length, kl, inList zs⟩ Z) := ((ptq_of (wt := 0) rfl HIL2.out.1).low (by omega)).keep (fun g _ h1 h2 h3 => zk g (by
        intro e
        subst e
        exact blk_ne ⟨_, h3⟩ HOT.out (by decide) rfl))
      have HA : Hid (BtsAt as_ n cs Z) := by
        rcases HSL.out.at_ with h | ⟨b, e, h⟩
        · exact Or.inl h
        · refine Or.inr ⟨b, e, fun i hi => ⟨(h i hi).1.block (zk b ?_), ?_⟩⟩
          · subst e
            have := (HSL.out.own.lt b rfl).1
            omega
          · exact ((((HSL.out.parts i hi).2.low (show w.heap.size ≤ Wl.heap.size by omega)).keep (fun g _ h1 h2 h3 => zk g (by
              intro e2
              subst e2
              exact blk_ne ⟨_, h3⟩ HOT.out (by decide) rfl))).at_)
      have HZ := Lib.hid hZ
      clear hZ zk hlo hll hzz
      go_simp
      rw [← HZ.out]
      refine hK.out _ _ HZS.out (fun hHeld2 => ?_)
      clear hK hHeld o0 o1 o2 o3 z0 z1 z2 z3 HZ
      have hHeld := hHeld2
      clear hHeld2
      refine take_do (i := 9) (v := (.slice al zs.length kl)) rfl (by kernel_rfl) (by kernel_rfl) (by kernel_rfl) (fun _ _ _ h => h) (by rfl) ?_ (by assumption) ?_
      · intro w hSw
        skip
        go_simp
      simp only [Act.put, List.setIfInBounds_toArray, List.set_cons_zero, List.set_cons_succ]
      refine take_do (i := 10) (v := (.slice as_ n ks)) rfl (by kernel_rfl) (by kernel_rfl) (by kernel_rfl) (fun _ _ _ h => h) (by rfl) ?_ (by assumption) ?_
      · intro w hSw
        skip
        go_simp
      simp only [Act.put, List.setIfInBounds_toArray, List.set_cons_zero, List.set_cons_succ]
      refine wpAnyH_done (by kernel_rfl) ?_ _
      have HOLD := Lib.hid hHeld.old
      clear hHeld HZS
      obtain ⟨e0, e1, e2, e3⟩ := row4_cells HZR.out
      go_wp2_with fail
      exact bodyPost_ret (v := .tuple #[flV fl, .slice al zs.length kl, .slice as_ n ks]) (by simp only [results, Tryd.results18]; simp [go_sem, e0, e1, e2, e3]) rfl ⟨⟨fl, al, zs.length, kl, inList zs, as_, n, ks, cs, rfl, by have := HZL.out; omega, HNN.out, HM.out, HA.out, fun i hi => (HSL.out.parts i hi).1⟩, HOLD.out⟩
end Go.Proofs.YtcjeieagpcphjaaDoor
namespace Go.Proofs.YtcjeieagpcphjaaDoor
open Go.RowKit Go.Deep

abbrev ppO (P : Wk.PO) (ax : Option Addr) (kx : Nat) (ay : Option Addr) (ky : Nat) : Obj := .cells #[.int .i64 P.clean.wt, .slice ax P.clean.n kx, .int .i64 P.waste.wt, .slice ay P.waste.n ky, .int .i64 P.fl.held, .int .i64 P.fl.most, .int .i64 P.fl.catch_, .int .i64 P.fl.wash, .int .i64 P.washes, .int .i64 P.c] 31
theorem po_row (w : World) (A : Wk.PO) (ax : Option Addr) (kx : Nat) (ay : Option Addr) (ky : Nat) : (w.alloc (ppO A ax kx ay ky)).rowIs w.heap.size 31 10 (rowL (ppL A ax kx ay ky)) := rowL_alloc w (ppL A ax kx ay ky) 31
theorem Wk.plant_n (m : Nat) (mi : Nat → Int) (bs : Nat → Wk.Bt) (f : Wk.Fl) (k : Nat) : (Wk.plant m mi bs f k).clean.n ≤ 6 ∧ (Wk.plant m mi bs f k).waste.n ≤ 6 := by
  unfold Wk.plant
  split
  · simp [Wk.badP, Wk.nil]
  · split
    · split
      · split
        · exact ⟨(Wk.mix_n _ _).1, (Wk.mix_n _ _).1⟩
        · simp [Wk.badP, Wk.nil]
      · simp [Wk.badP, Wk.nil]
    · simp [Wk.badP, Wk.nil]
set_option maxRecDepth 100000 in
set_option maxHeartbeats 4000000 in
theorem eqPo_same (A : Wk.PO) (ax ay bx by_ : Option Addr) (kx ky jx jy : Nat) (w : World) (h1 : IntsAt ax A.clean.n A.clean.f w) (h2 : IntsAt ay A.waste.n A.waste.f w) (h3 : IntsAt bx A.clean.n A.clean.f w) (h4 : IntsAt by_ A.waste.n A.waste.f w) (hx : A.clean.n ≤ 1048576) (hy : A.waste.n ≤ 1048576) :
    Calls Tryd.prog 11 #[ppV A ax kx ay ky, ppV A bx jx by_ jy] w fun e w' => e = .returned (.bool true) ∧ Below w.heap.size w w' := by
  obtain ⟨W, hW⟩ : ∃ W, W = (w.alloc (ppO A ax kx ay ky)).alloc (ppO A bx jx by_ jy) := ⟨_, rfl⟩
  have hB : Below w.heap.size w W := by rw [hW]; exact ((Below.refl _ _).alloc (Nat.le_refl _) _).alloc (by simp) _
  have RX : W.rowIs w.heap.size 31 10 (rowL (ppL A ax kx ay ky)) := by rw [hW]; exact wrow_below (po_row w A ax kx ay ky) (bel_alloc _ _)
  have RY : W.rowIs (w.heap.size + 1) 31 10 (rowL (ppL A bx jx by_ jy)) := by
    rw [hW]
    have := po_row (w.alloc (ppO A ax kx ay ky)) A bx jx by_ jy
    rwa [World.size_alloc] at this
  have HW := Lib.hid hW
  have HB := Lib.hid hB
  have HRX := Lib.hid RX
  have HRY := Lib.hid RY
  have H1 := Lib.hid h1
  have H2 := Lib.hid h2
  have H3 := Lib.hid h3
  have H4 := Lib.hid h4
  clear hW hB RX RY h1 h2 h3 h4
  go_enter Tryd.func11, Tryd.ntmps11
  go_wp2_with fail
  rw [← HW.out]
  clear HW
  refine (eqBatch_same A.clean.wt ax bx A.clean.n kx jx A.clean.f _ (H1.out.below HB.out) (H3.out.below HB.out) hx).mono ?_
  rintro e w1 ⟨rfl, hb⟩
  have HB1 : Hid (Below w.heap.size w w1) := HB.out.trans (hb.mono HB.out.size)
  have HX1 := Lib.hid (wrow_below HRX.out hb)
  have HY1 := Lib.hid (wrow_below HRY.out hb)
  clear hb
  obtain ⟨⟨x0, x1, x2, x3, x4⟩, x5, x6, x7, x8, x9⟩ := row10_cells HX1.out
  obtain ⟨⟨y0, y1, y2, y3, y4⟩, y5, y6, y7, y8, y9⟩ := row10_cells HY1.out
  go_wp2_with fail
  clear x0 x1 x2 x3 x4 x5 x6 x7 x8 x9 y0 y1 y2 y3 y4 y5 y6 y7 y8 y9
  refine (eqBatch_same A.waste.wt ay by_ A.waste.n ky jy A.waste.f _ (H2.out.below HB1.out) (H4.out.below HB1.out) hy).mono ?_
  rintro e w2 ⟨rfl, hb⟩
  have HB2 : Hid (Below w.heap.size w w2) := HB1.out.trans (hb.mono HB1.out.size)
  have HX2 := Lib.hid (wrow_below HX1.out hb)
  have HY2 := Lib.hid (wrow_below HY1.out hb)
  clear hb
  obtain ⟨⟨x0, x1, x2, x3, x4⟩, x5, x6, x7, x8, x9⟩ := row10_cells HX2.out
  obtain ⟨⟨y0, y1, y2, y3, y4⟩, y5, y6, y7, y8, y9⟩ := row10_cells HY2.out
  go_wp2_with fail
  clear x0 x1 x2 x3 x4 x5 x6 x7 x8 x9 y0 y1 y2 y3 y4 y5 y6 y7 y8 y9
  refine (eqFilter_same A.fl _).mono ?_
  rintro e w3 ⟨rfl, hb⟩
  have HB3 : Hid (Below w.heap.size w w3) := HB2.out.trans (hb.mono HB2.out.size)
  obtain ⟨⟨x0, x1, x2, x3, x4⟩, x5, x6, x7, x8, x9⟩ := row10_cells (wrow_below HX2.out hb)
  obtain ⟨⟨y0, y1, y2, y3, y4⟩, y5, y6, y7, y8, y9⟩ := row10_cells (wrow_below HY2.out hb)
  clear hb
  go_wp2_with fail
  go_ret
  exact ⟨rfl, HB3.out⟩
set_option maxRecDepth 100000 in
set_option maxHeartbeats 4000000 in
theorem markPo_any (lo hi : Nat) (A : Wk.PO) (ax ay : Option Addr) (kx ky : Nat) (w : World) (h : TwM lo hi ax A.clean.n kx A.clean.f ay A.waste.n ky A.waste.f w) (hx : A.clean.n ≤ 1048576) (hy : A.waste.n ≤ 1048576) :
    Calls Tryd.prog 16 #[ppV A ax kx ay ky, .int .i64 1] w fun e w' => e = .returned (.int .i64 ((1 + A.clean.n + A.waste.n : Nat) : Int)) ∧ (MkA ax A.clean.n kx 1 w' ∧ MkA ay A.waste.n ky (1 + A.clean.n) w') ∧ OnlyP (fun g => atP ax g ∨ atP ay g) w w' := by
  obtain ⟨W, hW⟩ : ∃ W, W = w.alloc (ppO A ax kx ay ky) := ⟨_, rfl⟩
  have hB : Below w.heap.size w W := by rw [hW]; exact (Below.refl _ _).alloc (Nat.le_refl _) _
  have RX : W.rowIs w.heap.size 31 10 (rowL (ppL A ax kx ay ky)) := by rw [hW]; exact po_row w A ax kx ay ky
  have hbd : ∀ g, (atP ax g ∨ atP ay g) → g < w.heap.size := fun g hg => by
    rcases hg with hg | hg
    · rcases h.px with ⟨e, _⟩ | ⟨g', e, _, hb⟩
      · rw [e] at hg; cases hg
      · rw [e] at hg; unfold atP at hg; simp at hg; have := hb.lt; omega
    · rcases h.py with ⟨e, _⟩ | ⟨g', e, _, hb⟩
      · rw [e] at hg; cases hg
      · rw [e] at hg; unfold atP at hg; simp at hg; have := hb.lt; omega
  have HBD := Lib.hid hbd
  have HW := Lib.hid hW
  have HB := Lib.hid hB
  have HRX := Lib.hid RX
  have H := Lib.hid (h.below hB)
  clear hW hB RX h hbd
  go_enter Tryd.func16, Tryd.ntmps16
  go_wp2_with fail
  rw [← HW.out]
  refine (markBatch_any lo hi A.clean.wt ax A.clean.n kx 1 A.clean.f _ H.out.px hx (by omega)).mono ?_
  rintro e w1 ⟨rfl, hm1, ho1⟩
  have HM1 := Lib.hid hm1
  have HO1 := Lib.hid ho1
  have HY1 : Hid (PtM lo hi ay A.waste.n ky A.waste.f w1) := by
    rcases H.out.py with h | ⟨g, e, hg, hb⟩
    · exact Or.inl h
    · exact Or.inr ⟨g, e, hg, hb.block (ho1.block g hb.lt (fun h => H.out.ne g h e))⟩
  have HX1 := Lib.hid (HRX.out.of_block (ho1.block _ HRX.out.lt (fun h => by have := HBD.out _ (Or.inl h); omega)))
  obtain ⟨⟨x0, x1, x2, x3, x4⟩, x5, x6, x7, x8, x9⟩ := row10_cells HX1.out
  clear hm1 ho1
  go_wp2_with fail
  refine (markBatch_any lo hi A.waste.wt ay A.waste.n ky (1 + A.clean.n) A.waste.f _ HY1.out hy (by omega)).mono ?_
  rintro e w2 ⟨rfl, hm2, ho2⟩
  have HM2 := Lib.hid hm2
  have HM12 : Hid (MkA ax A.clean.n kx 1 w2) := HM1.out.same (fun g hg hl => ho2.block g hl (fun h => H.out.ne g hg h))
  have HO : Hid (OnlyP (fun g => atP ax g ∨ atP ay g) w w2) := ((OnlyP.of_below HB.out).trans (HO1.out.mono (fun _ h => Or.inl h))).trans (ho2.mono (fun _ h => Or.inr h))
  clear hm2 ho2
  go_wp2_with fail
  go_ret
  exact ⟨rfl, ⟨HM12.out, HM2.out⟩, HO.out⟩
set_option maxRecDepth 100000 in
set_option maxHeartbeats 4000000 in
theorem heldPo_any (A : Wk.PO) (ax ay : Option Addr) (kx ky : Nat) (w : World) (h1 : MkA ax A.clean.n kx 1 w) (h2 : MkA ay A.waste.n ky (1 + A.clean.n) w) (hx : A.clean.n ≤ 1048576) (hy : A.waste.n ≤ 1048576) :
    Calls Tryd.prog 17 #[ppV A ax kx ay ky, .int .i64 1] w fun e w' => e = .returned (.int .i64 ((1 + A.clean.n + A.waste.n : Nat) : Int)) ∧ Below w.heap.size w w' := by
  obtain ⟨W, hW⟩ : ∃ W, W = w.alloc (ppO A ax kx ay ky) := ⟨_, rfl⟩
  have hB : Below w.heap.size w W := by rw [hW]; exact (Below.refl _ _).alloc (Nat.le_refl _) _
  have RX : W.rowIs w.heap.size 31 10 (rowL (ppL A ax kx ay ky)) := by rw [hW]; exact po_row w A ax kx ay ky
  have HW := Lib.hid hW
  have HB := Lib.hid hB
  have HRX := Lib.hid RX
  have H1 := Lib.hid (h1.same (fun g _ hl => hB.block g hl))
  have H2 := Lib.hid (h2.same (fun g _ hl => hB.block g hl))
  have z1 : ¬ ((1 + A.clean.n : Nat) : Int) < 0 := by omega
  have z2 : ¬ ((1 + A.clean.n + A.waste.n : Nat) : Int) < 0 := by omega
  clear hW hB RX h1 h2
  go_enter Tryd.func17, Tryd.ntmps17
  go_wp2_with fail
  rw [← HW.out]
  refine (heldBatch_any A.clean.wt ax A.clean.n kx 1 _ H1.out hx (by omega)).mono ?_
  rintro e w1 ⟨rfl, hb⟩
  have HB1 : Hid (Below w.heap.size w w1) := HB.out.trans (hb.mono HB.out.size)
  have HX1 := Lib.hid (wrow_below HRX.out hb)
  have H21 := Lib.hid (H2.out.same (fun g _ hl => hb.block g hl))
  obtain ⟨⟨x0, x1, x2, x3, x4⟩, x5, x6, x7, x8, x9⟩ := row10_cells HX1.out
  clear hb
  go_wp2_with fail
  refine (heldBatch_any A.waste.wt ay A.waste.n ky (1 + A.clean.n) _ H21.out hy (by omega)).mono ?_
  rintro e w2 ⟨rfl, hb⟩
  have HB2 : Hid (Below w.heap.size w w2) := HB1.out.trans (hb.mono HB1.out.size)
  clear hb
  go_wp2_with fail
  go_ret
  exact ⟨rfl, HB2.out⟩
/-- An answer of two batches, laid in a box. -/
structure PoM (lo hi : Nat) (A : Wk.PO) (ax : Option Addr) (kx : Nat) (ay : Option Addr) (ky : Nat) (gb : Nat) (W : World) : Prop where
  row : W.rowIs gb 31 10 (rowL (ppL A ax kx ay ky))
  two : TwM lo hi ax A.clean.n kx A.clean.f ay A.waste.n ky A.waste.f W
  bd : lo ≤ gb ∧ gb < hi
  far : ∀ g, (atP ax g ∨ atP ay g) → g ≠ gb
theorem PoM.same {lo hi : Nat} {A : Wk.PO} {ax : Option Addr} {kx : Nat} {ay : Option Addr} {ky gb : Nat} {W W' : World} (h : PoM lo hi A ax kx ay ky gb W) (hb : ∀ g, lo ≤ g → g < hi → g < W.heap.size → W'.heap[g]? = W.heap[g]?) : PoM lo hi A ax kx ay ky gb W' := ⟨h.row.of_block (hb _ h.bd.1 h.bd.2 h.row.lt), h.two.same hb, h.bd, h.far⟩
theorem PoM.below {lo hi : Nat} {A : Wk.PO} {ax : Option Addr} {kx : Nat} {ay : Option Addr} {ky gb : Nat} {W W' : World} (h : PoM lo hi A ax kx ay ky gb W) (hb : Below W.heap.size W W') : PoM lo hi A ax kx ay ky gb W' := h.same (fun g _ _ hl => hb.block g hl)
theorem poM_of {lo : Nat} {A : Wk.PO} {ax : Option Addr} {kx : Nat} {ay : Option Addr} {ky : Nat} {W : World} (h : TwM lo W.heap.size ax A.clean.n kx A.clean.f ay A.waste.n ky A.waste.f W) (hl : lo ≤ W.heap.size) : PoM lo (W.heap.size + 1) A ax kx ay ky W.heap.size (W.alloc (ppO A ax kx ay ky)) :=
  ⟨po_row W A ax kx ay ky, (h.below (bel_alloc _ _)).mono (Nat.le_refl _) (by omega), ⟨hl, by omega⟩, fun g hg => by
    rcases hg with hg | hg
    · have := h.px.atp hg; omega
    · have := h.py.atp hg; omega⟩
set_option maxRecDepth 100000 in
set_option maxHeartbeats 4000000 in
theorem markBatchS_from (s lo hi g m c : Nat) (hsb : s ≤ 1048577) (gs : Nat → Nat) (bs : Nat → Be) (w : World) (h : BxR lo hi g m gs bs w) (hu : ∀ i j, i < j → j < m → gs i < gs j) (hs : m + cntB bs m ≤ 1048576) :
    Calls Tryd.prog 15 #[.slice (some ⟨g, 0, none⟩) m c, .int .i64 s] w fun e w' => e = .returned (.int .i64 ((s + m + cntB bs m : Nat) : Int)) ∧ OnlyP (fun k => lo ≤ k ∧ k < hi) w w' := by
  have H := Lib.hid h
  have HU := Lib.hid hu
  clear h hu
  go_enter Tryd.func15, Tryd.ntmps15
  go_wp2_with fail
  go_loopw [1, 5] (fun kv iv wr => ∃ (i : Nat), i ≤ m ∧ kv = .int .i64 ((s + i + cntB bs i : Nat) : Int) ∧ iv = .int .i64 i ∧ Hid (BxR lo hi g m gs bs wr) ∧ Hid (OnlyP (fun k => lo ≤ k ∧ k < hi) w wr)) (fun _ iv _ => m - (intOf iv).toNat)
  case atStart => exact ⟨0, Nat.zero_le _, by simp [cntB], rfl, H, OnlyP.refl _ _⟩
  case round =>
    obtain ⟨i, hi', rfl, rfl, hR, hO⟩ := hrel
    clear H
    by_cases hlt : i < m
    · have hltz : (i : Int) < (m : Int) := by omega
      obtain ⟨F, r1, r2⟩ := hR.out.row
      have c0 := r1.cell (i := i * 2) (by omega)
      have z0 := r1.frozen (i * 2)
      have c1 : wr.cell? ⟨g, i * 2 + 1, none⟩ = some (.slice (some ⟨gs i, 0, none⟩) (bs i).n (bs i).n) := (r1.cell (i := i * 2 + 1) (by omega)).trans (by rw [r2 i hlt])
      have hcn := cntB_le bs (show i + 1 ≤ m by omega)
      simp only [cntB] at hcn
      obtain ⟨K, hK⟩ : ∃ K : Nat, K = s + i + cntB bs i := ⟨_, rfl⟩
      have hKb : K ≤ 2097154 := by omega
      have HK := Lib.hid hK
      rw [← hK]
      obtain ⟨W1, hW1⟩ : ∃ W1, W1 = wr.setCell ⟨g, i * 2, none⟩ (.int .i64 (K : Int)) := ⟨_, rfl⟩
      have hg := hR.out.gbd
      have hbd := hR.out.bd
      have HR1 : Hid (BxR lo hi g m gs bs W1) := by
        refine ⟨⟨_, by rw [hW1]; exact r1.set (i * 2) _, fun j hj => ?_⟩, fun j hj => ?_, hbd, hg⟩
        · have : j * 2 + 1 ≠ i * 2 := by omega
          simp only [this, if_false]; exact r2 j hj
        · obtain ⟨F1, q⟩ := hR.out.blk j hj
          exact ⟨F1, q.block (by rw [hW1]; exact Below.heap_setCell _ ⟨g, i * 2, none⟩ _ _ (by have := hg j hj; show gs j ≠ g; omega))⟩
      have HO1 : Hid (OnlyP (fun k => lo ≤ k ∧ k < hi) w W1) := by
        show OnlyP _ _ _
        rw [hW1]
        exact hO.out.trans ((OnlyP.of_only ((Only.refl g wr).set (i * 2) _) hbd))
      obtain ⟨F0, q0⟩ := HR1.out.blk i hlt
      have HQ0 := Lib.hid q0
      have lgr : g < wr.heap.size := r1.lt
      have HW1 := Lib.hid hW1
      have c1' : W1.cell? ⟨g, i * 2 + 1, none⟩ = some (.slice (some ⟨gs i, 0, none⟩) (bs i).n (bs i).n) := by
        obtain ⟨F2, r3, r4⟩ := HR1.out.row
        exact (r3.cell (i := i * 2 + 1) (by omega)).trans (by rw [r4 i hlt])
      clear r1 r2 hK hR hO q0 hW1
      go_wp2_with fail
      rw [← HW1.out]
      have hKe : ((K : Int) + 1) = ((K + 1 : Nat) : Int) := by omega
      rw [hKe]
      refine (markInts_any (gs i) (gs i + 1) (some ⟨gs i, 0, none⟩) (bs i).n (bs i).n (K + 1) F0 _ (Or.inr ⟨_, rfl, ⟨Nat.le_refl _, by omega⟩, HQ0.out⟩) (by omega) (by omega)).mono ?_
      rintro e W2 ⟨rfl, hmk, ho⟩
      have hat : ∀ k, atP (some ⟨gs i, 0, none⟩) k → k = gs i := fun k hk => by unfold atP at hk; simp at hk; omega
      have HR2 : Hid (BxR lo hi g m gs bs W2) := by
        obtain ⟨F2, r3, r4⟩ := HR1.out.row
        refine ⟨⟨F2, r3.of_block (ho.block _ r3.lt (fun h => by have := hat _ h; have := hg i hlt; omega)), r4⟩, fun j hj => ?_, hbd, hg⟩
        by_cases e : j = i
        · subst e
          rcases hmk with ⟨h, _⟩ | ⟨g', e1, h⟩
          · cases h
          · simp at e1; subst e1; exact h.ints
        · obtain ⟨F1, q⟩ := HR1.out.blk j hj
          refine ⟨F1, q.block (ho.block _ q.lt (fun h => ?_))⟩
          have h1 := hat _ h
          rcases Nat.lt_or_gt_of_ne e with h2 | h2
          · have := HU.out j i h2 hlt; omega
          · have := HU.out i j h2 hj; omega
      have HO2 : Hid (OnlyP (fun k => lo ≤ k ∧ k < hi) w W2) := HO1.out.trans (ho.mono (fun k hk => by have h1 := hat k hk; have h2 := hg i hlt; omega))
      clear hmk ho hat c0 z0 c1 c1' lgr hKe HQ0 HW1 hg hbd
      go_wp2_with fail
      go_roundw
      case rel =>
        refine ⟨i + 1, by omega, ?_, by go_num, HR2, HO2⟩
        have := HK.out
        simp only [cntB]
        congr 1; omega
      case measure => simp [intOf]; omega
    · obtain rfl : i = m := by omega
      go_wp2_with fail
      go_ret
      exact ⟨rfl, hO.out⟩
end Go.Proofs.YtcjeieagpcphjaaDoor
namespace Go.Proofs.YtcjeieagpcphjaaDoor
open Go.RowKit Go.Deep

/-- No answer at all. -/
def Wk.poNil : Wk.PO := ⟨Wk.nil, Wk.nil, Wk.flNil, 0, 0⟩
theorem po_code (A : Wk.PO) (ax : Option Addr) (kx : Nat) (ay : Option Addr) (ky : Nat) (w : World) : (Instr.field 31 (ppV A ax kx ay ky) 4).run Tryd.prog w = .ok (.int .i64 A.c) w := by kernel_rfl
theorem Ptq.keep2 {B : Nat} {x : Be} {W W' : World} (h : Ptq B x W) (hb : Below W.heap.size W W') : Ptq B x W' := h.keep (fun g _ _ h2 _ => hb.block g h2)
theorem lwCopyQ_any (x : Be) (B : Nat) (w : World) (h : Ptq B x w) (hn : x.n ≤ 1000) (h0 : 0 < x.n) :
    Calls Tryd.prog 19 #[.slice x.pa x.n x.k] w fun e w' => (∃ a c, e = .returned (.slice a x.n c) ∧ IntsAt a x.n x.f w') ∧ Below w.heap.size w w' := by
  rcases h with h | ⟨g, e, _, h2⟩
  · omega
  · rw [e]; exact lwCopyS_any g x.n x.k x.f w h2 hn
theorem beL_one (cs : Nat → Be) (n : Nat) : ∀ u ∈ beL cs n, u.oneCell' = true := by
  induction n with
  | zero => intro u hu; simp [beL] at hu
  | succ n ih =>
    intro u hu
    simp only [beL, List.mem_append] at hu
    rcases hu with hu | hu
    · exact ih u hu
    · simp at hu; rcases hu with rfl | rfl <;> rfl
/-- The cells of a list of batches. -/
def BlCells (b n : Nat) (cs : Nat → Be) (w : World) : Prop := ∀ i, i < n → BeCells b (i * 2) (cs i) w
theorem bel_src {b n : Nat} {cs : Nat → Be} {w : World} (h : BlCells b n cs w) : ∀ j u, (beL cs n)[j]? = some u → w.cell? ((⟨b, 0, none⟩ : Addr).add j) = some u := by
  intro j u hj
  have hl : j < n * 2 := by have := (List.getElem?_eq_some_iff.1 hj).1; rw [beL_len] at this; exact this
  rw [Addr.add_lit, Nat.zero_add]
  have hi : j / 2 < n := by omega
  have hc := h (j / 2) hi
  have hb := beL_at cs hi
  by_cases e : j % 2 = 0
  · have e2 : j = j / 2 * 2 := by omega
    rw [e2] at hj ⊢
    rw [hb.1] at hj
    rw [← hj]; exact hc.1
  · have e2 : j = j / 2 * 2 + 1 := by omega
    rw [e2] at hj ⊢
    rw [hb.2] at hj
    rw [← hj]; exact hc.2
theorem bts_own {B n k : Nat} {a : Option Addr} {cs : Nat → Be} {W : World} (h : W.ownsRow B 28 2 (.slice a n k) n (beL cs n)) (hp : ∀ i, i < n → IntsAt (cs i).pa (cs i).n (cs i).f W) : BtsAt a n cs W := by
  rcases h.2 with ⟨_, e⟩ | ⟨g, cap, cur, e, _⟩
  · exact Or.inl e
  · refine Or.inr ⟨g, by injection e, fun i hi => ⟨?_, hp i hi⟩⟩
    have hx : Value.ownBlock (.slice a n k) = some g := by rw [e]; rfl
    have q0 := h.cells hx (i * 2) _ (beL_at cs hi).1
    have q1 := h.cells hx (i * 2 + 1) _ (beL_at cs hi).2
    rw [Addr.add_lit, Nat.zero_add] at q0 q1
    exact ⟨q0, q1⟩
theorem ints_grown {B p g : Nat} {ca : Option Addr} {mi : Nat → Int} {W W' : World} (h : IntsAt ca p mi W) (ho : W.ownsRow B 28 2 (.slice (some ⟨g, 0, none⟩) 0 0) 0 []) (hg : W.grownBy W' (Value.ownBlock (.slice (some ⟨g, 0, none⟩) 0 0))) : IntsAt ca p mi W' := by
  rcases h with h | ⟨b, e, h⟩
  · exact Or.inl h
  · refine Or.inr ⟨b, e, fun i hi => ?_⟩
    have hlt := World.block_lt_of_cell? _ _ (h i hi)
    have hne : b ≠ g := by
      intro e2
      rcases ho.2 with ⟨e3, _⟩ | ⟨g', cap, cur, e3, _, e4, e5, _, e6, _⟩
      · cases e3
      · cases e3
        have q := h i hi
        rw [e2] at q
        simp only [World.cell?, e4] at q
        rw [Array.getElem?_eq_none (by omega)] at q
        cases q
    rw [World.cell?_of_block (a := ⟨b, i, none⟩) (w := W) (hg.block b hlt (fun e2 => by simp [Value.ownBlock] at e2; exact hne e2))]
    exact h i hi
/-- What stands once the answer lies in its variable. -/
structure PrQ (V0 : World) (A : Wk.PO) (xb : Nat) (ax : Option Addr) (kx : Nat) (ay : Option Addr) (ky : Nat) (W : World) : Prop where
  bel : Below V0.heap.size V0 W
  row : W.rowIs xb 31 10 (rowL (ppL A ax kx ay ky))
  cl : IntsAt ax A.clean.n A.clean.f W
  wa : IntsAt ay A.waste.n A.waste.f W
theorem row10_fr {w : World} {g : Nat} {t : TypeId} {F : Nat → Value} (h : w.rowIs g t 10 F) : (w.frozen? ⟨g, 0, none⟩ = false ∧ w.frozen? ⟨g, 1, none⟩ = false ∧ w.frozen? ⟨g, 2, none⟩ = false ∧ w.frozen? ⟨g, 3, none⟩ = false ∧ w.frozen? ⟨g, 4, none⟩ = false) ∧ w.frozen? ⟨g, 5, none⟩ = false ∧ w.frozen? ⟨g, 6, none⟩ = false ∧ w.frozen? ⟨g, 7, none⟩ = false ∧ w.frozen? ⟨g, 8, none⟩ = false ∧ w.frozen? ⟨g, 9, none⟩ = false :=
  ⟨⟨h.frozen 0, h.frozen 1, h.frozen 2, h.frozen 3, h.frozen 4⟩, h.frozen 5, h.frozen 6, h.frozen 7, h.frozen 8, h.frozen 9⟩
theorem prq_put {V0 : World} {A : Wk.PO} {xb : Nat} {ax : Option Addr} {kx : Nat} {ay : Option Addr} {ky : Nat} {W : World} (hv : W.rowIs xb 31 10 (rowL (ppL Wk.poNil none 0 none 0))) (hx : V0.heap.size ≤ xb) (hb : Below V0.heap.size V0 W) {hi : Nat} (ht : TwM V0.heap.size hi ax A.clean.n kx A.clean.f ay A.waste.n ky A.waste.f W) :
    PrQ V0 A xb ax kx ay ky (((((((((((W).setCell ⟨xb, 0, none⟩ (.int .i64 A.clean.wt)).setCell ⟨xb, 1, none⟩ (.slice ax A.clean.n kx)).setCell ⟨xb, 2, none⟩ (.int .i64 A.waste.wt)).setCell ⟨xb, 3, none⟩ (.slice ay A.waste.n ky)).setCell ⟨xb, 4, none⟩ (.int .i64 A.fl.held)).setCell ⟨xb, 5, none⟩ (.int .i64 A.fl.most)).setCell ⟨xb, 6, none⟩ (.int .i64 A.fl.catch_)).setCell ⟨xb, 7, none⟩ (.int .i64 A.fl.wash)).setCell ⟨xb, 8, none⟩ (.int .i64 A.washes)).setCell ⟨xb, 9, none⟩ (.int .i64 A.c)) := by
  have nb : ∀ k, k ≠ xb → (((((((((((W).setCell ⟨xb, 0, none⟩ (.int .i64 A.clean.wt)).setCell ⟨xb, 1, none⟩ (.slice ax A.clean.n kx)).setCell ⟨xb, 2, none⟩ (.int .i64 A.waste.wt)).setCell ⟨xb, 3, none⟩ (.slice ay A.waste.n ky)).setCell ⟨xb, 4, none⟩ (.int .i64 A.fl.held)).setCell ⟨xb, 5, none⟩ (.int .i64 A.fl.most)).setCell ⟨xb, 6, none⟩ (.int .i64 A.fl.catch_)).setCell ⟨xb, 7, none⟩ (.int .i64 A.fl.wash)).setCell ⟨xb, 8, none⟩ (.int .i64 A.washes)).setCell ⟨xb, 9, none⟩ (.int .i64 A.c)).heap[k]? = W.heap[k]? := fun k hk => by
    rw [Below.heap_setCell _ _ _ _ hk, Below.heap_setCell _ _ _ _ hk, Below.heap_setCell _ _ _ _ hk, Below.heap_setCell _ _ _ _ hk, Below.heap_setCell _ _ _ _ hk, Below.heap_setCell _ _ _ _ hk, Below.heap_setCell _ _ _ _ hk, Below.heap_setCell _ _ _ _ hk, Below.heap_setCell _ _ _ _ hk, Below.heap_setCell _ _ _ _ hk]
  have ne : ∀ (g n : Nat) (f : Nat → Int), InBlk g n f W → InBlk g n f (((((((((((W).setCell ⟨xb, 0, none⟩ (.int .i64 A.clean.wt)).setCell ⟨xb, 1, none⟩ (.slice ax A.clean.n kx)).setCell ⟨xb, 2, none⟩ (.int .i64 A.waste.wt)).setCell ⟨xb, 3, none⟩ (.slice ay A.waste.n ky)).setCell ⟨xb, 4, none⟩ (.int .i64 A.fl.held)).setCell ⟨xb, 5, none⟩ (.int .i64 A.fl.most)).setCell ⟨xb, 6, none⟩ (.int .i64 A.fl.catch_)).setCell ⟨xb, 7, none⟩ (.int .i64 A.fl.wash)).setCell ⟨xb, 8, none⟩ (.int .i64 A.washes)).setCell ⟨xb, 9, none⟩ (.int .i64 A.c)) := fun g n f h => h.block (nb g (blk_ne (inBlk_type h) (rowIs_type hv) (by decide)))
  have pt : ∀ (a : Option Addr) (n k : Nat) (f : Nat → Int), PtM V0.heap.size hi a n k f W → IntsAt a n f (((((((((((W).setCell ⟨xb, 0, none⟩ (.int .i64 A.clean.wt)).setCell ⟨xb, 1, none⟩ (.slice ax A.clean.n kx)).setCell ⟨xb, 2, none⟩ (.int .i64 A.waste.wt)).setCell ⟨xb, 3, none⟩ (.slice ay A.waste.n ky)).setCell ⟨xb, 4, none⟩ (.int .i64 A.fl.held)).setCell ⟨xb, 5, none⟩ (.int .i64 A.fl.most)).setCell ⟨xb, 6, none⟩ (.int .i64 A.fl.catch_)).setCell ⟨xb, 7, none⟩ (.int .i64 A.fl.wash)).setCell ⟨xb, 8, none⟩ (.int .i64 A.washes)).setCell ⟨xb, 9, none⟩ (.int .i64 A.c)) := fun a n k f h => by
    rcases h with ⟨_, h, _⟩ | ⟨g, e, _, h⟩
    · exact Or.inl h
    · rw [e]; exact (ne g n f h).at_
  refine ⟨?_, put10_row hv rfl (.int .i64 A.clean.wt) (.slice ax A.clean.n kx) (.int .i64 A.waste.wt) (.slice ay A.waste.n ky) (.int .i64 A.fl.held) (.int .i64 A.fl.most) (.int .i64 A.fl.catch_) (.int .i64 A.fl.wash) (.int .i64 A.washes) (.int .i64 A.c), pt _ _ _ _ ht.px, pt _ _ _ _ ht.py⟩
  exact (((((((((hb.setCell (p := ⟨xb, 0, none⟩) hx _).setCell (p := ⟨xb, 1, none⟩) hx _).setCell (p := ⟨xb, 2, none⟩) hx _).setCell (p := ⟨xb, 3, none⟩) hx _).setCell (p := ⟨xb, 4, none⟩) hx _).setCell (p := ⟨xb, 5, none⟩) hx _).setCell (p := ⟨xb, 6, none⟩) hx _).setCell (p := ⟨xb, 7, none⟩) hx _).setCell (p := ⟨xb, 8, none⟩) hx _).setCell (p := ⟨xb, 9, none⟩) hx _
set_option maxRecDepth 100000 in
set_option maxHeartbeats 32000000 in
theorem book_law (w : World) (a0 : Option Addr) (len cap : Nat) (h : Bytes a0 len w) (hl : len ≤ 9223372036854775807) (hg : Et w ∧ TabOk w) :
    Calls Tryd.prog 4 #[.slice a0 len cap] w fun e w' => e = .returned (.bool true) ∧ Below w.heap.size w w' := by
  obtain ⟨i0, hi0, hz0, hz1, hz2⟩ := info_parts qinfo_bt
  have hfield := po_code
  have H := Lib.hid h
  have HG := Lib.hid hg
  clear h hg
  by_cases hbig : (1048576 : Int) < (len : Int)
  · go_enter Tryd.func4, Tryd.ntmps4
    go_wp2_with fail
    go_ret
    exact ⟨rfl, Below.refl _ _⟩
  go_enter Tryd.func4, Tryd.ntmps4
  go_wp2_with fail
  refine (drawPlant_any a0 len cap _ H.out (by omega)).mono ?_
  rintro e w1 ⟨⟨fl, ma, p, mk, mi, a, n, lk, cs, rfl, hp5, hn9, hmil, hlis, hcn⟩, hb⟩
  obtain ⟨s3, hs3⟩ : ∃ s, s = w1.heap.size := ⟨_, rfl⟩
  obtain ⟨W1, hW1⟩ : ∃ W1, W1 = w1.alloc (.cells #[.int .i64 fl.held, .int .i64 fl.most, .int .i64 fl.catch_, .int .i64 fl.wash] 29) := ⟨_, rfl⟩
  have hb1 : Below w1.heap.size w1 W1 := by rw [hW1]; exact bel_alloc _ _
  have FIL1 : Hid (W1.rowIs s3 29 4 (rowL (flL fl))) := by show World.rowIs _ _ _ _ _; rw [hW1, hs3]; exact rowL_alloc w1 (flL fl) _
  have B1 : Hid (Below w.heap.size w W1) := hb.trans (hb1.mono hb.size)
  have MIL1 := Lib.hid (hmil.keep2 hb1)
  have LIS1 := Lib.hid (hlis.below hb1)
  have HP5 := Lib.hid hp5
  have HN9 := Lib.hid hn9
  have HCN := Lib.hid hcn
  have HW1 := Lib.hid hW1
  have HS3 := Lib.hid hs3
  clear hb hb1 hW1 hs3 hmil hlis H hp5 hn9 hcn hbig
  obtain ⟨A, hA⟩ : ∃ A, A = Wk.plant p mi (fun i => (cs i).b) fl n := ⟨_, rfl⟩
  have HA := Lib.hid hA
  clear hA
  go_wp2_with fail
  rw [← HW1.out, ← HS3.out]
  clear HW1 HS3
  refine (specPlant_any fl ma p mk mi a n lk cs _ LIS1.out (by have := HN9.out; omega) (fun i hi => by have := HCN.out i hi; omega) MIL1.out.at_ (by have := HP5.out; omega)).mono ?_
  rintro e w2 ⟨⟨ax0, kx0, ay0, ky0, rfl, _⟩, hb⟩
  rw [← HA.out]
  have FIL := Lib.hid (wrow_below FIL1.out hb)
  have MILLS := Lib.hid (MIL1.out.keep2 hb)
  have LIS2 := Lib.hid (LIS1.out.below hb)
  have B2 : Hid (Below w.heap.size w w2) := B1.out.trans (hb.mono B1.out.size)
  clear hb FIL1 MIL1 LIS1 B1
  by_cases hc : A.c = 0
  case neg =>
    have hcz : (A.c != 0) = true := by simpa using hc
    go_wp2_with fail
    go_ret
    exact ⟨rfl, B2.out⟩
  have BK : Hid (Wk.Book p (fun i => (cs i).b) fl n A) := by show Wk.Book _ _ _ _ _; rw [HA.out]; exact Wk.book (by rw [← HA.out]; exact hc)
  have hcz : (A.c != 0) = false := by simp [hc]
  clear hc
  obtain ⟨bl, hae, hcells⟩ : ∃ bl, a = some ⟨bl, 0, none⟩ ∧ ∀ i, i < n → BeCells bl (i * 2) (cs i) w2 ∧ IntsAt (cs i).pa (cs i).n (cs i).f w2 := by
    rcases LIS2.out with h | h
    · exact absurd h (by have := BK.out.k0; omega)
    · exact h
  subst hae
  obtain ⟨V0, hV0⟩ : ∃ V, V = w2 := ⟨_, rfl⟩
  rw [← hV0] at FIL MILLS LIS2 B2 hcells ⊢
  have LIST : Hid ((∀ i, i < n → IntsAt (cs i).pa (cs i).n (cs i).f V0) ∧ ∀ V, Below V0.heap.size V0 V → BlCells bl n cs V) := ⟨fun i hi => (hcells i hi).2, fun V hV i hi => (hcells i hi).1.block (hV.block _ (hcells i hi).1.lt)⟩
  have GL : Hid (∀ V, Below V0.heap.size V0 V → Et V ∧ TabOk V) := fun V hV => by
    have q := B2.out.trans (hV.mono B2.out.size)
    exact ⟨HG.out.1.below q, tab_below HG.out.2 q⟩
  have IMPL : Hid (∀ ca cc ga ka W, IntsAt ca p mi W → BtsAt ga n cs W → Et W ∧ TabOk W → Calls Tryd.prog 10 #[flV fl, .slice ca p cc, .slice ga n ka] W fun e w' => PoEnd W.heap.size A e w' ∧ Below W.heap.size W w') := fun ca cc ga ka W h1 h2 h3 => by
    rw [HA.out]
    exact implPlant_any fl ca p cc mi ga n ka cs W h2 (by have := HN9.out; omega) (fun i hi => by have := HCN.out i hi; omega) h1 (by have := HP5.out; omega) h3
  clear hcells hV0
  go_wp2_with fail
  go_cut [6] (fun q Wq => ∃ xb ax kx ay ky, q = .pointer (some ⟨xb, 0, none⟩) ∧ Hid (PrQ V0 A xb ax kx ay ky Wq))
  case first =>
    refine wp_region_held_drew (S := fun V => Below V0.heap.size V0 V) (by kernel_rfl) (Below.refl _ _).drew (fun hHeld => ?_)
    obtain ⟨Z, hZ⟩ : ∃ Z, Z = V0.drew := ⟨_, rfl⟩
    rw [← hZ] at hHeld ⊢
    clear hZ
    refine take_do (i := 0) (v := (flV fl)) rfl (by kernel_rfl) (by kernel_rfl) (by kernel_rfl) (fun _ _ _ h => h) (by rfl) ?_ (by assumption) ?_
    · intro w hSw
      obtain ⟨q0, q1, q2, q3⟩ := row4_cells (wrow_below FIL.out hSw)
      go_simp
    simp only [Act.put, List.setIfInBounds_toArray, List.set_cons_zero, List.set_cons_succ]
    refine take_do (i := 1) (v := (.slice ma p mk)) rfl (by kernel_rfl) (by kernel_rfl) (by kernel_rfl) (fun _ _ _ h => h) (by rfl) ?_ (by assumption) ?_
    · intro w hSw
      skip
      go_simp
    simp only [Act.put, List.setIfInBounds_toArray, List.set_cons_zero, List.set_cons_succ]
    refine take_do (i := 4) (v := (.slice (some ⟨bl, 0, none⟩) n lk)) rfl (by kernel_rfl) (by kernel_rfl) (by kernel_rfl) (fun _ _ _ h => h) (by rfl) ?_ (by assumption) ?_
    · intro w hSw
      skip
      go_simp
    simp only [Act.put, List.setIfInBounds_toArray, List.set_cons_zero, List.set_cons_succ]
    refine wpAnyH_ready (rs := [2, 3, 7]) (by kernel_rfl) (by simp) (AllReadyH.cons (at_drop (i := 2) rfl) (fun K2 hK => ?_) (AllReadyH.cons (at_drop (i := 3) rfl) (fun K2 hK => ?_) (AllReadyH.cons (at_drop (i := 7) rfl) (fun K2 hK => ?_) (AllReadyH.nil))))
    · go_simp
      refine (lwCopyQ_any ⟨0, ma, p, mk, mi⟩ w.heap.size _ (MILLS.out.keep2 hHeld) (by have := HP5.out; show p ≤ 1000; omega) BK.out.m0).mono ?_
      rintro e Z1 ⟨⟨ca, cc, rfl, hcp⟩, hb⟩
      have HCP := Lib.hid hcp
      clear hcp
      go_wp2_with fail
      refine hK.out _ _ (hHeld.trans (hb.mono hHeld.size)) (fun hHeld2 => ?_)
      clear hb
      clear hK hHeld
      have hHeld := hHeld2
      clear hHeld2
      refine wpAnyH_ready (rs := [3, 7]) (by kernel_rfl) (by simp) (AllReadyH.cons (at_drop (i := 3) rfl) (fun K2 hK => ?_) (AllReadyH.cons (at_drop (i := 7) rfl) (fun K2 hK => ?_) (AllReadyH.nil)))
      · obtain ⟨Z2, hZ2⟩ : ∃ Z2, Z2 = Z1.alloc (.cells #[] 28) := ⟨_, rfl⟩
        have hb : Below Z1.heap.size Z1 Z2 := by rw [hZ2]; exact bel_alloc _ _
        obtain ⟨gb, hgb⟩ : ∃ gb, gb = Z1.heap.size := ⟨_, rfl⟩
        have HBL : Hid (Z2.ownsRow V0.heap.size 28 2 (.slice (some ⟨gb, 0, none⟩) 0 0) 0 []) := by show World.ownsRow _ _ _ _ _ _ _; rw [hZ2, hgb]; exact World.ownsRow_made Z1 #[] 0 hHeld.size (Nat.zero_le _) rfl
        replace HCP := Lib.hid (HCP.out.below hb)
        go_simp
        rw [← hZ2, ← hgb]
        clear hZ2
        refine hK.out _ _ (hHeld.trans (hb.mono hHeld.size)) (fun hHeld2 => ?_)
        clear hgb hb
        clear hK hHeld
        have hHeld := hHeld2
        clear hHeld2
        refine wpAnyH_ready (rs := [5, 7]) (by kernel_rfl) (by simp) (AllReadyH.cons (at_drop (i := 5) rfl) (fun K2 hK => ?_) (AllReadyH.cons (at_drop (i := 7) rfl) (fun K2 hK => ?_) (AllReadyH.nil)))
        · refine ap_at rfl (.tmp 31) (.tmp 32) 35 rfl V0.heap.size 28 i0 (.agg #[.int .i64 0, .slice none 0 0]) 2 32 Tryd.underlying35 hi0 hz0 hz1 hz2 rfl (by decide) (.slice (some ⟨gb, 0, none⟩) 0 0) 0 [] rfl HBL.out ⟨bl, 0, none⟩ n lk (beL cs n) rfl (beL_len cs n) (bel_src (LIST.out.2 _ hHeld)) (beL_one cs n) (by unfold maxLen; have := HN9.out; omega) (by have := HN9.out; omega) hHeld.size ?_
          intro v' Z3 hown hgrow hwhere
          have hS : Below V0.heap.size V0 Z3 := hHeld.grown hgrow hHeld.size (fun k e => by simp [Value.ownBlock] at e; subst e; exact (World.ownsRow.lt HBL.out gb rfl).1)
          obtain ⟨ga, ka, rfl⟩ : ∃ ga ka, v' = .slice ga n ka := by obtain ⟨ga, ka, e⟩ := ownShape hown; exact ⟨ga, ka, by simpa using e⟩
          have HAP : Hid (BtsAt ga n cs Z3) := bts_own (by simpa using hown) (fun i hi => (LIST.out.1 i hi).below hS)
          replace HCP : Hid (IntsAt ca p mi Z3) := ints_grown HCP.out HBL.out hgrow
          refine hK.out _ _ hS (fun hHeld2 => ?_)
          clear hown hgrow hwhere hS HBL
          clear hK hHeld
          have hHeld := hHeld2
          clear hHeld2
          simp only [Act.put, List.setIfInBounds_toArray, List.set_cons_zero, List.set_cons_succ]
          refine wpAnyH_ready (rs := [6, 7]) (by kernel_rfl) (by simp) (AllReadyH.cons (at_drop (i := 6) rfl) (fun K2 hK => ?_) (AllReadyH.cons (at_drop (i := 7) rfl) (fun K2 hK => ?_) (AllReadyH.nil)))
          · go_simp
            refine (IMPL.out ca cc ga ka _ HCP.out HAP.out (GL.out _ hHeld)).mono ?_
            rintro e Z4 ⟨⟨ax, kx, ay, ky, rfl, htw⟩, hb⟩
            have HTW := Lib.hid (htw.mono hHeld.size (Nat.le_refl _))
            clear htw
            replace HCP := Lib.hid (HCP.out.below hb)
            replace HAP := Lib.hid (HAP.out.below hb)
            go_wp2_with fail
            refine hK.out _ _ (hHeld.trans (hb.mono hHeld.size)) (fun hHeld2 => ?_)
            clear hb
            clear hK hHeld
            have hHeld := hHeld2
            clear hHeld2
            refine wpAnyH_ready (rs := [7]) (by kernel_rfl) (by simp) (AllReadyH.cons (at_drop (i := 7) rfl) (fun K2 hK => ?_) (AllReadyH.nil))
            obtain ⟨Z5, hZ5⟩ : ∃ Z5, Z5 = Z4.alloc (.cells #[.int .i64 0, .slice none 0 0, .int .i64 0, .slice none 0 0, .int .i64 0, .int .i64 0, .int .i64 0, .int .i64 0, .int .i64 0, .int .i64 0] 31) := ⟨_, rfl⟩
            have hb : Below Z4.heap.size Z4 Z5 := by rw [hZ5]; exact bel_alloc _ _
            have HV : Hid (Z5.rowIs Z4.heap.size 31 10 (rowL (ppL Wk.poNil none 0 none 0))) := by show World.rowIs _ _ _ _ _; rw [hZ5]; exact rowL_alloc Z4 (ppL Wk.poNil none 0 none 0) _
            obtain ⟨xb, hxb⟩ : ∃ xb, xb = Z4.heap.size := ⟨_, rfl⟩
            rw [← hxb] at HV
            have HXL : Hid (V0.heap.size ≤ xb) := by show _ ≤ _; rw [hxb]; exact hHeld.size
            replace HCP := Lib.hid (HCP.out.below hb)
            replace HAP := Lib.hid (HAP.out.below hb)
            replace HTW := Lib.hid (HTW.out.same (fun k _ _ hl => hb.block k hl))
            go_simp
            rw [← hZ5, ← hxb]
            clear hZ5
            refine hK.out _ _ (hHeld.trans (hb.mono hHeld.size)) (fun hHeld2 => ?_)
            clear hxb hb
            clear hK hHeld
            have hHeld := hHeld2
            clear hHeld2
            obtain ⟨Y, hY⟩ : ∃ Y, Y = ((((((((((Z5).setCell ⟨xb, 0, none⟩ (.int .i64 A.clean.wt)).setCell ⟨xb, 1, none⟩ (.slice ax A.clean.n kx)).setCell ⟨xb, 2, none⟩ (.int .i64 A.waste.wt)).setCell ⟨xb, 3, none⟩ (.slice ay A.waste.n ky)).setCell ⟨xb, 4, none⟩ (.int .i64 A.fl.held)).setCell ⟨xb, 5, none⟩ (.int .i64 A.fl.most)).setCell ⟨xb, 6, none⟩ (.int .i64 A.fl.catch_)).setCell ⟨xb, 7, none⟩ (.int .i64 A.fl.wash)).setCell ⟨xb, 8, none⟩ (.int .i64 A.washes)).setCell ⟨xb, 9, none⟩ (.int .i64 A.c) := ⟨_, rfl⟩
            have HYP : Hid (PrQ V0 A xb ax kx ay ky Y) := by
              show PrQ _ _ _ _ _ _ _ _
              rw [hY]
              exact prq_put HV.out HXL.out hHeld HTW.out
            obtain ⟨⟨o0, o1, o2, o3, o4⟩, o5, o6, o7, o8, o9⟩ := row10_cells HV.out
            obtain ⟨⟨f0, f1, f2, f3, f4⟩, f5, f6, f7, f8, f9⟩ := row10_fr HV.out
            have hol := HV.out.lt
            have HYE := Lib.hid hY
            clear hY
            refine take_call (i := 8) rfl (by kernel_rfl) (fun K2 hK => ?_)
            go_simp
            rw [← HYE.out]
            refine hK.out _ _ HYP.out.bel (fun hHeld2 => ?_)
            clear hK hHeld hHeld2 o0 o1 o2 o3 o4 o5 o6 o7 o8 o9 f0 f1 f2 f3 f4 f5 f6 f7 f8 f9 hol HYE HV
            refine wpAnyH_done (by kernel_rfl) ?_ _
            go_wp2_with fail
            go_meet
            case rel => exact ⟨xb, ax, kx, ay, ky, rfl, HYP⟩
          · obtain ⟨Z4, hZ4⟩ : ∃ Z4, Z4 = Z3.alloc (.cells #[.int .i64 0, .slice none 0 0, .int .i64 0, .slice none 0 0, .int .i64 0, .int .i64 0, .int .i64 0, .int .i64 0, .int .i64 0, .int .i64 0] 31) := ⟨_, rfl⟩
            have hb : Below Z3.heap.size Z3 Z4 := by rw [hZ4]; exact bel_alloc _ _
            have HV : Hid (Z4.rowIs Z3.heap.size 31 10 (rowL (ppL Wk.poNil none 0 none 0))) := by show World.rowIs _ _ _ _ _; rw [hZ4]; exact rowL_alloc Z3 (ppL Wk.poNil none 0 none 0) _
            obtain ⟨xb, hxb⟩ : ∃ xb, xb = Z3.heap.size := ⟨_, rfl⟩
            rw [← hxb] at HV
            have HXL : Hid (V0.heap.size ≤ xb) := by show _ ≤ _; rw [hxb]; exact hHeld.size
            replace HCP := Lib.hid (HCP.out.below hb)
            replace HAP := Lib.hid (HAP.out.below hb)
            go_simp
            rw [← hZ4, ← hxb]
            clear hZ4
            refine hK.out _ _ (hHeld.trans (hb.mono hHeld.size)) (fun hHeld2 => ?_)
            clear hxb hb
            clear hK hHeld
            have hHeld := hHeld2
            clear hHeld2
            refine wpAnyH_ready (rs := [6]) (by kernel_rfl) (by simp) (AllReadyH.cons (at_drop (i := 6) rfl) (fun K2 hK => ?_) (AllReadyH.nil))
            go_simp
            refine (IMPL.out ca cc ga ka _ HCP.out HAP.out (GL.out _ hHeld)).mono ?_
            rintro e Z5 ⟨⟨ax, kx, ay, ky, rfl, htw⟩, hb⟩
            have HTW := Lib.hid (htw.mono hHeld.size (Nat.le_refl _))
            clear htw
            replace HCP := Lib.hid (HCP.out.below hb)
            replace HAP := Lib.hid (HAP.out.below hb)
            replace HV := Lib.hid (wrow_below HV.out hb)
            go_wp2_with fail
            refine hK.out _ _ (hHeld.trans (hb.mono hHeld.size)) (fun hHeld2 => ?_)
            clear hb
            clear hK hHeld
            have hHeld := hHeld2
            clear hHeld2
            obtain ⟨Y, hY⟩ : ∃ Y, Y = ((((((((((Z5).setCell ⟨xb, 0, none⟩ (.int .i64 A.clean.wt)).setCell ⟨xb, 1, none⟩ (.slice ax A.clean.n kx)).setCell ⟨xb, 2, none⟩ (.int .i64 A.waste.wt)).setCell ⟨xb, 3, none⟩ (.slice ay A.waste.n ky)).setCell ⟨xb, 4, none⟩ (.int .i64 A.fl.held)).setCell ⟨xb, 5, none⟩ (.int .i64 A.fl.most)).setCell ⟨xb, 6, none⟩ (.int .i64 A.fl.catch_)).setCell ⟨xb, 7, none⟩ (.int .i64 A.fl.wash)).setCell ⟨xb, 8, none⟩ (.int .i64 A.washes)).setCell ⟨xb, 9, none⟩ (.int .i64 A.c) := ⟨_, rfl⟩
            have HYP : Hid (PrQ V0 A xb ax kx ay ky Y) := by
              show PrQ _ _ _ _ _ _ _ _
              rw [hY]
              exact prq_put HV.out HXL.out hHeld HTW.out
            obtain ⟨⟨o0, o1, o2, o3, o4⟩, o5, o6, o7, o8, o9⟩ := row10_cells HV.out
            obtain ⟨⟨f0, f1, f2, f3, f4⟩, f5, f6, f7, f8, f9⟩ := row10_fr HV.out
            have hol := HV.out.lt
            have HYE := Lib.hid hY
            clear hY
            refine take_call (i := 8) rfl (by kernel_rfl) (fun K2 hK => ?_)
            go_simp
            rw [← HYE.out]
            refine hK.out _ _ HYP.out.bel (fun hHeld2 => ?_)
            clear hK hHeld hHeld2 o0 o1 o2 o3 o4 o5 o6 o7 o8 o9 f0 f1 f2 f3 f4 f5 f6 f7 f8 f9 hol HYE HV
            refine wpAnyH_done (by kernel_rfl) ?_ _
            go_wp2_with fail
            go_meet
            case rel => exact ⟨xb, ax, kx, ay, ky, rfl, HYP⟩
        · obtain ⟨Z3, hZ3⟩ : ∃ Z3, Z3 = Z2.alloc (.cells #[.int .i64 0, .slice none 0 0, .int .i64 0, .slice none 0 0, .int .i64 0, .int .i64 0, .int .i64 0, .int .i64 0, .int .i64 0, .int .i64 0] 31) := ⟨_, rfl⟩
          have hb : Below Z2.heap.size Z2 Z3 := by rw [hZ3]; exact bel_alloc _ _
          have HV : Hid (Z3.rowIs Z2.heap.size 31 10 (rowL (ppL Wk.poNil none 0 none 0))) := by show World.rowIs _ _ _ _ _; rw [hZ3]; exact rowL_alloc Z2 (ppL Wk.poNil none 0 none 0) _
          obtain ⟨xb, hxb⟩ : ∃ xb, xb = Z2.heap.size := ⟨_, rfl⟩
          rw [← hxb] at HV
          have HXL : Hid (V0.heap.size ≤ xb) := by show _ ≤ _; rw [hxb]; exact hHeld.size
          replace HCP := Lib.hid (HCP.out.below hb)
          replace HBL := Lib.hid (ownFar HBL.out (fun k _ hl => hb.block k hl))
          go_simp
          rw [← hZ3, ← hxb]
          clear hZ3
          refine hK.out _ _ (hHeld.trans (hb.mono hHeld.size)) (fun hHeld2 => ?_)
          clear hxb hb
          clear hK hHeld
          have hHeld := hHeld2
          clear hHeld2
          refine wpAnyH_ready (rs := [5]) (by kernel_rfl) (by simp) (AllReadyH.cons (at_drop (i := 5) rfl) (fun K2 hK => ?_) (AllReadyH.nil))
          refine ap_at rfl (.tmp 31) (.tmp 32) 35 rfl V0.heap.size 28 i0 (.agg #[.int .i64 0, .slice none 0 0]) 2 32 Tryd.underlying35 hi0 hz0 hz1 hz2 rfl (by decide) (.slice (some ⟨gb, 0, none⟩) 0 0) 0 [] rfl HBL.out ⟨bl, 0, none⟩ n lk (beL cs n) rfl (beL_len cs n) (bel_src (LIST.out.2 _ hHeld)) (beL_one cs n) (by unfold maxLen; have := HN9.out; omega) (by have := HN9.out; omega) hHeld.size ?_
          intro v' Z4 hown hgrow hwhere
          have hS : Below V0.heap.size V0 Z4 := hHeld.grown hgrow hHeld.size (fun k e => by simp [Value.ownBlock] at e; subst e; exact (World.ownsRow.lt HBL.out gb rfl).1)
          obtain ⟨ga, ka, rfl⟩ : ∃ ga ka, v' = .slice ga n ka := by obtain ⟨ga, ka, e⟩ := ownShape hown; exact ⟨ga, ka, by simpa using e⟩
          have HAP : Hid (BtsAt ga n cs Z4) := bts_own (by simpa using hown) (fun i hi => (LIST.out.1 i hi).below hS)
          replace HCP : Hid (IntsAt ca p mi Z4) := ints_grown HCP.out HBL.out hgrow
          replace HV : Hid (World.rowIs Z4 xb 31 10 (rowL (ppL Wk.poNil none 0 none 0))) := HV.out.of_block (hgrow.block _ HV.out.lt (fun e => blk_ne (rowIs_type HV.out) (own_type HBL.out e.symm).2 (by decide) rfl))
          refine hK.out _ _ hS (fun hHeld2 => ?_)
          clear hown hgrow hwhere hS HBL
          clear hK hHeld
          have hHeld := hHeld2
          clear hHeld2
          simp only [Act.put, List.setIfInBounds_toArray, List.set_cons_zero, List.set_cons_succ]
          refine wpAnyH_ready (rs := [6]) (by kernel_rfl) (by simp) (AllReadyH.cons (at_drop (i := 6) rfl) (fun K2 hK => ?_) (AllReadyH.nil))
          go_simp
          refine (IMPL.out ca cc ga ka _ HCP.out HAP.out (GL.out _ hHeld)).mono ?_
          rintro e Z5 ⟨⟨ax, kx, ay, ky, rfl, htw⟩, hb⟩
          have HTW := Lib.hid (htw.mono hHeld.size (Nat.le_refl _))
          clear htw
          replace HCP := Lib.hid (HCP.out.below hb)
          replace HAP := Lib.hid (HAP.out.below hb)
          replace HV := Lib.hid (wrow_below HV.out hb)
          go_wp2_with fail
          refine hK.out _ _ (hHeld.trans (hb.mono hHeld.size)) (fun hHeld2 => ?_)
          clear hb
          clear hK hHeld
          have hHeld := hHeld2
          clear hHeld2
          obtain ⟨Y, hY⟩ : ∃ Y, Y = ((((((((((Z5).setCell ⟨xb, 0, none⟩ (.int .i64 A.clean.wt)).setCell ⟨xb, 1, none⟩ (.slice ax A.clean.n kx)).setCell ⟨xb, 2, none⟩ (.int .i64 A.waste.wt)).setCell ⟨xb, 3, none⟩ (.slice ay A.waste.n ky)).setCell ⟨xb, 4, none⟩ (.int .i64 A.fl.held)).setCell ⟨xb, 5, none⟩ (.int .i64 A.fl.most)).setCell ⟨xb, 6, none⟩ (.int .i64 A.fl.catch_)).setCell ⟨xb, 7, none⟩ (.int .i64 A.fl.wash)).setCell ⟨xb, 8, none⟩ (.int .i64 A.washes)).setCell ⟨xb, 9, none⟩ (.int .i64 A.c) := ⟨_, rfl⟩
          have HYP : Hid (PrQ V0 A xb ax kx ay ky Y) := by
            show PrQ _ _ _ _ _ _ _ _
            rw [hY]
            exact prq_put HV.out HXL.out hHeld HTW.out
          obtain ⟨⟨o0, o1, o2, o3, o4⟩, o5, o6, o7, o8, o9⟩ := row10_cells HV.out
          obtain ⟨⟨f0, f1, f2, f3, f4⟩, f5, f6, f7, f8, f9⟩ := row10_fr HV.out
          have hol := HV.out.lt
          have HYE := Lib.hid hY
          clear hY
          refine take_call (i := 8) rfl (by kernel_rfl) (fun K2 hK => ?_)
          go_simp
          rw [← HYE.out]
          refine hK.out _ _ HYP.out.bel (fun hHeld2 => ?_)
          clear hK hHeld hHeld2 o0 o1 o2 o3 o4 o5 o6 o7 o8 o9 f0 f1 f2 f3 f4 f5 f6 f7 f8 f9 hol HYE HV
          refine wpAnyH_done (by kernel_rfl) ?_ _
          go_wp2_with fail
          go_meet
          case rel => exact ⟨xb, ax, kx, ay, ky, rfl, HYP⟩
      · obtain ⟨Z2, hZ2⟩ : ∃ Z2, Z2 = Z1.alloc (.cells #[.int .i64 0, .slice none 0 0, .int .i64 0, .slice none 0 0, .int .i64 0, .int .i64 0, .int .i64 0, .int .i64 0, .int .i64 0, .int .i64 0] 31) := ⟨_, rfl⟩
        have hb : Below Z1.heap.size Z1 Z2 := by rw [hZ2]; exact bel_alloc _ _
        have HV : Hid (Z2.rowIs Z1.heap.size 31 10 (rowL (ppL Wk.poNil none 0 none 0))) := by show World.rowIs _ _ _ _ _; rw [hZ2]; exact rowL_alloc Z1 (ppL Wk.poNil none 0 none 0) _
        obtain ⟨xb, hxb⟩ : ∃ xb, xb = Z1.heap.size := ⟨_, rfl⟩
        rw [← hxb] at HV
        have HXL : Hid (V0.heap.size ≤ xb) := by show _ ≤ _; rw [hxb]; exact hHeld.size
        replace HCP := Lib.hid (HCP.out.below hb)
        go_simp
        rw [← hZ2, ← hxb]
        clear hZ2
        refine hK.out _ _ (hHeld.trans (hb.mono hHeld.size)) (fun hHeld2 => ?_)
        clear hxb hb
        clear hK hHeld
        have hHeld := hHeld2
        clear hHeld2
        refine wpAnyH_ready (rs := [3]) (by kernel_rfl) (by simp) (AllReadyH.cons (at_drop (i := 3) rfl) (fun K2 hK => ?_) (AllReadyH.nil))
        obtain ⟨Z3, hZ3⟩ : ∃ Z3, Z3 = Z2.alloc (.cells #[] 28) := ⟨_, rfl⟩
        have hb : Below Z2.heap.size Z2 Z3 := by rw [hZ3]; exact bel_alloc _ _
        obtain ⟨gb, hgb⟩ : ∃ gb, gb = Z2.heap.size := ⟨_, rfl⟩
        have HBL : Hid (Z3.ownsRow V0.heap.size 28 2 (.slice (some ⟨gb, 0, none⟩) 0 0) 0 []) := by show World.ownsRow _ _ _ _ _ _ _; rw [hZ3, hgb]; exact World.ownsRow_made Z2 #[] 0 hHeld.size (Nat.zero_le _) rfl
        replace HCP := Lib.hid (HCP.out.below hb)
        replace HV := Lib.hid (wrow_below HV.out hb)
        go_simp
        rw [← hZ3, ← hgb]
        clear hZ3
        refine hK.out _ _ (hHeld.trans (hb.mono hHeld.size)) (fun hHeld2 => ?_)
        clear hgb hb
        clear hK hHeld
        have hHeld := hHeld2
        clear hHeld2
        refine wpAnyH_ready (rs := [5]) (by kernel_rfl) (by simp) (AllReadyH.cons (at_drop (i := 5) rfl) (fun K2 hK => ?_) (AllReadyH.nil))
        refine ap_at rfl (.tmp 31) (.tmp 32) 35 rfl V0.heap.size 28 i0 (.agg #[.int .i64 0, .slice none 0 0]) 2 32 Tryd.underlying35 hi0 hz0 hz1 hz2 rfl (by decide) (.slice (some ⟨gb, 0, none⟩) 0 0) 0 [] rfl HBL.out ⟨bl, 0, none⟩ n lk (beL cs n) rfl (beL_len cs n) (bel_src (LIST.out.2 _ hHeld)) (beL_one cs n) (by unfold maxLen; have := HN9.out; omega) (by have := HN9.out; omega) hHeld.size ?_
        intro v' Z4 hown hgrow hwhere
        have hS : Below V0.heap.size V0 Z4 := hHeld.grown hgrow hHeld.size (fun k e => by simp [Value.ownBlock] at e; subst e; exact (World.ownsRow.lt HBL.out gb rfl).1)
        obtain ⟨ga, ka, rfl⟩ : ∃ ga ka, v' = .slice ga n ka := by obtain ⟨ga, ka, e⟩ := ownShape hown; exact ⟨ga, ka, by simpa using e⟩
        have HAP : Hid (BtsAt ga n cs Z4) := bts_own (by simpa using hown) (fun i hi => (LIST.out.1 i hi).below hS)
        replace HCP : Hid (IntsAt ca p mi Z4) := ints_grown HCP.out HBL.out hgrow
        replace HV : Hid (World.rowIs Z4 xb 31 10 (rowL (ppL Wk.poNil none 0 none 0))) := HV.out.of_block (hgrow.block _ HV.out.lt (fun e => blk_ne (rowIs_type HV.out) (own_type HBL.out e.symm).2 (by decide) rfl))
        refine hK.out _ _ hS (fun hHeld2 => ?_)
        clear hown hgrow hwhere hS HBL
        clear hK hHeld
        have hHeld := hHeld2
        clear hHeld2
        simp only [Act.put, List.setIfInBounds_toArray, List.set_cons_zero, List.set_cons_succ]
        refine wpAnyH_ready (rs := [6]) (by kernel_rfl) (by simp) (AllReadyH.cons (at_drop (i := 6) rfl) (fun K2 hK => ?_) (AllReadyH.nil))
        go_simp
        refine (IMPL.out ca cc ga ka _ HCP.out HAP.out (GL.out _ hHeld)).mono ?_
        rintro e Z5 ⟨⟨ax, kx, ay, ky, rfl, htw⟩, hb⟩
        have HTW := Lib.hid (htw.mono hHeld.size (Nat.le_refl _))
        clear htw
        replace HCP := Lib.hid (HCP.out.below hb)
        replace HAP := Lib.hid (HAP.out.below hb)
        replace HV := Lib.hid (wrow_below HV.out hb)
        go_wp2_with fail
        refine hK.out _ _ (hHeld.trans (hb.mono hHeld.size)) (fun hHeld2 => ?_)
        clear hb
        clear hK hHeld
        have hHeld := hHeld2
        clear hHeld2
        obtain ⟨Y, hY⟩ : ∃ Y, Y = ((((((((((Z5).setCell ⟨xb, 0, none⟩ (.int .i64 A.clean.wt)).setCell ⟨xb, 1, none⟩ (.slice ax A.clean.n kx)).setCell ⟨xb, 2, none⟩ (.int .i64 A.waste.wt)).setCell ⟨xb, 3, none⟩ (.slice ay A.waste.n ky)).setCell ⟨xb, 4, none⟩ (.int .i64 A.fl.held)).setCell ⟨xb, 5, none⟩ (.int .i64 A.fl.most)).setCell ⟨xb, 6, none⟩ (.int .i64 A.fl.catch_)).setCell ⟨xb, 7, none⟩ (.int .i64 A.fl.wash)).setCell ⟨xb, 8, none⟩ (.int .i64 A.washes)).setCell ⟨xb, 9, none⟩ (.int .i64 A.c) := ⟨_, rfl⟩
        have HYP : Hid (PrQ V0 A xb ax kx ay ky Y) := by
          show PrQ _ _ _ _ _ _ _ _
          rw [hY]
          exact prq_put HV.out HXL.out hHeld HTW.out
        obtain ⟨⟨o0, o1, o2, o3, o4⟩, o5, o6, o7, o8, o9⟩ := row10_cells HV.out
        obtain ⟨⟨f0, f1, f2, f3, f4⟩, f5, f6, f7, f8, f9⟩ := row10_fr HV.out
        have hol := HV.out.lt
        have HYE := Lib.hid hY
        clear hY
        refine take_call (i := 8) rfl (by kernel_rfl) (fun K2 hK => ?_)
        go_simp
        rw [← HYE.out]
        refine hK.out _ _ HYP.out.bel (fun hHeld2 => ?_)
        clear hK hHeld hHeld2 o0 o1 o2 o3 o4 o5 o6 o7 o8 o9 f0 f1 f2 f3 f4 f5 f6 f7 f8 f9 hol HYE HV
        refine wpAnyH_done (by kernel_rfl) ?_ _
        go_wp2_with fail
        go_meet
        case rel => exact ⟨xb, ax, kx, ay, ky, rfl, HYP⟩
    · obtain ⟨Z1, hZ1⟩ : ∃ Z1, Z1 = Z.alloc (.cells #[] 28) := ⟨_, rfl⟩
      have hb : Below Z.heap.size Z Z1 := by rw [hZ1]; exact bel_alloc _ _
      obtain ⟨gb, hgb⟩ : ∃ gb, gb = Z.heap.size := ⟨_, rfl⟩
      have HBL : Hid (Z1.ownsRow V0.heap.size 28 2 (.slice (some ⟨gb, 0, none⟩) 0 0) 0 []) := by show World.ownsRow _ _ _ _ _ _ _; rw [hZ1, hgb]; exact World.ownsRow_made Z #[] 0 hHeld.size (Nat.zero_le _) rfl
      go_simp
      rw [← hZ1, ← hgb]
      clear hZ1
      refine hK.out _ _ (hHeld.trans (hb.mono hHeld.size)) (fun hHeld2 => ?_)
      clear hgb hb
      clear hK hHeld
      have hHeld := hHeld2
      clear hHeld2
      refine wpAnyH_ready (rs := [2, 7]) (by kernel_rfl) (by simp) (AllReadyH.cons (at_drop (i := 2) rfl) (fun K2 hK => ?_) (AllReadyH.cons (at_drop (i := 7) rfl) (fun K2 hK => ?_) (AllReadyH.nil)))
      · go_simp
        refine (lwCopyQ_any ⟨0, ma, p, mk, mi⟩ w.heap.size _ (MILLS.out.keep2 hHeld) (by have := HP5.out; show p ≤ 1000; omega) BK.out.m0).mono ?_
        rintro e Z2 ⟨⟨ca, cc, rfl, hcp⟩, hb⟩
        have HCP := Lib.hid hcp
        clear hcp
        replace HBL := Lib.hid (ownFar HBL.out (fun k _ hl => hb.block k hl))
        go_wp2_with fail
        refine hK.out _ _ (hHeld.trans (hb.mono hHeld.size)) (fun hHeld2 => ?_)
        clear hb
        clear hK hHeld
        have hHeld := hHeld2
        clear hHeld2
        refine wpAnyH_ready (rs := [5, 7]) (by kernel_rfl) (by simp) (AllReadyH.cons (at_drop (i := 5) rfl) (fun K2 hK => ?_) (AllReadyH.cons (at_drop (i := 7) rfl) (fun K2 hK => ?_) (AllReadyH.nil)))
        · refine ap_at rfl (.tmp 31) (.tmp 32) 35 rfl V0.heap.size 28 i0 (.agg #[.int .i64 0, .slice none 0 0]) 2 32 Tryd.underlying35 hi0 hz0 hz1 hz2 rfl (by decide) (.slice (some ⟨gb, 0, none⟩) 0 0) 0 [] rfl HBL.out ⟨bl, 0, none⟩ n lk (beL cs n) rfl (beL_len cs n) (bel_src (LIST.out.2 _ hHeld)) (beL_one cs n) (by unfold maxLen; have := HN9.out; omega) (by have := HN9.out; omega) hHeld.size ?_
          intro v' Z3 hown hgrow hwhere
          have hS : Below V0.heap.size V0 Z3 := hHeld.grown hgrow hHeld.size (fun k e => by simp [Value.ownBlock] at e; subst e; exact (World.ownsRow.lt HBL.out gb rfl).1)
          obtain ⟨ga, ka, rfl⟩ : ∃ ga ka, v' = .slice ga n ka := by obtain ⟨ga, ka, e⟩ := ownShape hown; exact ⟨ga, ka, by simpa using e⟩
          have HAP : Hid (BtsAt ga n cs Z3) := bts_own (by simpa using hown) (fun i hi => (LIST.out.1 i hi).below hS)
          replace HCP : Hid (IntsAt ca p mi Z3) := ints_grown HCP.out HBL.out hgrow
          refine hK.out _ _ hS (fun hHeld2 => ?_)
          clear hown hgrow hwhere hS HBL
          clear hK hHeld
          have hHeld := hHeld2
          clear hHeld2
          simp only [Act.put, List.setIfInBounds_toArray, List.set_cons_zero, List.set_cons_succ]
          refine wpAnyH_ready (rs := [6, 7]) (by kernel_rfl) (by simp) (AllReadyH.cons (at_drop (i := 6) rfl) (fun K2 hK => ?_) (AllReadyH.cons (at_drop (i := 7) rfl) (fun K2 hK => ?_) (AllReadyH.nil)))
          · go_simp
            refine (IMPL.out ca cc ga ka _ HCP.out HAP.out (GL.out _ hHeld)).mono ?_
            rintro e Z4 ⟨⟨ax, kx, ay, ky, rfl, htw⟩, hb⟩
            have HTW := Lib.hid (htw.mono hHeld.size (Nat.le_refl _))
            clear htw
            replace HCP := Lib.hid (HCP.out.below hb)
            replace HAP := Lib.hid (HAP.out.below hb)
            go_wp2_with fail
            refine hK.out _ _ (hHeld.trans (hb.mono hHeld.size)) (fun hHeld2 => ?_)
            clear hb
            clear hK hHeld
            have hHeld := hHeld2
            clear hHeld2
            refine wpAnyH_ready (rs := [7]) (by kernel_rfl) (by simp) (AllReadyH.cons (at_drop (i := 7) rfl) (fun K2 hK => ?_) (AllReadyH.nil))
            obtain ⟨Z5, hZ5⟩ : ∃ Z5, Z5 = Z4.alloc (.cells #[.int .i64 0, .slice none 0 0, .int .i64 0, .slice none 0 0, .int .i64 0, .int .i64 0, .int .i64 0, .int .i64 0, .int .i64 0, .int .i64 0] 31) := ⟨_, rfl⟩
            have hb : Below Z4.heap.size Z4 Z5 := by rw [hZ5]; exact bel_alloc _ _
            have HV : Hid (Z5.rowIs Z4.heap.size 31 10 (rowL (ppL Wk.poNil none 0 none 0))) := by show World.rowIs _ _ _ _ _; rw [hZ5]; exact rowL_alloc Z4 (ppL Wk.poNil none 0 none 0) _
            obtain ⟨xb, hxb⟩ : ∃ xb, xb = Z4.heap.size := ⟨_, rfl⟩
            rw [← hxb] at HV
            have HXL : Hid (V0.heap.size ≤ xb) := by show _ ≤ _; rw [hxb]; exact hHeld.size
            replace HCP := Lib.hid (HCP.out.below hb)
            replace HAP := Lib.hid (HAP.out.below hb)
            replace HTW := Lib.hid (HTW.out.same (fun k _ _ hl => hb.block k hl))
            go_simp
            rw [← hZ5, ← hxb]
            clear hZ5
            refine hK.out _ _ (hHeld.trans (hb.mono hHeld.size)) (fun hHeld2 => ?_)
            clear hxb hb
            clear hK hHeld
            have hHeld := hHeld2
            clear hHeld2
            obtain ⟨Y, hY⟩ : ∃ Y, Y = ((((((((((Z5).setCell ⟨xb, 0, none⟩ (.int .i64 A.clean.wt)).setCell ⟨xb, 1, none⟩ (.slice ax A.clean.n kx)).setCell ⟨xb, 2, none⟩ (.int .i64 A.waste.wt)).setCell ⟨xb, 3, none⟩ (.slice ay A.waste.n ky)).setCell ⟨xb, 4, none⟩ (.int .i64 A.fl.held)).setCell ⟨xb, 5, none⟩ (.int .i64 A.fl.most)).setCell ⟨xb, 6, none⟩ (.int .i64 A.fl.catch_)).setCell ⟨xb, 7, none⟩ (.int .i64 A.fl.wash)).setCell ⟨xb, 8, none⟩ (.int .i64 A.washes)).setCell ⟨xb, 9, none⟩ (.int .i64 A.c) := ⟨_, rfl⟩
            have HYP : Hid (PrQ V0 A xb ax kx ay ky Y) := by
              show PrQ _ _ _ _ _ _ _ _
              rw [hY]
              exact prq_put HV.out HXL.out hHeld HTW.out
            obtain ⟨⟨o0, o1, o2, o3, o4⟩, o5, o6, o7, o8, o9⟩ := row10_cells HV.out
            obtain ⟨⟨f0, f1, f2, f3, f4⟩, f5, f6, f7, f8, f9⟩ := row10_fr HV.out
            have hol := HV.out.lt
            have HYE := Lib.hid hY
            clear hY
            refine take_call (i := 8) rfl (by kernel_rfl) (fun K2 hK => ?_)
            go_simp
            rw [← HYE.out]
            refine hK.out _ _ HYP.out.bel (fun hHeld2 => ?_)
            clear hK hHeld hHeld2 o0 o1 o2 o3 o4 o5 o6 o7 o8 o9 f0 f1 f2 f3 f4 f5 f6 f7 f8 f9 hol HYE HV
            refine wpAnyH_done (by kernel_rfl) ?_ _
            go_wp2_with fail
            go_meet
            case rel => exact ⟨xb, ax, kx, ay, ky, rfl, HYP⟩
          · obtain ⟨Z4, hZ4⟩ : ∃ Z4, Z4 = Z3.alloc (.cells #[.int .i64 0, .slice none 0 0, .int .i64 0, .slice none 0 0, .int .i64 0, .int .i64 0, .int .i64 0, .int .i64 0, .int .i64 0, .int .i64 0] 31) := ⟨_, rfl⟩
            have hb : Below Z3.heap.size Z3 Z4 := by rw [hZ4]; exact bel_alloc _ _
            have HV : Hid (Z4.rowIs Z3.heap.size 31 10 (rowL (ppL Wk.poNil none 0 none 0))) := by show World.rowIs _ _ _ _ _; rw [hZ4]; exact rowL_alloc Z3 (ppL Wk.poNil none 0 none 0) _
            obtain ⟨xb, hxb⟩ : ∃ xb, xb = Z3.heap.size := ⟨_, rfl⟩
            rw [← hxb] at HV
            have HXL : Hid (V0.heap.size ≤ xb) := by show _ ≤ _; rw [hxb]; exact hHeld.size
            replace HCP := Lib.hid (HCP.out.below hb)
            replace HAP := Lib.hid (HAP.out.below hb)
            go_simp
            rw [← hZ4, ← hxb]
            clear hZ4
            refine hK.out _ _ (hHeld.trans (hb.mono hHeld.size)) (fun hHeld2 => ?_)
            clear hxb hb
            clear hK hHeld
            have hHeld := hHeld2
            clear hHeld2
            refine wpAnyH_ready (rs := [6]) (by kernel_rfl) (by simp) (AllReadyH.cons (at_drop (i := 6) rfl) (fun K2 hK => ?_) (AllReadyH.nil))
            go_simp
            refine (IMPL.out ca cc ga ka _ HCP.out HAP.out (GL.out _ hHeld)).mono ?_
            rintro e Z5 ⟨⟨ax, kx, ay, ky, rfl, htw⟩, hb⟩
            have HTW := Lib.hid (htw.mono hHeld.size (Nat.le_refl _))
            clear htw
            replace HCP := Lib.hid (HCP.out.below hb)
            replace HAP := Lib.hid (HAP.out.below hb)
            replace HV := Lib.hid (wrow_below HV.out hb)
            go_wp2_with fail
            refine hK.out _ _ (hHeld.trans (hb.mono hHeld.size)) (fun hHeld2 => ?_)
            clear hb
            clear hK hHeld
            have hHeld := hHeld2
            clear hHeld2
            obtain ⟨Y, hY⟩ : ∃ Y, Y = ((((((((((Z5).setCell ⟨xb, 0, none⟩ (.int .i64 A.clean.wt)).setCell ⟨xb, 1, none⟩ (.slice ax A.clean.n kx)).setCell ⟨xb, 2, none⟩ (.int .i64 A.waste.wt)).setCell ⟨xb, 3, none⟩ (.slice ay A.waste.n ky)).setCell ⟨xb, 4, none⟩ (.int .i64 A.fl.held)).setCell ⟨xb, 5, none⟩ (.int .i64 A.fl.most)).setCell ⟨xb, 6, none⟩ (.int .i64 A.fl.catch_)).setCell ⟨xb, 7, none⟩ (.int .i64 A.fl.wash)).setCell ⟨xb, 8, none⟩ (.int .i64 A.washes)).setCell ⟨xb, 9, none⟩ (.int .i64 A.c) := ⟨_, rfl⟩
            have HYP : Hid (PrQ V0 A xb ax kx ay ky Y) := by
              show PrQ _ _ _ _ _ _ _ _
              rw [hY]
              exact prq_put HV.out HXL.out hHeld HTW.out
            obtain ⟨⟨o0, o1, o2, o3, o4⟩, o5, o6, o7, o8, o9⟩ := row10_cells HV.out
            obtain ⟨⟨f0, f1, f2, f3, f4⟩, f5, f6, f7, f8, f9⟩ := row10_fr HV.out
            have hol := HV.out.lt
            have HYE := Lib.hid hY
            clear hY
            refine take_call (i := 8) rfl (by kernel_rfl) (fun K2 hK => ?_)
            go_simp
            rw [← HYE.out]
            refine hK.out _ _ HYP.out.bel (fun hHeld2 => ?_)
            clear hK hHeld hHeld2 o0 o1 o2 o3 o4 o5 o6 o7 o8 o9 f0 f1 f2 f3 f4 f5 f6 f7 f8 f9 hol HYE HV
            refine wpAnyH_done (by kernel_rfl) ?_ _
            go_wp2_with fail
            go_meet
            case rel => exact ⟨xb, ax, kx, ay, ky, rfl, HYP⟩
        · obtain ⟨Z3, hZ3⟩ : ∃ Z3, Z3 = Z2.alloc (.cells #[.int .i64 0, .slice none 0 0, .int .i64 0, .slice none 0 0, .int .i64 0, .int .i64 0, .int .i64 0, .int .i64 0, .int .i64 0, .int .i64 0] 31) := ⟨_, rfl⟩
          have hb : Below Z2.heap.size Z2 Z3 := by rw [hZ3]; exact bel_alloc _ _
          have HV : Hid (Z3.rowIs Z2.heap.size 31 10 (rowL (ppL Wk.poNil none 0 none 0))) := by show World.rowIs _ _ _ _ _; rw [hZ3]; exact rowL_alloc Z2 (ppL Wk.poNil none 0 none 0) _
          obtain ⟨xb, hxb⟩ : ∃ xb, xb = Z2.heap.size := ⟨_, rfl⟩
          rw [← hxb] at HV
          have HXL : Hid (V0.heap.size ≤ xb) := by show _ ≤ _; rw [hxb]; exact hHeld.size
          replace HCP := Lib.hid (HCP.out.below hb)
          replace HBL := Lib.hid (ownFar HBL.out (fun k _ hl => hb.block k hl))
          go_simp
          rw [← hZ3, ← hxb]
          clear hZ3
          refine hK.out _ _ (hHeld.trans (hb.mono hHeld.size)) (fun hHeld2 => ?_)
          clear hxb hb
          clear hK hHeld
          have hHeld := hHeld2
          clear hHeld2
          refine wpAnyH_ready (rs := [5]) (by kernel_rfl) (by simp) (AllReadyH.cons (at_drop (i := 5) rfl) (fun K2 hK => ?_) (AllReadyH.nil))
          refine ap_at rfl (.tmp 31) (.tmp 32) 35 rfl V0.heap.size 28 i0 (.agg #[.int .i64 0, .slice none 0 0]) 2 32 Tryd.underlying35 hi0 hz0 hz1 hz2 rfl (by decide) (.slice (some ⟨gb, 0, none⟩) 0 0) 0 [] rfl HBL.out ⟨bl, 0, none⟩ n lk (beL cs n) rfl (beL_len cs n) (bel_src (LIST.out.2 _ hHeld)) (beL_one cs n) (by unfold maxLen; have := HN9.out; omega) (by have := HN9.out; omega) hHeld.size ?_
          intro v' Z4 hown hgrow hwhere
          have hS : Below V0.heap.size V0 Z4 := hHeld.grown hgrow hHeld.size (fun k e => by simp [Value.ownBlock] at e; subst e; exact (World.ownsRow.lt HBL.out gb rfl).1)
          obtain ⟨ga, ka, rfl⟩ : ∃ ga ka, v' = .slice ga n ka := by obtain ⟨ga, ka, e⟩ := ownShape hown; exact ⟨ga, ka, by simpa using e⟩
          have HAP : Hid (BtsAt ga n cs Z4) := bts_own (by simpa using hown) (fun i hi => (LIST.out.1 i hi).below hS)
          replace HCP : Hid (IntsAt ca p mi Z4) := ints_grown HCP.out HBL.out hgrow
          replace HV : Hid (World.rowIs Z4 xb 31 10 (rowL (ppL Wk.poNil none 0 none 0))) := HV.out.of_block (hgrow.block _ HV.out.lt (fun e => blk_ne (rowIs_type HV.out) (own_type HBL.out e.symm).2 (by decide) rfl))
          refine hK.out _ _ hS (fun hHeld2 => ?_)
          clear hown hgrow hwhere hS HBL
          clear hK hHeld
          have hHeld := hHeld2
          clear hHeld2
          simp only [Act.put, List.setIfInBounds_toArray, List.set_cons_zero, List.set_cons_succ]
          refine wpAnyH_ready (rs := [6]) (by kernel_rfl) (by simp) (AllReadyH.cons (at_drop (i := 6) rfl) (fun K2 hK => ?_) (AllReadyH.nil))
          go_simp
          refine (IMPL.out ca cc ga ka _ HCP.out HAP.out (GL.out _ hHeld)).mono ?_
          rintro e Z5 ⟨⟨ax, kx, ay, ky, rfl, htw⟩, hb⟩
          have HTW := Lib.hid (htw.mono hHeld.size (Nat.le_refl _))
          clear htw
          replace HCP := Lib.hid (HCP.out.below hb)
          replace HAP := Lib.hid (HAP.out.below hb)
          replace HV := Lib.hid (wrow_below HV.out hb)
          go_wp2_with fail
          refine hK.out _ _ (hHeld.trans (hb.mono hHeld.size)) (fun hHeld2 => ?_)
          clear hb
          clear hK hHeld
          have hHeld := hHeld2
          clear hHeld2
          obtain ⟨Y, hY⟩ : ∃ Y, Y = ((((((((((Z5).setCell ⟨xb, 0, none⟩ (.int .i64 A.clean.wt)).setCell ⟨xb, 1, none⟩ (.slice ax A.clean.n kx)).setCell ⟨xb, 2, none⟩ (.int .i64 A.waste.wt)).setCell ⟨xb, 3, none⟩ (.slice ay A.waste.n ky)).setCell ⟨xb, 4, none⟩ (.int .i64 A.fl.held)).setCell ⟨xb, 5, none⟩ (.int .i64 A.fl.most)).setCell ⟨xb, 6, none⟩ (.int .i64 A.fl.catch_)).setCell ⟨xb, 7, none⟩ (.int .i64 A.fl.wash)).setCell ⟨xb, 8, none⟩ (.int .i64 A.washes)).setCell ⟨xb, 9, none⟩ (.int .i64 A.c) := ⟨_, rfl⟩
          have HYP : Hid (PrQ V0 A xb ax kx ay ky Y) := by
            show PrQ _ _ _ _ _ _ _ _
            rw [hY]
            exact prq_put HV.out HXL.out hHeld HTW.out
          obtain ⟨⟨o0, o1, o2, o3, o4⟩, o5, o6, o7, o8, o9⟩ := row10_cells HV.out
          obtain ⟨⟨f0, f1, f2, f3, f4⟩, f5, f6, f7, f8, f9⟩ := row10_fr HV.out
          have hol := HV.out.lt
          have HYE := Lib.hid hY
          clear hY
          refine take_call (i := 8) rfl (by kernel_rfl) (fun K2 hK => ?_)
          go_simp
          rw [← HYE.out]
          refine hK.out _ _ HYP.out.bel (fun hHeld2 => ?_)
          clear hK hHeld hHeld2 o0 o1 o2 o3 o4 o5 o6 o7 o8 o9 f0 f1 f2 f3 f4 f5 f6 f7 f8 f9 hol HYE HV
          refine wpAnyH_done (by kernel_rfl) ?_ _
          go_wp2_with fail
          go_meet
          case rel => exact ⟨xb, ax, kx, ay, ky, rfl, HYP⟩
      · obtain ⟨Z2, hZ2⟩ : ∃ Z2, Z2 = Z1.alloc (.cells #[.int .i64 0, .slice none 0 0, .int .i64 0, .slice none 0 0, .int .i64 0, .int .i64 0, .int .i64 0, .int .i64 0, .int .i64 0, .int .i64 0] 31) := ⟨_, rfl⟩
        have hb : Below Z1.heap.size Z1 Z2 := by rw [hZ2]; exact bel_alloc _ _
        have HV : Hid (Z2.rowIs Z1.heap.size 31 10 (rowL (ppL Wk.poNil none 0 none 0))) := by show World.rowIs _ _ _ _ _; rw [hZ2]; exact rowL_alloc Z1 (ppL Wk.poNil none 0 none 0) _
        obtain ⟨xb, hxb⟩ : ∃ xb, xb = Z1.heap.size := ⟨_, rfl⟩
        rw [← hxb] at HV
        have HXL : Hid (V0.heap.size ≤ xb) := by show _ ≤ _; rw [hxb]; exact hHeld.size
        replace HBL := Lib.hid (ownFar HBL.out (fun k _ hl => hb.block k hl))
        go_simp
        rw [← hZ2, ← hxb]
        clear hZ2
        refine hK.out _ _ (hHeld.trans (hb.mono hHeld.size)) (fun hHeld2 => ?_)
        clear hxb hb
        clear hK hHeld
        have hHeld := hHeld2
        clear hHeld2
        refine wpAnyH_ready (rs := [2]) (by kernel_rfl) (by simp) (AllReadyH.cons (at_drop (i := 2) rfl) (fun K2 hK => ?_) (AllReadyH.nil))
        go_simp
        refine (lwCopyQ_any ⟨0, ma, p, mk, mi⟩ w.heap.size _ (MILLS.out.keep2 hHeld) (by have := HP5.out; show p ≤ 1000; omega) BK.out.m0).mono ?_
        rintro e Z3 ⟨⟨ca, cc, rfl, hcp⟩, hb⟩
        have HCP := Lib.hid hcp
        clear hcp
        replace HBL := Lib.hid (ownFar HBL.out (fun k _ hl => hb.block k hl))
        replace HV := Lib.hid (wrow_below HV.out hb)
        go_wp2_with fail
        refine hK.out _ _ (hHeld.trans (hb.mono hHeld.size)) (fun hHeld2 => ?_)
        clear hb
        clear hK hHeld
        have hHeld := hHeld2
        clear hHeld2
        refine wpAnyH_ready (rs := [5]) (by kernel_rfl) (by simp) (AllReadyH.cons (at_drop (i := 5) rfl) (fun K2 hK => ?_) (AllReadyH.nil))
        refine ap_at rfl (.tmp 31) (.tmp 32) 35 rfl V0.heap.size 28 i0 (.agg #[.int .i64 0, .slice none 0 0]) 2 32 Tryd.underlying35 hi0 hz0 hz1 hz2 rfl (by decide) (.slice (some ⟨gb, 0, none⟩) 0 0) 0 [] rfl HBL.out ⟨bl, 0, none⟩ n lk (beL cs n) rfl (beL_len cs n) (bel_src (LIST.out.2 _ hHeld)) (beL_one cs n) (by unfold maxLen; have := HN9.out; omega) (by have := HN9.out; omega) hHeld.size ?_
        intro v' Z4 hown hgrow hwhere
        have hS : Below V0.heap.size V0 Z4 := hHeld.grown hgrow hHeld.size (fun k e => by simp [Value.ownBlock] at e; subst e; exact (World.ownsRow.lt HBL.out gb rfl).1)
        obtain ⟨ga, ka, rfl⟩ : ∃ ga ka, v' = .slice ga n ka := by obtain ⟨ga, ka, e⟩ := ownShape hown; exact ⟨ga, ka, by simpa using e⟩
        have HAP : Hid (BtsAt ga n cs Z4) := bts_own (by simpa using hown) (fun i hi => (LIST.out.1 i hi).below hS)
        replace HCP : Hid (IntsAt ca p mi Z4) := ints_grown HCP.out HBL.out hgrow
        replace HV : Hid (World.rowIs Z4 xb 31 10 (rowL (ppL Wk.poNil none 0 none 0))) := HV.out.of_block (hgrow.block _ HV.out.lt (fun e => blk_ne (rowIs_type HV.out) (own_type HBL.out e.symm).2 (by decide) rfl))
        refine hK.out _ _ hS (fun hHeld2 => ?_)
        clear hown hgrow hwhere hS HBL
        clear hK hHeld
        have hHeld := hHeld2
        clear hHeld2
        simp only [Act.put, List.setIfInBounds_toArray, List.set_cons_zero, List.set_cons_succ]
        refine wpAnyH_ready (rs := [6]) (by kernel_rfl) (by simp) (AllReadyH.cons (at_drop (i := 6) rfl) (fun K2 hK => ?_) (AllReadyH.nil))
        go_simp
        refine (IMPL.out ca cc ga ka _ HCP.out HAP.out (GL.out _ hHeld)).mono ?_
        rintro e Z5 ⟨⟨ax, kx, ay, ky, rfl, htw⟩, hb⟩
        have HTW := Lib.hid (htw.mono hHeld.size (Nat.le_refl _))
        clear htw
        replace HCP := Lib.hid (HCP.out.below hb)
        replace HAP := Lib.hid (HAP.out.below hb)
        replace HV := Lib.hid (wrow_below HV.out hb)
        go_wp2_with fail
        refine hK.out _ _ (hHeld.trans (hb.mono hHeld.size)) (fun hHeld2 => ?_)
        clear hb
        clear hK hHeld
        have hHeld := hHeld2
        clear hHeld2
        obtain ⟨Y, hY⟩ : ∃ Y, Y = ((((((((((Z5).setCell ⟨xb, 0, none⟩ (.int .i64 A.clean.wt)).setCell ⟨xb, 1, none⟩ (.slice ax A.clean.n kx)).setCell ⟨xb, 2, none⟩ (.int .i64 A.waste.wt)).setCell ⟨xb, 3, none⟩ (.slice ay A.waste.n ky)).setCell ⟨xb, 4, none⟩ (.int .i64 A.fl.held)).setCell ⟨xb, 5, none⟩ (.int .i64 A.fl.most)).setCell ⟨xb, 6, none⟩ (.int .i64 A.fl.catch_)).setCell ⟨xb, 7, none⟩ (.int .i64 A.fl.wash)).setCell ⟨xb, 8, none⟩ (.int .i64 A.washes)).setCell ⟨xb, 9, none⟩ (.int .i64 A.c) := ⟨_, rfl⟩
        have HYP : Hid (PrQ V0 A xb ax kx ay ky Y) := by
          show PrQ _ _ _ _ _ _ _ _
          rw [hY]
          exact prq_put HV.out HXL.out hHeld HTW.out
        obtain ⟨⟨o0, o1, o2, o3, o4⟩, o5, o6, o7, o8, o9⟩ := row10_cells HV.out
        obtain ⟨⟨f0, f1, f2, f3, f4⟩, f5, f6, f7, f8, f9⟩ := row10_fr HV.out
        have hol := HV.out.lt
        have HYE := Lib.hid hY
        clear hY
        refine take_call (i := 8) rfl (by kernel_rfl) (fun K2 hK => ?_)
        go_simp
        rw [← HYE.out]
        refine hK.out _ _ HYP.out.bel (fun hHeld2 => ?_)
        clear hK hHeld hHeld2 o0 o1 o2 o3 o4 o5 o6 o7 o8 o9 f0 f1 f2 f3 f4 f5 f6 f7 f8 f9 hol HYE HV
        refine wpAnyH_done (by kernel_rfl) ?_ _
        go_wp2_with fail
        go_meet
        case rel => exact ⟨xb, ax, kx, ay, ky, rfl, HYP⟩
    · obtain ⟨Z1, hZ1⟩ : ∃ Z1, Z1 = Z.alloc (.cells #[.int .i64 0, .slice none 0 0, .int .i64 0, .slice none 0 0, .int .i64 0, .int .i64 0, .int .i64 0, .int .i64 0, .int .i64 0, .int .i64 0] 31) := ⟨_, rfl⟩
      have hb : Below Z.heap.size Z Z1 := by rw [hZ1]; exact bel_alloc _ _
      have HV : Hid (Z1.rowIs Z.heap.size 31 10 (rowL (ppL Wk.poNil none 0 none 0))) := by show World.rowIs _ _ _ _ _; rw [hZ1]; exact rowL_alloc Z (ppL Wk.poNil none 0 none 0) _
      obtain ⟨xb, hxb⟩ : ∃ xb, xb = Z.heap.size := ⟨_, rfl⟩
      rw [← hxb] at HV
      have HXL : Hid (V0.heap.size ≤ xb) := by show _ ≤ _; rw [hxb]; exact hHeld.size
      go_simp
      rw [← hZ1, ← hxb]
      clear hZ1
      refine hK.out _ _ (hHeld.trans (hb.mono hHeld.size)) (fun hHeld2 => ?_)
      clear hxb hb
      clear hK hHeld
      have hHeld := hHeld2
      clear hHeld2
      refine wpAnyH_ready (rs := [2, 3]) (by kernel_rfl) (by simp) (AllReadyH.cons (at_drop (i := 2) rfl) (fun K2 hK => ?_) (AllReadyH.cons (at_drop (i := 3) rfl) (fun K2 hK => ?_) (AllReadyH.nil)))
      · go_simp
        refine (lwCopyQ_any ⟨0, ma, p, mk, mi⟩ w.heap.size _ (MILLS.out.keep2 hHeld) (by have := HP5.out; show p ≤ 1000; omega) BK.out.m0).mono ?_
        rintro e Z2 ⟨⟨ca, cc, rfl, hcp⟩, hb⟩
        have HCP := Lib.hid hcp
        clear hcp
        replace HV := Lib.hid (wrow_below HV.out hb)
        go_wp2_with fail
        refine hK.out _ _ (hHeld.trans (hb.mono hHeld.size)) (fun hHeld2 => ?_)
        clear hb
        clear hK hHeld
        have hHeld := hHeld2
        clear hHeld2
        refine wpAnyH_ready (rs := [3]) (by kernel_rfl) (by simp) (AllReadyH.cons (at_drop (i := 3) rfl) (fun K2 hK => ?_) (AllReadyH.nil))
        obtain ⟨Z3, hZ3⟩ : ∃ Z3, Z3 = Z2.alloc (.cells #[] 28) := ⟨_, rfl⟩
        have hb : Below Z2.heap.size Z2 Z3 := by rw [hZ3]; exact bel_alloc _ _
        obtain ⟨gb, hgb⟩ : ∃ gb, gb = Z2.heap.size := ⟨_, rfl⟩
        have HBL : Hid (Z3.ownsRow V0.heap.size 28 2 (.slice (some ⟨gb, 0, none⟩) 0 0) 0 []) := by show World.ownsRow _ _ _ _ _ _ _; rw [hZ3, hgb]; exact World.ownsRow_made Z2 #[] 0 hHeld.size (Nat.zero_le _) rfl
        replace HCP := Lib.hid (HCP.out.below hb)
        replace HV := Lib.hid (wrow_below HV.out hb)
        go_simp
        rw [← hZ3, ← hgb]
        clear hZ3
        refine hK.out _ _ (hHeld.trans (hb.mono hHeld.size)) (fun hHeld2 => ?_)
        clear hgb hb
        clear hK hHeld
        have hHeld := hHeld2
        clear hHeld2
        refine wpAnyH_ready (rs := [5]) (by kernel_rfl) (by simp) (AllReadyH.cons (at_drop (i := 5) rfl) (fun K2 hK => ?_) (AllReadyH.nil))
        refine ap_at rfl (.tmp 31) (.tmp 32) 35 rfl V0.heap.size 28 i0 (.agg #[.int .i64 0, .slice none 0 0]) 2 32 Tryd.underlying35 hi0 hz0 hz1 hz2 rfl (by decide) (.slice (some ⟨gb, 0, none⟩) 0 0) 0 [] rfl HBL.out ⟨bl, 0, none⟩ n lk (beL cs n) rfl (beL_len cs n) (bel_src (LIST.out.2 _ hHeld)) (beL_one cs n) (by unfold maxLen; have := HN9.out; omega) (by have := HN9.out; omega) hHeld.size ?_
        intro v' Z4 hown hgrow hwhere
        have hS : Below V0.heap.size V0 Z4 := hHeld.grown hgrow hHeld.size (fun k e => by simp [Value.ownBlock] at e; subst e; exact (World.ownsRow.lt HBL.out gb rfl).1)
        obtain ⟨ga, ka, rfl⟩ : ∃ ga ka, v' = .slice ga n ka := by obtain ⟨ga, ka, e⟩ := ownShape hown; exact ⟨ga, ka, by simpa using e⟩
        have HAP : Hid (BtsAt ga n cs Z4) := bts_own (by simpa using hown) (fun i hi => (LIST.out.1 i hi).below hS)
        replace HCP : Hid (IntsAt ca p mi Z4) := ints_grown HCP.out HBL.out hgrow
        replace HV : Hid (World.rowIs Z4 xb 31 10 (rowL (ppL Wk.poNil none 0 none 0))) := HV.out.of_block (hgrow.block _ HV.out.lt (fun e => blk_ne (rowIs_type HV.out) (own_type HBL.out e.symm).2 (by decide) rfl))
        refine hK.out _ _ hS (fun hHeld2 => ?_)
        clear hown hgrow hwhere hS HBL
        clear hK hHeld
        have hHeld := hHeld2
        clear hHeld2
        simp only [Act.put, List.setIfInBounds_toArray, List.set_cons_zero, List.set_cons_succ]
        refine wpAnyH_ready (rs := [6]) (by kernel_rfl) (by simp) (AllReadyH.cons (at_drop (i := 6) rfl) (fun K2 hK => ?_) (AllReadyH.nil))
        go_simp
        refine (IMPL.out ca cc ga ka _ HCP.out HAP.out (GL.out _ hHeld)).mono ?_
        rintro e Z5 ⟨⟨ax, kx, ay, ky, rfl, htw⟩, hb⟩
        have HTW := Lib.hid (htw.mono hHeld.size (Nat.le_refl _))
        clear htw
        replace HCP := Lib.hid (HCP.out.below hb)
        replace HAP := Lib.hid (HAP.out.below hb)
        replace HV := Lib.hid (wrow_below HV.out hb)
        go_wp2_with fail
        refine hK.out _ _ (hHeld.trans (hb.mono hHeld.size)) (fun hHeld2 => ?_)
        clear hb
        clear hK hHeld
        have hHeld := hHeld2
        clear hHeld2
        obtain ⟨Y, hY⟩ : ∃ Y, Y = ((((((((((Z5).setCell ⟨xb, 0, none⟩ (.int .i64 A.clean.wt)).setCell ⟨xb, 1, none⟩ (.slice ax A.clean.n kx)).setCell ⟨xb, 2, none⟩ (.int .i64 A.waste.wt)).setCell ⟨xb, 3, none⟩ (.slice ay A.waste.n ky)).setCell ⟨xb, 4, none⟩ (.int .i64 A.fl.held)).setCell ⟨xb, 5, none⟩ (.int .i64 A.fl.most)).setCell ⟨xb, 6, none⟩ (.int .i64 A.fl.catch_)).setCell ⟨xb, 7, none⟩ (.int .i64 A.fl.wash)).setCell ⟨xb, 8, none⟩ (.int .i64 A.washes)).setCell ⟨xb, 9, none⟩ (.int .i64 A.c) := ⟨_, rfl⟩
        have HYP : Hid (PrQ V0 A xb ax kx ay ky Y) := by
          show PrQ _ _ _ _ _ _ _ _
          rw [hY]
          exact prq_put HV.out HXL.out hHeld HTW.out
        obtain ⟨⟨o0, o1, o2, o3, o4⟩, o5, o6, o7, o8, o9⟩ := row10_cells HV.out
        obtain ⟨⟨f0, f1, f2, f3, f4⟩, f5, f6, f7, f8, f9⟩ := row10_fr HV.out
        have hol := HV.out.lt
        have HYE := Lib.hid hY
        clear hY
        refine take_call (i := 8) rfl (by kernel_rfl) (fun K2 hK => ?_)
        go_simp
        rw [← HYE.out]
        refine hK.out _ _ HYP.out.bel (fun hHeld2 => ?_)
        clear hK hHeld hHeld2 o0 o1 o2 o3 o4 o5 o6 o7 o8 o9 f0 f1 f2 f3 f4 f5 f6 f7 f8 f9 hol HYE HV
        refine wpAnyH_done (by kernel_rfl) ?_ _
        go_wp2_with fail
        go_meet
        case rel => exact ⟨xb, ax, kx, ay, ky, rfl, HYP⟩
      · obtain ⟨Z2, hZ2⟩ : ∃ Z2, Z2 = Z1.alloc (.cells #[] 28) := ⟨_, rfl⟩
        have hb : Below Z1.heap.size Z1 Z2 := by rw [hZ2]; exact bel_alloc _ _
        obtain ⟨gb, hgb⟩ : ∃ gb, gb = Z1.heap.size := ⟨_, rfl⟩
        have HBL : Hid (Z2.ownsRow V0.heap.size 28 2 (.slice (some ⟨gb, 0, none⟩) 0 0) 0 []) := by show World.ownsRow _ _ _ _ _ _ _; rw [hZ2, hgb]; exact World.ownsRow_made Z1 #[] 0 hHeld.size (Nat.zero_le _) rfl
        replace HV := Lib.hid (wrow_below HV.out hb)
        go_simp
        rw [← hZ2, ← hgb]
        clear hZ2
        refine hK.out _ _ (hHeld.trans (hb.mono hHeld.size)) (fun hHeld2 => ?_)
        clear hgb hb
        clear hK hHeld
        have hHeld := hHeld2
        clear hHeld2
        refine wpAnyH_ready (rs := [2]) (by kernel_rfl) (by simp) (AllReadyH.cons (at_drop (i := 2) rfl) (fun K2 hK => ?_) (AllReadyH.nil))
        go_simp
        refine (lwCopyQ_any ⟨0, ma, p, mk, mi⟩ w.heap.size _ (MILLS.out.keep2 hHeld) (by have := HP5.out; show p ≤ 1000; omega) BK.out.m0).mono ?_
        rintro e Z3 ⟨⟨ca, cc, rfl, hcp⟩, hb⟩
        have HCP := Lib.hid hcp
        clear hcp
        replace HBL := Lib.hid (ownFar HBL.out (fun k _ hl => hb.block k hl))
        replace HV := Lib.hid (wrow_below HV.out hb)
        go_wp2_with fail
        refine hK.out _ _ (hHeld.trans (hb.mono hHeld.size)) (fun hHeld2 => ?_)
        clear hb
        clear hK hHeld
        have hHeld := hHeld2
        clear hHeld2
        refine wpAnyH_ready (rs := [5]) (by kernel_rfl) (by simp) (AllReadyH.cons (at_drop (i := 5) rfl) (fun K2 hK => ?_) (AllReadyH.nil))
        refine ap_at rfl (.tmp 31) (.tmp 32) 35 rfl V0.heap.size 28 i0 (.agg #[.int .i64 0, .slice none 0 0]) 2 32 Tryd.underlying35 hi0 hz0 hz1 hz2 rfl (by decide) (.slice (some ⟨gb, 0, none⟩) 0 0) 0 [] rfl HBL.out ⟨bl, 0, none⟩ n lk (beL cs n) rfl (beL_len cs n) (bel_src (LIST.out.2 _ hHeld)) (beL_one cs n) (by unfold maxLen; have := HN9.out; omega) (by have := HN9.out; omega) hHeld.size ?_
        intro v' Z4 hown hgrow hwhere
        have hS : Below V0.heap.size V0 Z4 := hHeld.grown hgrow hHeld.size (fun k e => by simp [Value.ownBlock] at e; subst e; exact (World.ownsRow.lt HBL.out gb rfl).1)
        obtain ⟨ga, ka, rfl⟩ : ∃ ga ka, v' = .slice ga n ka := by obtain ⟨ga, ka, e⟩ := ownShape hown; exact ⟨ga, ka, by simpa using e⟩
        have HAP : Hid (BtsAt ga n cs Z4) := bts_own (by simpa using hown) (fun i hi => (LIST.out.1 i hi).below hS)
        replace HCP : Hid (IntsAt ca p mi Z4) := ints_grown HCP.out HBL.out hgrow
        replace HV : Hid (World.rowIs Z4 xb 31 10 (rowL (ppL Wk.poNil none 0 none 0))) := HV.out.of_block (hgrow.block _ HV.out.lt (fun e => blk_ne (rowIs_type HV.out) (own_type HBL.out e.symm).2 (by decide) rfl))
        refine hK.out _ _ hS (fun hHeld2 => ?_)
        clear hown hgrow hwhere hS HBL
        clear hK hHeld
        have hHeld := hHeld2
        clear hHeld2
        simp only [Act.put, List.setIfInBounds_toArray, List.set_cons_zero, List.set_cons_succ]
        refine wpAnyH_ready (rs := [6]) (by kernel_rfl) (by simp) (AllReadyH.cons (at_drop (i := 6) rfl) (fun K2 hK => ?_) (AllReadyH.nil))
        go_simp
        refine (IMPL.out ca cc ga ka _ HCP.out HAP.out (GL.out _ hHeld)).mono ?_
        rintro e Z5 ⟨⟨ax, kx, ay, ky, rfl, htw⟩, hb⟩
        have HTW := Lib.hid (htw.mono hHeld.size (Nat.le_refl _))
        clear htw
        replace HCP := Lib.hid (HCP.out.below hb)
        replace HAP := Lib.hid (HAP.out.below hb)
        replace HV := Lib.hid (wrow_below HV.out hb)
        go_wp2_with fail
        refine hK.out _ _ (hHeld.trans (hb.mono hHeld.size)) (fun hHeld2 => ?_)
        clear hb
        clear hK hHeld
        have hHeld := hHeld2
        clear hHeld2
        obtain ⟨Y, hY⟩ : ∃ Y, Y = ((((((((((Z5).setCell ⟨xb, 0, none⟩ (.int .i64 A.clean.wt)).setCell ⟨xb, 1, none⟩ (.slice ax A.clean.n kx)).setCell ⟨xb, 2, none⟩ (.int .i64 A.waste.wt)).setCell ⟨xb, 3, none⟩ (.slice ay A.waste.n ky)).setCell ⟨xb, 4, none⟩ (.int .i64 A.fl.held)).setCell ⟨xb, 5, none⟩ (.int .i64 A.fl.most)).setCell ⟨xb, 6, none⟩ (.int .i64 A.fl.catch_)).setCell ⟨xb, 7, none⟩ (.int .i64 A.fl.wash)).setCell ⟨xb, 8, none⟩ (.int .i64 A.washes)).setCell ⟨xb, 9, none⟩ (.int .i64 A.c) := ⟨_, rfl⟩
        have HYP : Hid (PrQ V0 A xb ax kx ay ky Y) := by
          show PrQ _ _ _ _ _ _ _ _
          rw [hY]
          exact prq_put HV.out HXL.out hHeld HTW.out
        obtain ⟨⟨o0, o1, o2, o3, o4⟩, o5, o6, o7, o8, o9⟩ := row10_cells HV.out
        obtain ⟨⟨f0, f1, f2, f3, f4⟩, f5, f6, f7, f8, f9⟩ := row10_fr HV.out
        have hol := HV.out.lt
        have HYE := Lib.hid hY
        clear hY
        refine take_call (i := 8) rfl (by kernel_rfl) (fun K2 hK => ?_)
        go_simp
        rw [← HYE.out]
        refine hK.out _ _ HYP.out.bel (fun hHeld2 => ?_)
        clear hK hHeld hHeld2 o0 o1 o2 o3 o4 o5 o6 o7 o8 o9 f0 f1 f2 f3 f4 f5 f6 f7 f8 f9 hol HYE HV
        refine wpAnyH_done (by kernel_rfl) ?_ _
        go_wp2_with fail
        go_meet
        case rel => exact ⟨xb, ax, kx, ay, ky, rfl, HYP⟩
  case rest =>
    obtain ⟨xb, ax, kx, ay, ky, rfl, hPR⟩ := hcut
    obtain ⟨W6, hW6⟩ : ∃ W, W = wc := ⟨_, rfl⟩
    rw [← hW6] at hPR ⊢
    clear hW6
    have B6 : Hid (Below w.heap.size w W6) := B2.out.trans (hPR.out.bel.mono B2.out.size)
    have hm0 := BK.out.m0
    have hpp := HP5.out
    have hnn := HN9.out
    have FIL6 := Lib.hid (wrow_below FIL.out hPR.out.bel)
    have LI6 : Hid (∀ i, i < n → BeCells bl (i * 2) (cs i) W6 ∧ IntsAt (cs i).pa (cs i).n (cs i).f W6) := fun i hi => ⟨LIST.out.2 W6 hPR.out.bel i hi, (LIST.out.1 i hi).below hPR.out.bel⟩
    have hrow : W6.rowIs xb 31 10 (rowL [.int .i64 A.clean.wt, .slice ax p kx, .int .i64 A.waste.wt, .slice ay p ky, .int .i64 A.fl.held, .int .i64 A.fl.most, .int .i64 A.fl.catch_, .int .i64 A.fl.wash, .int .i64 A.washes, .int .i64 A.c]) := by
      have h : W6.rowIs xb 31 10 (rowL [.int .i64 A.clean.wt, .slice ax A.clean.n kx, .int .i64 A.waste.wt, .slice ay A.waste.n ky, .int .i64 A.fl.held, .int .i64 A.fl.most, .int .i64 A.fl.catch_, .int .i64 A.fl.wash, .int .i64 A.washes, .int .i64 A.c]) := hPR.out.row
      rw [BK.out.cn, BK.out.wn] at h
      exact h
    have hcl := hPR.out.cl
    have hwa := hPR.out.wa
    rw [BK.out.cn] at hcl
    rw [BK.out.wn] at hwa
    have ROW := Lib.hid hrow
    have CL := Lib.hid hcl
    have WA := Lib.hid hwa
    clear hPR hrow hcl hwa FIL LIST MILLS LIS2 B2 GL IMPL hfield
    obtain ⟨⟨x0, x1, x2, x3, x4⟩, x5, x6, x7, x8, x9⟩ := row10_cells ROW.out
    have hpe : ((p : Int) != (p : Int)) = false := by simp
    have hmk := run_make_row' (P := Tryd.prog) 24 2 (.int .i64 0) 8 Tryd.underlying24 info_i64 rfl .i64 .i64 p (by omega) (by omega)
    have HI0 : Hid (InBlk W6.heap.size p (fun j => Wk.sumP (fun i => (cs i).b) j 0) (W6.alloc (.cells (madeCells #[.int .i64 0] p) 2))) := ⟨p, _, Nat.le_refl _, World.rowIs_made W6 (.int .i64 0) p 2, fun _ _ => rfl⟩
    go_wp2_with fail
    clear x0 x1 x2 x3 x4 x5 x6 x7 x8 x9 hmk hpe
    go_loopw [8, 10, 11] (fun wv iv _ wr => ∃ (i : Nat) (X : Int), i ≤ n ∧ wv = .int .i64 X ∧ iv = .int .i64 i ∧ Hid (X = Wk.sumW (fun i => (cs i).b) i) ∧ Hid (Below W6.heap.size W6 wr) ∧ Hid (InBlk W6.heap.size p (fun j => Wk.sumP (fun i => (cs i).b) j i) wr)) (fun _ iv _ _ => n - (intOf iv).toNat)
    case atStart => exact ⟨0, 0, Nat.zero_le _, rfl, rfl, rfl, bel_alloc _ _, HI0⟩
    case round =>
      obtain ⟨i, X, hi, rfl, rfl, hX, hB, hI⟩ := hrel
      clear HI0
      by_cases hlt : i < n
      · have hltz : (i : Int) < (n : Int) := by omega
        obtain ⟨hok, hbn⟩ := BK.out.bt i hlt
        have hXb : 0 ≤ X ∧ X ≤ 100000000000 := by
          have := Wk.sumW_bounds (fun k hk => (BK.out.bt k hk).1) i hi
          have := BK.out.k1
          rw [hX.out]; omega
        have hwb : 0 ≤ (cs i).wt ∧ (cs i).wt ≤ 1000000000 := hok.1
        obtain ⟨c0, c1⟩ := (LI6.out i hlt).1.block (hB.out.block _ (LI6.out i hlt).1.lt)
        obtain ⟨wt, hwt⟩ : ∃ x, x = (cs i).wt := ⟨_, rfl⟩
        rw [← hwt] at c0 hwb
        have HWT := Lib.hid hwt
        clear hwt hok
        go_wp2_with fail
        clear c0 c1
        go_loopw [11] (fun kv wr => ∃ (k : Nat), k ≤ p ∧ kv = .int .i64 k ∧ Hid (Below W6.heap.size W6 wr) ∧ Hid (InBlk W6.heap.size p (fun j => if j < k then Wk.sumP (fun i => (cs i).b) j (i + 1) else Wk.sumP (fun i => (cs i).b) j i) wr)) (fun kv _ => p - (intOf kv).toNat)
        case atStart => exact ⟨0, Nat.zero_le _, rfl, hB, by simpa using hI⟩
        case round =>
          obtain ⟨k, hk, rfl, hB2, hI2⟩ := hrel
          clear hB hI
          by_cases hlk : k < p
          · have hlkz : (k : Int) < (p : Int) := by omega
            obtain ⟨c0, c1⟩ := (LI6.out i hlt).1.block (hB2.out.block _ (LI6.out i hlt).1.lt)
            have hpi := (LI6.out i hlt).2.below hB2.out
            have hbn2 : (cs i).n = p := hbn
            rw [hbn2] at c1 hpi
            obtain ⟨pb, hpb, hpc⟩ := hpi.at_ hlk
            rw [hpb] at c1
            obtain ⟨s0, s1⟩ := Wk.sumP_bounds (bs := fun i => (cs i).b) (m := n) (j := k) (fun q hq => ⟨(BK.out.bt q hq).1, by show k < (cs q).n; rw [show (cs q).n = p from (BK.out.bt q hq).2]; exact hlk⟩) i (by omega)
            obtain ⟨f0, f1⟩ : 0 ≤ (cs i).f k ∧ (cs i).f k ≤ 1000000000 := (BK.out.bt i hlt).1.2.2 k (by show k < (cs i).n; omega)
            have hk1 := BK.out.k1
            have v0 := hI2.out.cell hlk
            simp only [Nat.lt_irrefl, if_false] at v0
            have v1 := hI2.out.frozen k
            have v2 := hI2.out.lt
            have HS : Hid (Wk.sumP (fun i => (cs i).b) k i + (cs i).f k = Wk.sumP (fun i => (cs i).b) k (i + 1)) := rfl
            obtain ⟨S, hS⟩ : ∃ S, S = Wk.sumP (fun i => (cs i).b) k i := ⟨_, rfl⟩
            obtain ⟨Y, hY⟩ : ∃ Y, Y = (cs i).f k := ⟨_, rfl⟩
            rw [← hS] at v0 s0 s1 HS
            rw [← hY] at hpc f0 f1 HS
            have s2 : S ≤ 100000000000 := by omega
            have G2 : Hid (InBlk W6.heap.size p (fun j => if j < k + 1 then Wk.sumP (fun i => (cs i).b) j (i + 1) else Wk.sumP (fun i => (cs i).b) j i) (wr.setCell ⟨W6.heap.size, k, none⟩ (.int .i64 (S + Y))).drew) := by
              show InBlk _ _ _ _
              refine InBlk.congr ((hI2.out.setI k (S + Y)).block rfl) (fun j _ => ?_)
              by_cases e : j = k
              · rw [if_pos e, if_pos (by omega), e]; exact HS.out
              · rw [if_neg e]
                by_cases e2 : j < k
                · rw [if_pos e2, if_pos (by omega)]
                · rw [if_neg e2, if_neg (by omega)]
            have O2 : Hid (Below W6.heap.size W6 (wr.setCell ⟨W6.heap.size, k, none⟩ (.int .i64 (S + Y))).drew) := (hB2.out.setCell (p := ⟨W6.heap.size, k, none⟩) (Nat.le_refl _) _).drew
            clear hI2 hB2 hS hY s1 hpi hpb HS
            go_wp2_with fail
            go_region
            go_wp2_with fail
            go_roundw
            case rel => exact ⟨k + 1, by omega, by go_num, O2, G2⟩
            case measure => simp [intOf]; omega
          · obtain rfl : k = p := by omega
            have HIn : Hid (InBlk W6.heap.size k (fun j => Wk.sumP (fun i => (cs i).b) j (i + 1)) wr) := hI2.out.congr (fun j hj => by rw [if_pos hj])
            have HX1 : Hid (X + wt = Wk.sumW (fun i => (cs i).b) (i + 1)) := by show X + wt = _ + (cs i).wt; rw [hX.out, HWT.out]
            clear hI2
            go_wp2_with fail
            go_roundw
            case rel => exact ⟨i + 1, X + wt, by omega, rfl, by go_num, HX1, hB2, HIn⟩
            case measure => simp [intOf]; omega
      · obtain rfl : i = n := by omega
        have v0 := hI.out.cell hm0
        have v1 := hI.out.frozen 0
        have v2 := hI.out.lt
        obtain ⟨q0, _, _, _⟩ := row4_cells (wrow_below FIL6.out hB.out)
        obtain ⟨⟨_, _, _, _, x4⟩, _, _, _, _, _⟩ := row10_cells (wrow_below ROW.out hB.out)
        obtain ⟨s0, s1⟩ := Wk.sumP_bounds (bs := fun i => (cs i).b) (m := i) (j := 0) (fun q hq => ⟨(BK.out.bt q hq).1, by show 0 < (cs q).n; rw [show (cs q).n = p from (BK.out.bt q hq).2]; exact hm0⟩) i (Nat.le_refl _)
        have hk1 := BK.out.k1
        obtain ⟨y0, y1⟩ := BK.out.h0
        obtain ⟨z0, z1⟩ := BK.out.h1
        have HP0 : Hid (∀ j, Wk.sumP (fun i => (cs i).b) j i + (if j = 0 then fl.held - A.fl.held else 0) = A.clean.f j + A.waste.f j) := BK.out.par
        obtain ⟨S, hS⟩ : ∃ S, S = Wk.sumP (fun i => (cs i).b) 0 i := ⟨_, rfl⟩
        obtain ⟨F, hF⟩ : ∃ F, F = fl.held := ⟨_, rfl⟩
        obtain ⟨E, hE⟩ : ∃ E, E = A.fl.held := ⟨_, rfl⟩
        rw [← hS] at v0 s0 s1
        rw [← hF] at q0 y0 y1
        rw [← hE] at x4 z0 z1
        have s2 : S ≤ 100000000000 := by omega
        have G2 : Hid (InBlk W6.heap.size p (fun j => A.clean.f j + A.waste.f j) (wr.setCell ⟨W6.heap.size, 0, none⟩ (.int .i64 (S + F - E))).drew) := by
          show InBlk _ _ _ _
          refine InBlk.congr ((hI.out.setI 0 (S + F - E)).block rfl) (fun j _ => ?_)
          have hh := HP0.out j
          by_cases e : j = 0
          · rw [if_pos e]; rw [if_pos e, e, ← hS, ← hF, ← hE] at hh; rw [e]; omega
          · rw [if_neg e]; rw [if_neg e] at hh; omega
        have O2 : Hid (Below W6.heap.size W6 (wr.setCell ⟨W6.heap.size, 0, none⟩ (.int .i64 (S + F - E))).drew) := (hB.out.setCell (p := ⟨W6.heap.size, 0, none⟩) (Nat.le_refl _) _).drew
        have HEE := Lib.hid hE
        clear hI hB hS hF hE s1 HP0
        go_wp2_with fail
        go_region
        go_wp2_with fail
        clear q0 x4 v0 v1 v2
        go_loopw [12] (fun kv wr => ∃ (k : Nat), k ≤ p ∧ kv = .int .i64 k ∧ Hid (Below W6.heap.size W6 wr) ∧ Hid (InBlk W6.heap.size p (fun j => A.clean.f j + A.waste.f j) wr)) (fun kv _ => p - (intOf kv).toNat)
        case atStart => exact ⟨0, Nat.zero_le _, rfl, O2, G2⟩
        case round =>
          obtain ⟨k, hk, rfl, hB2, hI2⟩ := hrel
          clear O2 G2
          obtain ⟨⟨x0, x1, x2, x3, x4⟩, _, _, _, _, _⟩ := row10_cells (wrow_below ROW.out hB2.out)
          by_cases hlk : k < p
          · have hlkz : (k : Int) < (p : Int) := by omega
            have v0 := hI2.out.cell hlk
            obtain ⟨cb, hcb, hcc⟩ := (CL.out.below hB2.out).at_ hlk
            obtain ⟨wb, hwb2, hwc⟩ := (WA.out.below hB2.out).at_ hlk
            obtain ⟨u0, u1⟩ : 0 ≤ A.clean.f k ∧ A.clean.f k ≤ 1000000000 := BK.out.co.2.2 k (by rw [BK.out.cn]; exact hlk)
            obtain ⟨u2, u3⟩ : 0 ≤ A.waste.f k ∧ A.waste.f k ≤ 1000000000 := BK.out.wo.2.2 k (by rw [BK.out.wn]; exact hlk)
            rw [hcb] at x1
            rw [hwb2] at x3
            obtain ⟨C, hC⟩ : ∃ C, C = A.clean.f k := ⟨_, rfl⟩
            obtain ⟨D, hD⟩ : ∃ D, D = A.waste.f k := ⟨_, rfl⟩
            rw [← hC, ← hD] at v0
            rw [← hC] at hcc u0 u1
            rw [← hD] at hwc u2 u3
            have hne : ((C + D : Int) != C + D) = false := by simp
            have O2 : Hid (Below W6.heap.size W6 wr.drew) := hB2.out.drew
            have G2 : Hid (InBlk W6.heap.size p (fun j => A.clean.f j + A.waste.f j) wr.drew) := hI2.out.block rfl
            clear hB2 hI2 hcb hwb2 hC hD
            go_wp2_with fail
            go_region
            go_wp2_with fail
            go_roundw
            case rel => exact ⟨k + 1, by omega, by go_num, O2, G2⟩
            case measure => simp [intOf]; omega
          · obtain rfl : k = p := by omega
            have hw := BK.out.wat
            rw [← hX.out] at hw
            obtain ⟨u0, u1⟩ : 0 ≤ A.clean.wt ∧ A.clean.wt ≤ 1000000000 := BK.out.co.1
            obtain ⟨u2, u3⟩ : 0 ≤ A.waste.wt ∧ A.waste.wt ≤ 1000000000 := BK.out.wo.1
            rw [← HEE.out] at x4
            obtain ⟨C, hC⟩ : ∃ C, C = A.clean.wt := ⟨_, rfl⟩
            obtain ⟨D, hD⟩ : ∃ D, D = A.waste.wt := ⟨_, rfl⟩
            rw [← hC] at x0 u0 u1 hw
            rw [← hD] at x2 u2 u3 hw
            have heq : (X == C + D) = true := by simpa using hw
            have hge : decide (0 ≤ E) = true := by simpa using z0
            have O2 : Hid (Below w.heap.size w wr) := B6.out.trans (hB2.out.mono B6.out.size)
            clear hI2 hB2 hw hC hD hX
            go_wp2_with fail
            go_ret
            exact ⟨rfl, O2.out⟩
end Go.Proofs.YtcjeieagpcphjaaDoor
