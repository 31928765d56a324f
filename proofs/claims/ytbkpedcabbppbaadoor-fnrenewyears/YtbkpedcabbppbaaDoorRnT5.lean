/-
  RenewTable: the model's.
-/
import Derived.Test.YtbkpedcabbppbaaDoorRnT4
namespace Go.Proofs.YtbkpedcabbppbaaDoor
open Go.RowKit Go.Deep

/-- The greater of two. -/
def Rn.Mx (a b v : Int) : Prop := (b < a ∧ v = a) ∨ (¬ b < a ∧ v = b)
theorem rmax_any (a b v : Int) (w : World) (h : Rn.Mx a b v) :
    Calls Tryd.prog 44 #[.int .i64 a, .int .i64 b] w fun e w' => e = .returned (.int .i64 v) ∧ w' = w := by
  rcases h with ⟨h, rfl⟩ | ⟨h, rfl⟩
  all_goals
    go_enter Tryd.func44, Tryd.ntmps44
    go_wp2_with fail
    go_ret
    exact ⟨rfl, rfl⟩
/-- The table of the model while a row is filled. -/
def InT (B gT gr k n m N : Nat) (f : Nat → Int) (jj : Nat) (W : World) : Prop := ∃ (gs : Nat → Nat) (F : Nat → Value), (W.rowIs gT 24 m F ∧ F k = .slice (some ⟨gr, 0, none⟩) N N ∧ (∀ j, k + 1 ≤ j → j ≤ n → F j = .slice (some ⟨gs j, 0, none⟩) N N) ∧ (∀ j, n < j → F j = .slice none 0 0)) ∧ (∀ j, k + 1 ≤ j → j ≤ n → IsBlk 2 (gs j) N (Rn.T f n j) W ∧ B ≤ gs j ∧ gs j < gr) ∧ (∀ i j, k + 1 ≤ i → i < j → j ≤ n → gs j < gs i) ∧ IsPart 2 gr N jj (Rn.T f n k) W ∧ B ≤ gr
theorem InT.below {B gT gr k n m N jj : Nat} {f : Nat → Int} {W W' : World} (h : InT B gT gr k n m N f jj W) (hb : Below W.heap.size W W') : InT B gT gr k n m N f jj W' := by
  obtain ⟨gs, F, ⟨h1, h2⟩, h3, h4, h5, h6⟩ := h
  exact ⟨gs, F, ⟨nrow_below h1 hb, h2⟩, fun j a b => ⟨(h3 j a b).1.below hb, (h3 j a b).2⟩, h4, rpart_below h5 hb, h6⟩
theorem InT.low {B gT gr k n m N jj : Nat} {f : Nat → Int} {W : World} (h : InT B gT gr k n m N f jj W) : B ≤ gr := by obtain ⟨gs, F, _, _, _, _, h6⟩ := h; exact h6
theorem InT.lt {B gT gr k n m N jj : Nat} {f : Nat → Int} {W : World} (h : InT B gT gr k n m N f jj W) : gr < W.heap.size := by obtain ⟨gs, F, _, _, _, ⟨F', h5, _⟩, _⟩ := h; exact h5.lt
theorem InT.cell {B gT gr k n m N jj : Nat} {f : Nat → Int} {W : World} (h : InT B gT gr k n m N f jj W) {j : Nat} (hj : j < N) : (∃ v, W.cell? ⟨gr, j, none⟩ = some v) ∧ W.frozen? ⟨gr, j, none⟩ = false := by
  obtain ⟨gs, F, _, _, _, ⟨F', h5, _⟩, _⟩ := h
  exact ⟨⟨_, h5.cell hj⟩, h5.frozen j⟩
theorem InT.ne {B gT gr k n m N jj : Nat} {f : Nat → Int} {W : World} (h : InT B gT gr k n m N f jj W) : gT ≠ gr := by
  obtain ⟨gs, F, ⟨h1, _⟩, _, _, ⟨F', h5, _⟩, _⟩ := h
  obtain ⟨c1, e1, _⟩ := h1
  obtain ⟨c2, e2, _⟩ := h5
  exact typ_ne ⟨c1, e1⟩ ⟨c2, e2⟩ (by decide)
theorem InT.nen {B gT gr k n m N jj : Nat} {f : Nat → Int} {W : World} (h : InT B gT gr k n m N f jj W) {k1 gn : Nat} (hk : k1 = k + 1) (hg : W.cell? ⟨gT, k1, none⟩ = some (.slice (some ⟨gn, 0, none⟩) N N)) (h1 : k1 ≤ n) (h2 : n < m) : gn ≠ gr := by
  obtain ⟨gs, F, ⟨q1, _, q2, _⟩, q3, _⟩ := h
  have e := (q1.cell (i := k1) (by omega)).symm.trans hg
  rw [q2 k1 (by omega) h1] at e
  simp at e
  have := (q3 k1 (by omega) h1).2.2
  omega
theorem InT.touch {B gT gr k n m N jj : Nat} {f : Nat → Int} {W : World} (h : InT B gT gr k n m N f jj W) (v : Value) : InT B gT gr k n m N f jj (W.setCell ⟨gr, jj, none⟩ v) := by
  have hne := h.ne
  obtain ⟨gs, F, ⟨h1, h2⟩, h3, h4, ⟨F', h5, h5b⟩, h6⟩ := h
  refine ⟨gs, F, ⟨nrow_set h1 hne _, h2⟩, fun j a b => ⟨(h3 j a b).1.block (rhs _ _ _ (by have := (h3 j a b).2.2; omega) _ _), (h3 j a b).2⟩, h4, ⟨_, h5.set jj v, fun j hj => ?_⟩, h6⟩
  simp only [if_neg (show ¬ j = jj by omega)]
  exact h5b j hj
theorem InT.put {B gT gr k n m N j : Nat} {f : Nat → Int} {W : World} (h : InT B gT gr k n m N f j W) : InT B gT gr k n m N f (j + 1) (W.setCell ⟨gr, j, none⟩ (.int .i64 (Rn.T f n k j))) := by
  have hne := h.ne
  obtain ⟨gs, F, ⟨h1, h2⟩, h3, h4, h5, h6⟩ := h
  exact ⟨gs, F, ⟨nrow_set h1 hne _, h2⟩, fun j' a b => ⟨(h3 j' a b).1.block (rhs _ _ _ (by have := (h3 j' a b).2.2; omega) _ _), (h3 j' a b).2⟩, h4, h5.put _ rfl, h6⟩
theorem InT.full {B gT gr k n m N : Nat} {f : Nat → Int} {W : World} (h : InT B gT gr k n m N f N W) (hk : k ≤ n) : WrP 24 m B gT k n N f W := by
  obtain ⟨gs, F, ⟨h1, h2, h2b, h2c⟩, h3, h4, h5, h6⟩ := h
  refine ⟨fun j => if j = k then gr else gs j, ⟨F, h1, fun j a b => ?_, h2c⟩, fun j a b => ?_, fun i j a b c => ?_⟩
  · by_cases e : j = k
    · subst e; simp [h2]
    · simp only [if_neg e]; exact h2b j (by omega) b
  · by_cases e : j = k
    · subst e; simp only; exact ⟨h5.full (Nat.le_refl _), h6⟩
    · simp only [if_neg e]; exact ⟨(h3 j (by omega) b).1, (h3 j (by omega) b).2.1⟩
  · by_cases e : i = k
    · subst e
      simp only [if_neg (show ¬ j = i by omega)]
      exact (h3 j (by omega) c).2.2
    · simp only [if_neg e, if_neg (show ¬ j = k by omega)]
      exact h4 i j (by omega) b c
/-- A new row, still noughts. -/
theorem WrP.begin {m B gT k n N : Nat} {f : Nat → Int} {W : World} (h : WrP 24 m B gT (k + 1) n N f W) (hk : k ≤ n) (hB : B ≤ W.heap.size) : InT B gT W.heap.size k n m N f 0 ((W.setCell ⟨gT, k, none⟩ (.slice (some ⟨W.heap.size, 0, none⟩) N N)).alloc (.cells (madeCells #[.int .i64 0] N) 2)) := by
  have typ := fun q (L : Nat → Int) (hk : IsBlk 2 q N L W) => h.typ (by decide) hk
  obtain ⟨gs, ⟨F, q1, q2, q2b⟩, q3, q4⟩ := h
  have hsz : (W.setCell ⟨gT, k, none⟩ (.slice (some ⟨W.heap.size, 0, none⟩) N N)).heap.size = W.heap.size := by simp
  refine ⟨gs, _, ⟨nrow_below (q1.set k (.slice (some ⟨W.heap.size, 0, none⟩) N N)) (nbel_alloc _ _), by simp, fun j a b => by simp only [if_neg (show ¬ j = k by omega)]; exact q2 j a b, fun j a => ?_⟩, fun j a b => ?_, q4, ?_, hB⟩
  · by_cases e : j = k
    · omega
    · simp only [if_neg e]; exact q2b j a
  · have q := q3 j a b
    exact ⟨(q.1.block (rhs _ _ _ (typ _ _ q.1) _ _)).below (nbel_alloc _ _), q.2, q.1.lt⟩
  · have r := World.rowIs_made (W.setCell ⟨gT, k, none⟩ (.slice (some ⟨W.heap.size, 0, none⟩) N N)) (.int .i64 0) N 2
    rw [hsz] at r
    exact ⟨_, r, fun j hj => absurd hj (by omega)⟩
/-- What a round reads. -/
def SpW (gT lb gr gn k k1 N j d c : Nat) (y nb nd : Int) (V : World) : Prop := V.cell? ⟨gT, k, none⟩ = some (.slice (some ⟨gr, 0, none⟩) N N) ∧ V.cell? ⟨gT, k1, none⟩ = some (.slice (some ⟨gn, 0, none⟩) N N) ∧ V.cell? ⟨gn, j, none⟩ = some (.int .i64 nb) ∧ V.cell? ⟨lb, k * 2, none⟩ = some (.int .i64 (c : Int)) ∧ V.cell? ⟨lb, k * 2 + 1, none⟩ = some (.int .i64 y) ∧ V.cell? ⟨gn, d, none⟩ = some (.int .i64 nd)
theorem SpW.below {gT lb gr gn k k1 N j d c : Nat} {y nb nd : Int} {V V' : World} (h : SpW gT lb gr gn k k1 N j d c y nb nd V) (hb : Below V.heap.size V V') : SpW gT lb gr gn k k1 N j d c y nb nd V' := by
  obtain ⟨h0, h1, h2, h3, h4, h5⟩ := h
  have t := fun {a : Addr} {v : Value} (q : V.cell? a = some v) => (hb.cell (World.block_lt_of_cell? _ _ q)).trans q
  exact ⟨t h0, t h1, t h2, t h3, t h4, t h5⟩
theorem SpW.set {gT lb gr gn k k1 N j d c : Nat} {y nb nd : Int} {V : World} (h : SpW gT lb gr gn k k1 N j d c y nb nd V) (e1 : gT ≠ gr) (e2 : lb ≠ gr) (e3 : gn ≠ gr) (v : Value) : SpW gT lb gr gn k k1 N j d c y nb nd (V.setCell ⟨gr, j, none⟩ v) := by
  obtain ⟨h0, h1, h2, h3, h4, h5⟩ := h
  have t := fun {a : Addr} {u : Value} (e : gr ≠ a.block) (q : V.cell? a = some u) => (World.cell?_setCell_far V ⟨gr, j, none⟩ a v e).trans q
  exact ⟨t (fun e => e1 e.symm) h0, t (fun e => e1 e.symm) h1, t (fun e => e3 e.symm) h2, t (fun e => e2 e.symm) h3, t (fun e => e2 e.symm) h4, t (fun e => e3 e.symm) h5⟩
theorem Rn.max (a b : Int) : ∃ v, Rn.Mx a b v := by
  by_cases h : b < a
  · exact ⟨a, Or.inl ⟨h, rfl⟩⟩
  · exact ⟨b, Or.inr ⟨h, rfl⟩⟩
/-- The whole table as an answer. -/
theorem WrP.ss {m B gT n N : Nat} {f : Nat → Int} {W : World} (h : WrP 24 m B gT 0 n N f W) (hm : m = n + 1) (hB : B ≤ gT) (c : Nat) : SsO B W.heap.size (n + 1) (some ⟨gT, 0, none⟩) c (fun _ => N) (Rn.T f n) W := by
  obtain ⟨gs, ⟨F, q1, q2, q2b⟩, q3, q4⟩ := h
  refine Or.inr ⟨gT, fun j => some ⟨gs j, 0, none⟩, fun _ => N, rfl, ⟨hB, q1.lt⟩, ⟨m, F, by omega, q1, fun j hj => q2 j (by omega) (by omega)⟩, fun j hj => ?_, fun i j b hi hj e1 e2 => ?_⟩
  · have q := q3 j (by omega) (by omega)
    exact Or.inr ⟨gs j, rfl, ⟨q.2, q.1.lt⟩, q.1⟩
  · rw [← e2] at e1
    simp at e1
    rcases Nat.lt_trichotomy i j with q | q | q
    · have := q4 i j (by omega) q (by omega); omega
    · exact q
    · have := q4 j i (by omega) q (by omega); omega
set_option maxRecDepth 100000 in
set_option maxHeartbeats 8000000 in
theorem specTable_any (a : Option Addr) (n cap : Nat) (f : Nat → Int) (z : Int) (w : World) (h : IsAt a (n * 2) f w) (hs : n ≤ 1048576) :
    Calls Tryd.prog 25 #[.slice a n cap, .int .i64 z] w fun e w' => TbEnd w.heap.size (Rn.tn n f z) (z.toNat + 1) (Rn.T f n) e w' ∧ Below w.heap.size w w' := by
  have H := Lib.hid h
  clear h
  have none_ : ∀ V : World, w.heap.size ≤ V.heap.size → TbEnd w.heap.size 0 (z.toNat + 1) (Rn.T f n) (.returned (.slice (some ⟨V.heap.size, 0, none⟩) 0 0)) (V.alloc (.cells #[] 24)) := fun V hV =>
    ⟨_, _, rfl, Or.inr ⟨V.heap.size, fun _ => none, fun _ => 0, rfl, ⟨hV, by simp⟩, ⟨0, rowN [], Nat.le_refl _, rowN_alloc V [] _, fun j hj => absurd hj (by omega)⟩, fun j hj => absurd hj (by omega), fun i j b hi => absurd hi (by omega)⟩⟩
  have HNO := Lib.hid none_
  clear none_
  by_cases c4 : (400 : Int) < (n : Int)
  · rw [Rn.tn_no (fun x => by have := x.1.1; omega)]
    go_enter Tryd.func25, Tryd.ntmps25
    go_wp2_with fail
    go_ret
    exact ⟨HNO.out w (Nat.le_refl _), nbel_alloc _ _⟩
  by_cases cr : Rn.Right n f
  case neg =>
    rw [Rn.tn_no (fun x => cr x.1)]
    have HC := Lib.hid (dB_ff cr)
    clear cr
    go_enter Tryd.func25, Tryd.ntmps25
    go_wp2_with fail
    refine (specAssets_any a n cap f _ H.out hs).mono ?_
    rintro e w1 ⟨rfl, hb⟩
    rw [HC.out]
    have HB := Lib.hid hb
    clear hb
    go_wp2_with fail
    go_ret
    exact ⟨HNO.out w1 HB.out.size, HB.out.alloc HB.out.size _⟩
  have HC := Lib.hid (dB_tt cr)
  have HRT := Lib.hid cr
  have hn40 := cr.1
  clear cr
  by_cases cz : Rn.BudOk z
  case neg =>
    rw [Rn.tn_no (fun x => cz x.2)]
    have cz2 : z < 0 ∨ (¬ z < 0 ∧ 300 < z) := by unfold Rn.BudOk at cz; omega
    clear cz
    rcases cz2 with c1 | ⟨c1, c2⟩
    all_goals
      go_enter Tryd.func25, Tryd.ntmps25
      go_wp2_with fail
      refine (specAssets_any a n cap f _ H.out hs).mono ?_
      rintro e w1 ⟨rfl, hb⟩
      rw [HC.out]
      have HB := Lib.hid hb
      clear hb
      go_wp2_with fail
      go_ret
      exact ⟨HNO.out w1 HB.out.size, HB.out.alloc HB.out.size _⟩
  rw [Rn.tn_yes ⟨HRT.out, cz⟩]
  clear HNO
  obtain ⟨b, rfl⟩ : ∃ b : Nat, z = (b : Int) := ⟨z.toNat, by have := cz.1; omega⟩
  have hb3 : b ≤ 300 := by have := cz.2; omega
  have hbz : ¬ (b : Int) < 0 := by omega
  have hbz3 : ¬ (300 : Int) < (b : Int) := by omega
  rw [Int.toNat_natCast]
  obtain ⟨N, hN⟩ : ∃ N, N = b + 1 := ⟨_, rfl⟩
  rw [← hN]
  obtain ⟨m, hm⟩ : ∃ m, m = n + 1 := ⟨_, rfl⟩
  have e15 : IntKind.i64.wrap ((n : Int) + 1) = (m : Int) := by rw [rwrap (by omega) (by omega), hm]; simp
  have eN : IntKind.i64.wrap ((b : Int) + 1) = (N : Int) := by rw [rwrap (by omega) (by omega), hN]; simp
  have hnm : (n : Int) < (m : Int) := by omega
  have hN1 : N ≤ 1000 := by omega
  have hm41 : m ≤ 41 := by omega
  have hmkN := run_make_row' (P := Tryd.prog) 24 2 (.int .i64 0) 8 Tryd.underlying24 rninfo rfl .i64 .i64 N (by omega) (by omega)
  have hmkm := run_make_row' (P := Tryd.prog) 43 24 (.slice none 0 0) 24 Tryd.underlying43 rinfo_ss rfl .i64 .i64 m (by omega) (by omega)
  have HM := Lib.hid hm
  have HNN := Lib.hid hN
  rw [← hm]
  clear cz hm hN
  go_enter Tryd.func25, Tryd.ntmps25
  go_wp2_with fail
  refine (specAssets_any a n cap f _ H.out hs).mono ?_
  rintro e w1 ⟨rfl, hb⟩
  rw [HC.out]
  have HB := Lib.hid hb
  clear hb
  go_upto_region 5 with fail
  obtain ⟨W, hW⟩ : ∃ W, W = w1.alloc (.cells (madeCells #[.slice none 0 0] m) 24) := ⟨_, rfl⟩
  have HQ : Hid (W.rowIs w1.heap.size 24 m (fun _ => .slice none 0 0)) := by show W.rowIs _ _ _ _; rw [hW]; exact World.rowIs_made w1 _ m _
  obtain ⟨gT, hgT⟩ : ∃ gT, gT = w1.heap.size := ⟨_, rfl⟩
  have HGT : Hid (w.heap.size ≤ gT) := by show _ ≤ _; rw [hgT]; exact HB.out.size
  replace HB : Hid (Below w.heap.size w W) := by show Below _ _ _; rw [hW]; exact HB.out.alloc HB.out.size _
  rw [← hgT] at HQ
  rw [← hW, ← hgT]
  clear hW hgT
  have o0 := HQ.out.cell (i := n) (by omega)
  have o1 := HQ.out.frozen n
  have hol := HQ.out.lt
  obtain ⟨X, hX⟩ : ∃ X, X = W.setCell ⟨gT, n, none⟩ (.slice (some ⟨W.heap.size, 0, none⟩) N N) := ⟨_, rfl⟩
  have hXs : X.heap.size = W.heap.size := by rw [hX]; simp
  have HW3 : Hid (WrP 24 m w.heap.size gT n n N f (X.alloc (.cells (madeCells #[.int .i64 0] N) 2))) := by
    have q1 : X.rowIs gT 24 m (fun j => if j = n then .slice (some ⟨W.heap.size, 0, none⟩) N N else .slice none 0 0) := by rw [hX]; exact HQ.out.set n _
    refine ⟨fun _ => W.heap.size, ⟨_, nrow_below q1 (nbel_alloc _ _), fun j h1 h2 => by simp [show j = n by omega], fun j h1 => by simp [show ¬ j = n by omega]⟩, fun j h1 h2 => ?_, fun j k h1 h2 h3 => by omega⟩
    obtain rfl : j = n := by omega
    rw [Rn.T_end]
    have q2 := World.rowIs_made X (.int .i64 0) N 2
    rw [hXs] at q2
    exact ⟨⟨N, _, Nat.le_refl _, q2, fun j hj => rfl⟩, HB.out.size⟩
  have HW5 : Hid (Below w.heap.size w (X.alloc (.cells (madeCells #[.int .i64 0] N) 2))) := by
    show Below _ _ _
    have hbX : Below w.heap.size w X := by rw [hX]; exact HB.out.setCell (p := ⟨gT, n, none⟩) HGT.out _
    exact hbX.alloc hbX.size _
  have HX := Lib.hid hX
  clear hX hXs
  go_wp2_with fail
  clear hmkm o0 o1 hol HQ HB
  rw [← HX.out]
  clear HX
  have HLBO : Hid (∀ lb, a = some ⟨lb, 0, none⟩ → 0 < n → lb < w.heap.size) := fun lb e h0 => by
    obtain ⟨b', e', c0, c1⟩ := H.out.at2 (i := 0) h0
    rw [e] at e'
    cases e'
    exact World.block_lt_of_cell? _ _ c0
  try dsimp only
  go_loopw [7, 8] (fun iv _ wr => ∃ (i : Nat), i ≤ n ∧ iv = .int .i64 ((i : Int) - 1) ∧ Hid (WrP 24 m w.heap.size gT i n N f wr) ∧ Hid (Below w.heap.size w wr)) (fun iv _ _ => (intOf iv + 1).toNat)
  case atStart => exact ⟨n, Nat.le_refl _, rfl, HW3, HW5⟩
  case round =>
    obtain ⟨i, hi, rfl, hP, hB⟩ := hrel
    clear HW3 HW5
    by_cases hi0 : i = 0
    · subst hi0
      have HEND := Lib.hid (hP.out.ss HM.out HGT.out m)
      clear hP
      go_wp2_with fail
      go_ret
      exact ⟨⟨_, _, rfl, by rw [HM.out] at HEND ⊢; exact HEND.out⟩, hB.out⟩
    obtain ⟨k, rfl⟩ : ∃ k, i = k + 1 := ⟨i - 1, by omega⟩
    have hkn : (k : Int) < (n : Int) := by omega
    obtain ⟨k1, hk1⟩ : ∃ k1, k1 = k + 1 := ⟨_, rfl⟩
    have hk1z : (k1 : Int) < (m : Int) := by omega
    have hkz : (k : Int) < (m : Int) := by omega
    have e6 : IntKind.i64.wrap ((k : Int) + 1) = (k1 : Int) := by rw [rwrap (by omega) (by omega)]; omega
    have HK1 := Lib.hid hk1
    have hcc := HRT.out.c (show k < n by omega)
    obtain ⟨c, hc⟩ : ∃ c, c = Rn.c f k := ⟨_, rfl⟩
    obtain ⟨y, hy⟩ : ∃ y, y = f (k * 2 + 1) := ⟨_, rfl⟩
    obtain ⟨lb, e, c0, c1⟩ := (H.out.below hB.out).at2 (i := k) (by omega)
    subst e
    rw [hcc.1, ← hc] at c0
    rw [← hy] at c1
    rw [← hc] at hcc
    have hc3 : c ≤ 300 := hcc.2.2
    have HY : Hid (0 ≤ y ∧ y ≤ 1000) := by show _ ∧ _; rw [hy]; exact (HRT.out.2 k (by omega)).2
    have HC := Lib.hid hc
    have HYE := Lib.hid hy
    clear hc hy hcc hi0 hk1
    have HLB0 := Lib.hid (HLBO.out lb rfl (by omega))
    obtain ⟨v0, o0, o1⟩ := hP.out.cell (j := k) (by omega)
    have hol := hP.out.lt
    rw [show ((k + 1 : Nat) : Int) - 1 = (k : Int) by omega]
    obtain ⟨gr, hgr⟩ : ∃ gr, gr = wr.heap.size := ⟨_, rfl⟩
    have HT : Hid (InT w.heap.size gT gr k n m N f 0 ((wr.setCell ⟨gT, k, none⟩ (.slice (some ⟨gr, 0, none⟩) N N)).alloc (.cells (madeCells #[.int .i64 0] N) 2))) := by show InT _ _ _ _ _ _ _ _ _ _; rw [hgr]; exact hP.out.begin (by omega) hB.out.size
    have HBT : Hid (Below w.heap.size w ((wr.setCell ⟨gT, k, none⟩ (.slice (some ⟨gr, 0, none⟩) N N)).alloc (.cells (madeCells #[.int .i64 0] N) 2))) := by
      show Below _ _ _
      have hbX := hB.out.setCell (p := ⟨gT, k, none⟩) HGT.out (.slice (some ⟨gr, 0, none⟩) N N)
      exact hbX.alloc hbX.size _
    have HLB : Hid (lb ≠ gr) := by show lb ≠ gr; have := HLB0.out; have := hB.out.size; omega
    have HGR := Lib.hid hgr
    clear hgr c0 c1
    go_wp2_with fail
    rw [← HGR.out]
    clear HGR o0 o1 hol hP hB
    try dsimp only
    go_loopw [8] (fun jv wr => ∃ (j : Nat), j ≤ N ∧ jv = .int .i64 (j : Int) ∧ Hid (InT w.heap.size gT gr k n m N f j wr) ∧ Hid (Below w.heap.size w wr)) (fun jv _ => N - (intOf jv).toNat)
    case atStart => exact ⟨0, Nat.zero_le _, rfl, HT, HBT⟩
    case round =>
      obtain ⟨j, hj, rfl, hT, hB⟩ := hrel
      clear HT HBT
      by_cases hjN : j = N
      · subst hjN
        have hjz : ¬ ((j : Int) ≤ (b : Int)) := by have := HNN.out; omega
        have HP := Lib.hid (hT.out.full (by omega))
        clear hT
        go_wp2_with fail
        go_roundw
        case rel => exact ⟨k, by omega, by go_num, HP, hB⟩
        case measure => simp [intOf] <;> omega
      have hjb : (j : Int) ≤ (b : Int) := by have := HNN.out; omega
      have hjNz : (j : Int) < (N : Int) := by omega
      obtain ⟨lb2, e, c0, c1⟩ := (H.out.below hB.out).at2 (i := k) (by omega)
      cases e
      rw [(HRT.out.c (show k < n by omega)).1, ← HC.out] at c0
      rw [← HYE.out] at c1
      obtain ⟨d, hd⟩ : ∃ d, d = j - c := ⟨_, rfl⟩
      have hdz : (d : Int) < (N : Int) := by omega
      obtain ⟨nb, hnb⟩ : ∃ nb, nb = Rn.T f n k1 j := ⟨_, rfl⟩
      obtain ⟨nd, hnd⟩ : ∃ nd, nd = Rn.T f n k1 d := ⟨_, rfl⟩
      obtain ⟨s, hs'⟩ : ∃ s, s = y + nd := ⟨_, rfl⟩
      obtain ⟨v, hv⟩ := Rn.max nb s
      have e9 : IntKind.i64.wrap (y + nd) = s := by
        have q1 := Rn.T_bd HRT.out k1 d
        have q2 := HY.out
        rw [← hnd] at q1
        rw [rwrap (by omega) (by omega), hs']
      obtain ⟨gn, q1, q2, q3⟩ : ∃ gn, wr.cell? ⟨gT, k1, none⟩ = some (.slice (some ⟨gn, 0, none⟩) N N) ∧ wr.cell? ⟨gn, j, none⟩ = some (.int .i64 nb) ∧ wr.cell? ⟨gn, d, none⟩ = some (.int .i64 nd) := by
        obtain ⟨gs, F, ⟨f1, f2, f3, f4⟩, f5, _⟩ := hT.out
        have e := HK1.out
        have f6 := (f5 k1 (by omega) (by omega)).1
        have g1 := f6.at_.at1 (i := j) (by omega)
        have g2 := f6.at_.at1 (i := d) (by omega)
        obtain ⟨x1, e1, g1⟩ := g1
        obtain ⟨x2, e2, g2⟩ := g2
        cases e1
        cases e2
        exact ⟨gs k1, (f1.cell (by omega)).trans (by rw [f3 k1 (by omega) (by omega)]), by rw [hnb]; exact g1, by rw [hnd]; exact g2⟩
      have q0 : wr.cell? ⟨gT, k, none⟩ = some (.slice (some ⟨gr, 0, none⟩) N N) := by
        obtain ⟨gs, F, ⟨f1, f2, f3, f4⟩, f5, _⟩ := hT.out
        exact (f1.cell (by omega)).trans (by rw [f2])
      have HS : Hid (SpW gT lb gr gn k k1 N j d c y nb nd wr) := ⟨q0, q1, q2, c0, c1, q3⟩
      have HD := Lib.hid hd
      have HNB := Lib.hid hnb
      have HND := Lib.hid hnd
      have HSS := Lib.hid hs'
      have HMX := Lib.hid hv
      clear hd hnb hnd hs' hv q0 q1 q2 q3 c0 c1 hjN hmkN
      go_wp2_with fail
      refine wp_region_held_drew (S := fun V => SpW gT lb gr gn k k1 N j d c y nb nd V ∧ InT w.heap.size gT gr k n m N f j V ∧ Below w.heap.size w V) (by kernel_rfl) ⟨HS.out.below (Below.refl _ _).drew, hT.out.below (Below.refl _ _).drew, hB.out.drew⟩ (fun hHeld => ?_)
      obtain ⟨Z, hZ⟩ : ∃ Z, Z = wr.drew := ⟨_, rfl⟩
      rw [← hZ] at hHeld ⊢
      clear hZ HS hT hB
      refine take_do (i := 0) (v := (.slice (some ⟨gT, 0, none⟩) m m)) rfl (by kernel_rfl) (by kernel_rfl) (by kernel_rfl) (fun _ _ _ h => h) (by rfl) ?_ (by assumption) ?_
      · intro w hSw
        obtain ⟨⟨q0, q1, q2, q3, q4, q5⟩, _⟩ := hSw
        go_simp
      simp only [Act.put, List.setIfInBounds_toArray, List.set_cons_zero, List.set_cons_succ]
      refine take_do (i := 1) (v := (.int .i64 k)) rfl (by kernel_rfl) (by kernel_rfl) (by kernel_rfl) (fun _ _ _ h => h) (by rfl) ?_ (by assumption) ?_
      · intro w hSw
        obtain ⟨⟨q0, q1, q2, q3, q4, q5⟩, _⟩ := hSw
        go_simp
      simp only [Act.put, List.setIfInBounds_toArray, List.set_cons_zero, List.set_cons_succ]
      refine take_do (i := 2) (v := (.pointer (some ⟨gT, k, none⟩))) rfl (by kernel_rfl) (by kernel_rfl) (by kernel_rfl) (fun _ _ _ h => h) (by rfl) ?_ (by assumption) ?_
      · intro w hSw
        obtain ⟨⟨q0, q1, q2, q3, q4, q5⟩, _⟩ := hSw
        go_simp
      simp only [Act.put, List.setIfInBounds_toArray, List.set_cons_zero, List.set_cons_succ]
      refine take_do (i := 3) (v := (.slice (some ⟨gr, 0, none⟩) N N)) rfl (by kernel_rfl) (by kernel_rfl) (by kernel_rfl) (fun _ _ _ h => h) (by rfl) ?_ (by assumption) ?_
      · intro w hSw
        obtain ⟨⟨q0, q1, q2, q3, q4, q5⟩, _⟩ := hSw
        go_simp
      simp only [Act.put, List.setIfInBounds_toArray, List.set_cons_zero, List.set_cons_succ]
      refine take_do (i := 4) (v := (.int .i64 j)) rfl (by kernel_rfl) (by kernel_rfl) (by kernel_rfl) (fun _ _ _ h => h) (by rfl) ?_ (by assumption) ?_
      · intro w hSw
        obtain ⟨⟨q0, q1, q2, q3, q4, q5⟩, _⟩ := hSw
        go_simp
      simp only [Act.put, List.setIfInBounds_toArray, List.set_cons_zero, List.set_cons_succ]
      refine take_do (i := 5) (v := (.slice (some ⟨gT, 0, none⟩) m m)) rfl (by kernel_rfl) (by kernel_rfl) (by kernel_rfl) (fun _ _ _ h => h) (by rfl) ?_ (by assumption) ?_
      · intro w hSw
        obtain ⟨⟨q0, q1, q2, q3, q4, q5⟩, _⟩ := hSw
        go_simp
      simp only [Act.put, List.setIfInBounds_toArray, List.set_cons_zero, List.set_cons_succ]
      refine take_do (i := 6) (v := (.int .i64 k)) rfl (by kernel_rfl) (by kernel_rfl) (by kernel_rfl) (fun _ _ _ h => h) (by rfl) ?_ (by assumption) ?_
      · intro w hSw
        obtain ⟨⟨q0, q1, q2, q3, q4, q5⟩, _⟩ := hSw
        go_simp
      simp only [Act.put, List.setIfInBounds_toArray, List.set_cons_zero, List.set_cons_succ]
      refine take_do (i := 7) (v := (.int .i64 k1)) rfl (by kernel_rfl) (by kernel_rfl) (by kernel_rfl) (fun _ _ _ h => h) (by rfl) ?_ (by assumption) ?_
      · intro w hSw
        obtain ⟨⟨q0, q1, q2, q3, q4, q5⟩, _⟩ := hSw
        go_simp
      simp only [Act.put, List.setIfInBounds_toArray, List.set_cons_zero, List.set_cons_succ]
      refine take_do (i := 8) (v := (.pointer (some ⟨gT, k1, none⟩))) rfl (by kernel_rfl) (by kernel_rfl) (by kernel_rfl) (fun _ _ _ h => h) (by rfl) ?_ (by assumption) ?_
      · intro w hSw
        obtain ⟨⟨q0, q1, q2, q3, q4, q5⟩, _⟩ := hSw
        go_simp
      simp only [Act.put, List.setIfInBounds_toArray, List.set_cons_zero, List.set_cons_succ]
      refine take_do (i := 9) (v := (.slice (some ⟨gn, 0, none⟩) N N)) rfl (by kernel_rfl) (by kernel_rfl) (by kernel_rfl) (fun _ _ _ h => h) (by rfl) ?_ (by assumption) ?_
      · intro w hSw
        obtain ⟨⟨q0, q1, q2, q3, q4, q5⟩, _⟩ := hSw
        go_simp
      simp only [Act.put, List.setIfInBounds_toArray, List.set_cons_zero, List.set_cons_succ]
      refine take_do (i := 10) (v := (.int .i64 j)) rfl (by kernel_rfl) (by kernel_rfl) (by kernel_rfl) (fun _ _ _ h => h) (by rfl) ?_ (by assumption) ?_
      · intro w hSw
        obtain ⟨⟨q0, q1, q2, q3, q4, q5⟩, _⟩ := hSw
        go_simp
      simp only [Act.put, List.setIfInBounds_toArray, List.set_cons_zero, List.set_cons_succ]
      refine take_do (i := 11) (v := (.pointer (some ⟨gn, j, none⟩))) rfl (by kernel_rfl) (by kernel_rfl) (by kernel_rfl) (fun _ _ _ h => h) (by rfl) ?_ (by assumption) ?_
      · intro w hSw
        obtain ⟨⟨q0, q1, q2, q3, q4, q5⟩, _⟩ := hSw
        go_simp
      simp only [Act.put, List.setIfInBounds_toArray, List.set_cons_zero, List.set_cons_succ]
      refine take_do (i := 12) (v := (.int .i64 nb)) rfl (by kernel_rfl) (by kernel_rfl) (by kernel_rfl) (fun _ _ _ h => h) (by rfl) ?_ (by assumption) ?_
      · intro w hSw
        obtain ⟨⟨q0, q1, q2, q3, q4, q5⟩, _⟩ := hSw
        go_simp
      simp only [Act.put, List.setIfInBounds_toArray, List.set_cons_zero, List.set_cons_succ]
      refine take_do (i := 13) (v := (.pointer (some ⟨gr, j, none⟩))) rfl (by kernel_rfl) (by kernel_rfl) (by kernel_rfl) (fun _ _ _ h => h) (by rfl) ?_ (by assumption) ?_
      · intro w hSw
        obtain ⟨⟨q0, q1, q2, q3, q4, q5⟩, _⟩ := hSw
        go_simp
      simp only [Act.put, List.setIfInBounds_toArray, List.set_cons_zero, List.set_cons_succ]
      obtain ⟨o0, o1⟩ := hHeld.2.1.cell (j := j) (by omega)
      have hol := hHeld.2.1.lt
      refine take_call (i := 14) rfl (by kernel_rfl) (fun K2 hK => ?_)
      obtain ⟨vv, o0⟩ := o0
      go_simp
      have HBY : Hid (Below w.heap.size w (Z.setCell ⟨gr, j, none⟩ (.int .i64 nb))) := hHeld.2.2.setCell (p := ⟨gr, j, none⟩) hHeld.2.1.low _
      have HSY : Hid (SpW gT lb gr gn k k1 N j d c y nb nd (Z.setCell ⟨gr, j, none⟩ (.int .i64 nb))) := hHeld.1.set (hHeld.2.1.ne) HLB.out (hHeld.2.1.nen HK1.out hHeld.1.2.1 (by have := HK1.out; omega) (by have := HM.out; omega)) _
      have HTY : Hid (InT w.heap.size gT gr k n m N f j (Z.setCell ⟨gr, j, none⟩ (.int .i64 nb))) := hHeld.2.1.touch _
      have HCY : Hid ((Z.setCell ⟨gr, j, none⟩ (.int .i64 nb)).cell? ⟨gr, j, none⟩ = some (.int .i64 nb)) := World.cell?_setCell_same _ _ _ o0
      have HNOT : Hid (¬ c ≤ j → InT w.heap.size gT gr k n m N f (j + 1) (Z.setCell ⟨gr, j, none⟩ (.int .i64 nb))) := fun q => by
        have := hHeld.2.1.put (j := j)
        rw [Rn.T_step f (show k < n by omega), ← Rn.rv_step, ← HC.out, ← HYE.out] at this
        unfold Rn.rv at this
        rw [if_neg q, ← HK1.out, ← HNB.out] at this
        exact this
      generalize Z.setCell ⟨gr, j, none⟩ (.int .i64 nb) = Y at HBY HTY HSY HCY HNOT ⊢
      clear o0 o1 hol
      refine hK.out _ _ ⟨HSY.out, HTY.out, HBY.out⟩ (fun hHeld2 => ?_)
      clear hK hHeld hHeld2
      refine wpAnyH_done (by kernel_rfl) ?_ _
      have q3 := HSY.out.2.2.2.1
      by_cases hcj : c ≤ j
      case neg =>
        have hcz : ¬ (c : Int) ≤ (j : Int) := by omega
        have HN := Lib.hid (HNOT.out hcj)
        clear HNOT hcj HSY HTY HCY
        go_wp2_with fail
        go_roundw
        case rel => exact ⟨j + 1, by omega, by go_num, HN, HBY⟩
        case measure => simp [intOf] <;> omega
      have hcz : (c : Int) ≤ (j : Int) := by omega
      have e28 : IntKind.i64.wrap ((j : Int) - (c : Int)) = (d : Int) := by
        have := HD.out
        rw [rwrap (by omega) (by omega)]
        omega
      clear HNOT
      go_wp2_with fail
      refine wp_region_held_drew (S := fun V => SpW gT lb gr gn k k1 N j d c y nb nd V ∧ InT w.heap.size gT gr k n m N f j V ∧ Below w.heap.size w V) (by kernel_rfl) ⟨HSY.out.below (Below.refl _ _).drew, HTY.out.below (Below.refl _ _).drew, HBY.out.drew⟩ (fun hHeld => ?_)
      clear q3
      obtain ⟨Z2, hZ⟩ : ∃ Z2, Z2 = Y.drew := ⟨_, rfl⟩
      have q6 : Z2.cell? ⟨gr, j, none⟩ = some (.int .i64 nb) := by rw [hZ]; exact HCY.out
      rw [← hZ] at hHeld ⊢
      clear hZ HSY HTY HBY HCY
      refine take_do (i := 0) (v := (.slice (some ⟨gT, 0, none⟩) m m)) rfl (by kernel_rfl) (by kernel_rfl) (by kernel_rfl) (fun _ _ _ h => h) (by rfl) ?_ (by assumption) ?_
      · intro w hSw
        obtain ⟨⟨q0, q1, q2, q3, q4, q5⟩, _⟩ := hSw
        go_simp
      simp only [Act.put, List.setIfInBounds_toArray, List.set_cons_zero, List.set_cons_succ]
      refine take_do (i := 1) (v := (.int .i64 k)) rfl (by kernel_rfl) (by kernel_rfl) (by kernel_rfl) (fun _ _ _ h => h) (by rfl) ?_ (by assumption) ?_
      · intro w hSw
        obtain ⟨⟨q0, q1, q2, q3, q4, q5⟩, _⟩ := hSw
        go_simp
      simp only [Act.put, List.setIfInBounds_toArray, List.set_cons_zero, List.set_cons_succ]
      refine take_do (i := 2) (v := (.pointer (some ⟨gT, k, none⟩))) rfl (by kernel_rfl) (by kernel_rfl) (by kernel_rfl) (fun _ _ _ h => h) (by rfl) ?_ (by assumption) ?_
      · intro w hSw
        obtain ⟨⟨q0, q1, q2, q3, q4, q5⟩, _⟩ := hSw
        go_simp
      simp only [Act.put, List.setIfInBounds_toArray, List.set_cons_zero, List.set_cons_succ]
      refine take_do (i := 3) (v := (.slice (some ⟨gr, 0, none⟩) N N)) rfl (by kernel_rfl) (by kernel_rfl) (by kernel_rfl) (fun _ _ _ h => h) (by rfl) ?_ (by assumption) ?_
      · intro w hSw
        obtain ⟨⟨q0, q1, q2, q3, q4, q5⟩, _⟩ := hSw
        go_simp
      simp only [Act.put, List.setIfInBounds_toArray, List.set_cons_zero, List.set_cons_succ]
      refine take_do (i := 4) (v := (.int .i64 j)) rfl (by kernel_rfl) (by kernel_rfl) (by kernel_rfl) (fun _ _ _ h => h) (by rfl) ?_ (by assumption) ?_
      · intro w hSw
        obtain ⟨⟨q0, q1, q2, q3, q4, q5⟩, _⟩ := hSw
        go_simp
      simp only [Act.put, List.setIfInBounds_toArray, List.set_cons_zero, List.set_cons_succ]
      refine take_do (i := 5) (v := (.slice (some ⟨gT, 0, none⟩) m m)) rfl (by kernel_rfl) (by kernel_rfl) (by kernel_rfl) (fun _ _ _ h => h) (by rfl) ?_ (by assumption) ?_
      · intro w hSw
        obtain ⟨⟨q0, q1, q2, q3, q4, q5⟩, _⟩ := hSw
        go_simp
      simp only [Act.put, List.setIfInBounds_toArray, List.set_cons_zero, List.set_cons_succ]
      refine take_do (i := 6) (v := (.int .i64 k)) rfl (by kernel_rfl) (by kernel_rfl) (by kernel_rfl) (fun _ _ _ h => h) (by rfl) ?_ (by assumption) ?_
      · intro w hSw
        obtain ⟨⟨q0, q1, q2, q3, q4, q5⟩, _⟩ := hSw
        go_simp
      simp only [Act.put, List.setIfInBounds_toArray, List.set_cons_zero, List.set_cons_succ]
      refine take_do (i := 7) (v := (.pointer (some ⟨gT, k, none⟩))) rfl (by kernel_rfl) (by kernel_rfl) (by kernel_rfl) (fun _ _ _ h => h) (by rfl) ?_ (by assumption) ?_
      · intro w hSw
        obtain ⟨⟨q0, q1, q2, q3, q4, q5⟩, _⟩ := hSw
        go_simp
      simp only [Act.put, List.setIfInBounds_toArray, List.set_cons_zero, List.set_cons_succ]
      refine take_do (i := 8) (v := (.slice (some ⟨gr, 0, none⟩) N N)) rfl (by kernel_rfl) (by kernel_rfl) (by kernel_rfl) (fun _ _ _ h => h) (by rfl) ?_ (by assumption) ?_
      · intro w hSw
        obtain ⟨⟨q0, q1, q2, q3, q4, q5⟩, _⟩ := hSw
        go_simp
      simp only [Act.put, List.setIfInBounds_toArray, List.set_cons_zero, List.set_cons_succ]
      refine take_do (i := 9) (v := (.int .i64 j)) rfl (by kernel_rfl) (by kernel_rfl) (by kernel_rfl) (fun _ _ _ h => h) (by rfl) ?_ (by assumption) ?_
      · intro w hSw
        obtain ⟨⟨q0, q1, q2, q3, q4, q5⟩, _⟩ := hSw
        go_simp
      simp only [Act.put, List.setIfInBounds_toArray, List.set_cons_zero, List.set_cons_succ]
      refine take_do (i := 10) (v := (.pointer (some ⟨gr, j, none⟩))) rfl (by kernel_rfl) (by kernel_rfl) (by kernel_rfl) (fun _ _ _ h => h) (by rfl) ?_ (by assumption) ?_
      · intro w hSw
        obtain ⟨⟨q0, q1, q2, q3, q4, q5⟩, _⟩ := hSw
        go_simp
      simp only [Act.put, List.setIfInBounds_toArray, List.set_cons_zero, List.set_cons_succ]
      refine take_do (i := 12) (v := (.slice (some ⟨lb, 0, none⟩) n cap)) rfl (by kernel_rfl) (by kernel_rfl) (by kernel_rfl) (fun _ _ _ h => h) (by rfl) ?_ (by assumption) ?_
      · intro w hSw
        obtain ⟨⟨q0, q1, q2, q3, q4, q5⟩, _⟩ := hSw
        go_simp
      simp only [Act.put, List.setIfInBounds_toArray, List.set_cons_zero, List.set_cons_succ]
      refine take_do (i := 13) (v := (.int .i64 k)) rfl (by kernel_rfl) (by kernel_rfl) (by kernel_rfl) (fun _ _ _ h => h) (by rfl) ?_ (by assumption) ?_
      · intro w hSw
        obtain ⟨⟨q0, q1, q2, q3, q4, q5⟩, _⟩ := hSw
        go_simp
      simp only [Act.put, List.setIfInBounds_toArray, List.set_cons_zero, List.set_cons_succ]
      refine take_do (i := 14) (v := (.pointer (some ⟨lb, k * 2, none⟩))) rfl (by kernel_rfl) (by kernel_rfl) (by kernel_rfl) (fun _ _ _ h => h) (by rfl) ?_ (by assumption) ?_
      · intro w hSw
        obtain ⟨⟨q0, q1, q2, q3, q4, q5⟩, _⟩ := hSw
        go_simp
      simp only [Act.put, List.setIfInBounds_toArray, List.set_cons_zero, List.set_cons_succ]
      refine take_do (i := 15) (v := (.pointer (some ⟨lb, k * 2 + 1, none⟩))) rfl (by kernel_rfl) (by kernel_rfl) (by kernel_rfl) (fun _ _ _ h => h) (by rfl) ?_ (by assumption) ?_
      · intro w hSw
        obtain ⟨⟨q0, q1, q2, q3, q4, q5⟩, _⟩ := hSw
        go_simp
      simp only [Act.put, List.setIfInBounds_toArray, List.set_cons_zero, List.set_cons_succ]
      refine take_do (i := 16) (v := (.int .i64 y)) rfl (by kernel_rfl) (by kernel_rfl) (by kernel_rfl) (fun _ _ _ h => h) (by rfl) ?_ (by assumption) ?_
      · intro w hSw
        obtain ⟨⟨q0, q1, q2, q3, q4, q5⟩, _⟩ := hSw
        go_simp
      simp only [Act.put, List.setIfInBounds_toArray, List.set_cons_zero, List.set_cons_succ]
      refine take_do (i := 17) (v := (.slice (some ⟨gT, 0, none⟩) m m)) rfl (by kernel_rfl) (by kernel_rfl) (by kernel_rfl) (fun _ _ _ h => h) (by rfl) ?_ (by assumption) ?_
      · intro w hSw
        obtain ⟨⟨q0, q1, q2, q3, q4, q5⟩, _⟩ := hSw
        go_simp
      simp only [Act.put, List.setIfInBounds_toArray, List.set_cons_zero, List.set_cons_succ]
      refine take_do (i := 18) (v := (.int .i64 k)) rfl (by kernel_rfl) (by kernel_rfl) (by kernel_rfl) (fun _ _ _ h => h) (by rfl) ?_ (by assumption) ?_
      · intro w hSw
        obtain ⟨⟨q0, q1, q2, q3, q4, q5⟩, _⟩ := hSw
        go_simp
      simp only [Act.put, List.setIfInBounds_toArray, List.set_cons_zero, List.set_cons_succ]
      refine take_do (i := 19) (v := (.int .i64 k1)) rfl (by kernel_rfl) (by kernel_rfl) (by kernel_rfl) (fun _ _ _ h => h) (by rfl) ?_ (by assumption) ?_
      · intro w hSw
        obtain ⟨⟨q0, q1, q2, q3, q4, q5⟩, _⟩ := hSw
        go_simp
      simp only [Act.put, List.setIfInBounds_toArray, List.set_cons_zero, List.set_cons_succ]
      refine take_do (i := 20) (v := (.pointer (some ⟨gT, k1, none⟩))) rfl (by kernel_rfl) (by kernel_rfl) (by kernel_rfl) (fun _ _ _ h => h) (by rfl) ?_ (by assumption) ?_
      · intro w hSw
        obtain ⟨⟨q0, q1, q2, q3, q4, q5⟩, _⟩ := hSw
        go_simp
      simp only [Act.put, List.setIfInBounds_toArray, List.set_cons_zero, List.set_cons_succ]
      refine take_do (i := 21) (v := (.slice (some ⟨gn, 0, none⟩) N N)) rfl (by kernel_rfl) (by kernel_rfl) (by kernel_rfl) (fun _ _ _ h => h) (by rfl) ?_ (by assumption) ?_
      · intro w hSw
        obtain ⟨⟨q0, q1, q2, q3, q4, q5⟩, _⟩ := hSw
        go_simp
      simp only [Act.put, List.setIfInBounds_toArray, List.set_cons_zero, List.set_cons_succ]
      refine take_do (i := 22) (v := (.int .i64 j)) rfl (by kernel_rfl) (by kernel_rfl) (by kernel_rfl) (fun _ _ _ h => h) (by rfl) ?_ (by assumption) ?_
      · intro w hSw
        obtain ⟨⟨q0, q1, q2, q3, q4, q5⟩, _⟩ := hSw
        go_simp
      simp only [Act.put, List.setIfInBounds_toArray, List.set_cons_zero, List.set_cons_succ]
      refine take_do (i := 23) (v := (.slice (some ⟨lb, 0, none⟩) n cap)) rfl (by kernel_rfl) (by kernel_rfl) (by kernel_rfl) (fun _ _ _ h => h) (by rfl) ?_ (by assumption) ?_
      · intro w hSw
        obtain ⟨⟨q0, q1, q2, q3, q4, q5⟩, _⟩ := hSw
        go_simp
      simp only [Act.put, List.setIfInBounds_toArray, List.set_cons_zero, List.set_cons_succ]
      refine take_do (i := 24) (v := (.int .i64 k)) rfl (by kernel_rfl) (by kernel_rfl) (by kernel_rfl) (fun _ _ _ h => h) (by rfl) ?_ (by assumption) ?_
      · intro w hSw
        obtain ⟨⟨q0, q1, q2, q3, q4, q5⟩, _⟩ := hSw
        go_simp
      simp only [Act.put, List.setIfInBounds_toArray, List.set_cons_zero, List.set_cons_succ]
      refine take_do (i := 25) (v := (.pointer (some ⟨lb, k * 2, none⟩))) rfl (by kernel_rfl) (by kernel_rfl) (by kernel_rfl) (fun _ _ _ h => h) (by rfl) ?_ (by assumption) ?_
      · intro w hSw
        obtain ⟨⟨q0, q1, q2, q3, q4, q5⟩, _⟩ := hSw
        go_simp
      simp only [Act.put, List.setIfInBounds_toArray, List.set_cons_zero, List.set_cons_succ]
      refine take_do (i := 26) (v := (.pointer (some ⟨lb, k * 2, none⟩))) rfl (by kernel_rfl) (by kernel_rfl) (by kernel_rfl) (fun _ _ _ h => h) (by rfl) ?_ (by assumption) ?_
      · intro w hSw
        obtain ⟨⟨q0, q1, q2, q3, q4, q5⟩, _⟩ := hSw
        go_simp
      simp only [Act.put, List.setIfInBounds_toArray, List.set_cons_zero, List.set_cons_succ]
      refine take_do (i := 27) (v := (.int .i64 (c : Int))) rfl (by kernel_rfl) (by kernel_rfl) (by kernel_rfl) (fun _ _ _ h => h) (by rfl) ?_ (by assumption) ?_
      · intro w hSw
        obtain ⟨⟨q0, q1, q2, q3, q4, q5⟩, _⟩ := hSw
        go_simp
      simp only [Act.put, List.setIfInBounds_toArray, List.set_cons_zero, List.set_cons_succ]
      refine take_do (i := 28) (v := (.int .i64 d)) rfl (by kernel_rfl) (by kernel_rfl) (by kernel_rfl) (fun _ _ _ h => h) (by rfl) ?_ (by assumption) ?_
      · intro w hSw
        obtain ⟨⟨q0, q1, q2, q3, q4, q5⟩, _⟩ := hSw
        go_simp
      simp only [Act.put, List.setIfInBounds_toArray, List.set_cons_zero, List.set_cons_succ]
      refine take_do (i := 29) (v := (.pointer (some ⟨gn, d, none⟩))) rfl (by kernel_rfl) (by kernel_rfl) (by kernel_rfl) (fun _ _ _ h => h) (by rfl) ?_ (by assumption) ?_
      · intro w hSw
        obtain ⟨⟨q0, q1, q2, q3, q4, q5⟩, _⟩ := hSw
        go_simp
      simp only [Act.put, List.setIfInBounds_toArray, List.set_cons_zero, List.set_cons_succ]
      refine take_do (i := 30) (v := (.int .i64 nd)) rfl (by kernel_rfl) (by kernel_rfl) (by kernel_rfl) (fun _ _ _ h => h) (by rfl) ?_ (by assumption) ?_
      · intro w hSw
        obtain ⟨⟨q0, q1, q2, q3, q4, q5⟩, _⟩ := hSw
        go_simp
      simp only [Act.put, List.setIfInBounds_toArray, List.set_cons_zero, List.set_cons_succ]
      refine take_do (i := 31) (v := (.int .i64 s)) rfl (by kernel_rfl) (by kernel_rfl) (by kernel_rfl) (fun _ _ _ h => h) (by rfl) ?_ (by assumption) ?_
      · intro w hSw
        obtain ⟨⟨q0, q1, q2, q3, q4, q5⟩, _⟩ := hSw
        go_simp
      simp only [Act.put, List.setIfInBounds_toArray, List.set_cons_zero, List.set_cons_succ]
      refine take_call (i := 11) rfl (by kernel_rfl) (fun K2 hK => ?_)
      go_simp
      refine hK.out _ _ hHeld (fun hHeld2 => ?_)
      clear hK hHeld q6
      have hHeld := hHeld2
      clear hHeld2
      refine take_call (i := 32) rfl (by kernel_rfl) (fun K2 hK => ?_)
      go_simp
      refine (rmax_any nb s v _ HMX.out).mono ?_
      rintro e w1 ⟨rfl, hw⟩
      subst w1
      go_wp2_with fail
      refine hK.out _ _ hHeld (fun hHeld2 => ?_)
      clear hK hHeld
      have hHeld := hHeld2
      clear hHeld2
      refine take_do (i := 33) (v := (.pointer (some ⟨gr, j, none⟩))) rfl (by kernel_rfl) (by kernel_rfl) (by kernel_rfl) (fun _ _ _ h => h) (by rfl) ?_ (by assumption) ?_
      · intro w hSw
        obtain ⟨⟨q0, q1, q2, q3, q4, q5⟩, _⟩ := hSw
        go_simp
      simp only [Act.put, List.setIfInBounds_toArray, List.set_cons_zero, List.set_cons_succ]
      obtain ⟨o0, o1⟩ := hHeld.2.1.cell (j := j) (by omega)
      have hol := hHeld.2.1.lt
      refine take_call (i := 34) rfl (by kernel_rfl) (fun K2 hK => ?_)
      obtain ⟨vv, o0⟩ := o0
      go_simp
      have HBY : Hid (Below w.heap.size w (Z2.setCell ⟨gr, j, none⟩ (.int .i64 v))) := hHeld.2.2.setCell (p := ⟨gr, j, none⟩) hHeld.2.1.low _
      have HSY : Hid (SpW gT lb gr gn k k1 N j d c y nb nd (Z2.setCell ⟨gr, j, none⟩ (.int .i64 v))) := hHeld.1.set (hHeld.2.1.ne) HLB.out (hHeld.2.1.nen HK1.out hHeld.1.2.1 (by have := HK1.out; omega) (by have := HM.out; omega)) _
      have HTY : Hid (InT w.heap.size gT gr k n m N f j (Z2.setCell ⟨gr, j, none⟩ (.int .i64 v))) := hHeld.2.1.touch _
      have HN : Hid (InT w.heap.size gT gr k n m N f (j + 1) (Z2.setCell ⟨gr, j, none⟩ (.int .i64 v))) := by
        have := hHeld.2.1.put (j := j)
        rw [Rn.T_step f (show k < n by omega), ← Rn.rv_step, ← HC.out, ← HYE.out] at this
        unfold Rn.rv at this
        rw [if_pos hcj, ← HK1.out, ← HD.out, ← HNB.out, ← HND.out, ← HSS.out] at this
        have e : (if nb ≤ s then s else nb) = v := by
          rcases HMX.out with ⟨q1, q2⟩ | ⟨q1, q2⟩
          · rw [if_neg (by omega), q2]
          · rw [if_pos (by omega), q2]
        rw [e] at this
        exact this
      generalize Z2.setCell ⟨gr, j, none⟩ (.int .i64 v) = Y2 at HBY HTY HSY HN ⊢
      clear o0 o1 hol
      refine hK.out _ _ ⟨HSY.out, HTY.out, HBY.out⟩ (fun hHeld2 => ?_)
      clear hK hHeld hHeld2
      refine wpAnyH_done (by kernel_rfl) ?_ _
      clear HSY HTY
      go_wp2_with fail
      go_roundw
      case rel => exact ⟨j + 1, by omega, by go_num, HN, HBY⟩
      case measure => simp [intOf] <;> omega
end Go.Proofs.YtbkpedcabbppbaaDoor
