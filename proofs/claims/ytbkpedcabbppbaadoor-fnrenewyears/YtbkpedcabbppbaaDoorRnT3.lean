/-
  The table's rows: the program's.
-/
import Derived.Test.YtbkpedcabbppbaaDoorRnT2
import Derived.Laws.Rows
import Derived.Deep.WholeRow
import Derived.Deep.Cut
namespace Go.Proofs.YtbkpedcabbppbaaDoor
open Go.RowKit Go.Deep

/-- The rows of a table that are there from a place on. -/
def WrP (t : TypeId) (M B g i n N : Nat) (f : Nat → Int) (W : World) : Prop := ∃ gs : Nat → Nat, (∃ F, W.rowIs g t M F ∧ (∀ j, i ≤ j → j ≤ n → F j = .slice (some ⟨gs j, 0, none⟩) N N) ∧ (∀ j, n < j → F j = .slice none 0 0)) ∧ (∀ j, i ≤ j → j ≤ n → IsBlk 2 (gs j) N (Rn.T f n j) W ∧ B ≤ gs j) ∧ ∀ j k, i ≤ j → j < k → k ≤ n → gs k < gs j
theorem WrP.below {t : TypeId} {M B g i n N : Nat} {f : Nat → Int} {W W' : World} (h : WrP t M B g i n N f W) (hb : Below W.heap.size W W') : WrP t M B g i n N f W' := by
  obtain ⟨gs, ⟨F, h1, h2, h2b⟩, h3, h4⟩ := h
  exact ⟨gs, ⟨F, nrow_below h1 hb, h2, h2b⟩, fun j h5 h6 => ⟨(h3 j h5 h6).1.below hb, (h3 j h5 h6).2⟩, h4⟩
theorem WrP.weak {t : TypeId} {M B g i n N : Nat} {f : Nat → Int} {W : World} (h : WrP t M B g i n N f W) : WrP t M B g (i + 1) n N f W := by
  obtain ⟨gs, ⟨F, h1, h2, h2b⟩, h3, h4⟩ := h
  exact ⟨gs, ⟨F, h1, fun j h5 h6 => h2 j (by omega) h6, h2b⟩, fun j h5 h6 => h3 j (by omega) h6, fun j k h5 h6 h7 => h4 j k (by omega) h6 h7⟩
theorem WrP.lt {t : TypeId} {M B g i n N : Nat} {f : Nat → Int} {W : World} (h : WrP t M B g i n N f W) : g < W.heap.size := by obtain ⟨gs, ⟨F, h1, _⟩, _⟩ := h; exact h1.lt
theorem WrP.cell {t : TypeId} {M B g i n N j : Nat} {f : Nat → Int} {W : World} (h : WrP t M B g i n N f W) (hj : j < M) : ∃ v, W.cell? ⟨g, j, none⟩ = some v ∧ W.frozen? ⟨g, j, none⟩ = false := by
  obtain ⟨gs, ⟨F, h1, _⟩, _⟩ := h
  exact ⟨_, h1.cell hj, h1.frozen j⟩
theorem WrP.one {t : TypeId} {M B g i n N j : Nat} {f : Nat → Int} {W : World} (h : WrP t M B g i n N f W) (h1 : i ≤ j) (h2 : j ≤ n) (hn : n < M) : ∃ gn, W.cell? ⟨g, j, none⟩ = some (.slice (some ⟨gn, 0, none⟩) N N) := by
  obtain ⟨gs, ⟨F, q1, q2, _⟩, _⟩ := h
  exact ⟨gs j, (q1.cell (by omega)).trans (by rw [q2 j h1 h2])⟩
/-- A row by where its cell says that it lies. -/
theorem WrP.blk' {t : TypeId} {M B g i n N : Nat} {f : Nat → Int} {W : World} (h : WrP t M B g i n N f W) (hn : n < M) (j : Nat) (h1 : i ≤ j) (h2 : j ≤ n) (gn : Nat) (hg : W.cell? ⟨g, j, none⟩ = some (.slice (some ⟨gn, 0, none⟩) N N)) : IsBlk 2 gn N (Rn.T f n j) W := by
  obtain ⟨gs, ⟨F, q1, q2, _⟩, q3, _⟩ := h
  have e := (q1.cell (i := j) (by omega)).symm.trans hg
  rw [q2 j h1 h2] at e
  simp at e
  rw [← e]
  exact (q3 j h1 h2).1
theorem WrP.typ {t : TypeId} {M B g i n N : Nat} {f : Nat → Int} {W : World} (h : WrP t M B g i n N f W) (ht : t ≠ 2) {k m : Nat} {L : Nat → Int} (hk : IsBlk 2 k m L W) : k ≠ g := by
  rintro rfl
  obtain ⟨gs, ⟨F, q1, q2, q2b⟩, q3, q4⟩ := h
  obtain ⟨m', F', _, ⟨c1, e1, _⟩, _⟩ := hk
  obtain ⟨c2, e2, _⟩ := q1
  rw [e1] at e2
  injection e2 with e2
  injection e2 with _ e2
  exact ht e2.symm
/-- One more row, from behind. -/
theorem WrP.put {t : TypeId} {M B g i n N : Nat} {f : Nat → Int} {Z W : World} (h : WrP t M B g (i + 1) n N f Z) (ht : t ≠ 2) (hb : Below Z.heap.size Z W) (hi : i ≤ n) {gr : Nat} (hr : IsBlk 2 gr N (Rn.T f n i) W) (hB : B ≤ gr) (hg : Z.heap.size ≤ gr) : WrP t M B g i n N f (W.setCell ⟨g, i, none⟩ (.slice (some ⟨gr, 0, none⟩) N N)) := by
  have typ := fun k (L : Nat → Int) (hk : IsBlk 2 k N L W) => (h.below hb).typ ht hk
  obtain ⟨gs, ⟨F, q1, q2, q2b⟩, q3, q4⟩ := h
  have hold : ∀ j, i + 1 ≤ j → j ≤ n → gs j < gr := fun j h1 h2 => Nat.lt_of_lt_of_le (q3 j h1 h2).1.lt hg
  replace q1 := nrow_below q1 hb
  replace q3 := fun j h1 h2 => (⟨(q3 j h1 h2).1.below hb, (q3 j h1 h2).2⟩ : IsBlk 2 (gs j) N (Rn.T f n j) W ∧ B ≤ gs j)
  refine ⟨fun j => if j = i then gr else gs j, ⟨fun j => if j = i then .slice (some ⟨gr, 0, none⟩) N N else F j, ?_, fun j h1 h2 => ?_, fun j h1 => ?_⟩, fun j h1 h2 => ?_, fun j k h1 h2 h3 => ?_⟩
  · exact (q1.set i (.slice (some ⟨gr, 0, none⟩) N N)).congr (fun j hj => by simp)
  · by_cases e : j = i
    · simp [e]
    · simp only [if_neg e]; exact q2 j (by omega) h2
  · simp only [if_neg (show ¬ j = i by omega)]; exact q2b j h1
  · by_cases e : j = i
    · subst e
      simp only
      exact ⟨hr.block (rhs _ _ _ (typ _ _ hr) _ _), hB⟩
    · simp only [if_neg e]
      have q := q3 j (by omega) h2
      exact ⟨q.1.block (rhs _ _ _ (typ _ _ q.1) _ _), q.2⟩
  · by_cases e : j = i
    · subst e
      simp only [if_neg (show ¬ k = j by omega)]
      exact hold k (by omega) h3
    · simp only [if_neg e, if_neg (show ¬ k = i by omega)]
      exact q4 j k (by omega) h2 h3
/-- What a round reads. -/
def RnW (g5 lb k k1 gn N c : Nat) (y : Int) (V : World) : Prop := V.cell? ⟨lb, k * 2, none⟩ = some (.int .i64 (c : Int)) ∧ V.cell? ⟨lb, k * 2 + 1, none⟩ = some (.int .i64 y) ∧ V.cell? ⟨g5, k1, none⟩ = some (.slice (some ⟨gn, 0, none⟩) N N)
theorem RnW.below {g5 lb k k1 gn N c : Nat} {y : Int} {V V' : World} (h : RnW g5 lb k k1 gn N c y V) (hb : Below V.heap.size V V') : RnW g5 lb k k1 gn N c y V' := by
  obtain ⟨h0, h1, h2⟩ := h
  exact ⟨(hb.cell (World.block_lt_of_cell? _ _ h0)).trans h0, (hb.cell (World.block_lt_of_cell? _ _ h1)).trans h1, (hb.cell (World.block_lt_of_cell? _ _ h2)).trans h2⟩
theorem RnW.set {g5 lb k k1 gn N c : Nat} {y : Int} {V : World} (h : RnW g5 lb k k1 gn N c y V) (hl : lb ≠ g5) (hk : k1 = k + 1) (v : Value) : RnW g5 lb k k1 gn N c y (V.setCell ⟨g5, k, none⟩ v) := by
  obtain ⟨h0, h1, h2⟩ := h
  refine ⟨?_, ?_, ?_⟩
  · rw [World.cell?_setCell_far _ _ _ _ (fun e => hl e.symm)]; exact h0
  · rw [World.cell?_setCell_far _ _ _ _ (fun e => hl e.symm)]; exact h1
  · rw [World.cell?_setCell_other (h := fun e => by injection e with _ e _; omega)]; exact h2
/-- The value of all rows. -/
def WrV (cs : Array Value) (B n N : Nat) (f : Nat → Int) (W : World) : Prop := cs.size = 41 ∧ ∃ gs : Nat → Nat, (∀ j, j ≤ n → cs[j]? = some (.slice (some ⟨gs j, 0, none⟩) N N)) ∧ (∀ j, n < j → j < 41 → cs[j]? = some (.slice none 0 0)) ∧ (∀ j, j ≤ n → IsBlk 2 (gs j) N (Rn.T f n j) W ∧ B ≤ gs j) ∧ ∀ j k, j < k → k ≤ n → gs k < gs j
set_option maxRecDepth 100000 in
set_option maxHeartbeats 4000000 in
theorem worthsOf_any (a : Option Addr) (n cap : Nat) (f : Nat → Int) (b N : Nat) (w : World) (h : IsAt a (n * 2) f w) (hr : Rn.Right n f) (hb : b ≤ 300) (hNb : N = b + 1) :
    Calls Tryd.prog 47 #[.slice a n cap, .int .i64 (b : Int)] w fun e w' => (∃ cs, e = .returned (.agg cs) ∧ WrV cs w.heap.size n N f w') ∧ Below w.heap.size w w' := by
  have hn40 := hr.1
  have hN : N ≤ 1000 := by omega
  have hmk := run_make_row' (P := Tryd.prog) 24 2 (.int .i64 0) 8 Tryd.underlying24 rninfo rfl .i64 .i64 N (by omega) (by omega)
  have eN : IntKind.i64.wrap ((b : Int) + 1) = (N : Int) := by rw [rwrap (by omega) (by omega), hNb]; simp
  have hn41 : (n : Int) < 41 := by omega
  obtain ⟨W, hW⟩ : ∃ W, W = (w.alloc (.cells ⟨List.replicate 41 (Value.slice none 0 0)⟩ 73)).alloc (.cells ⟨List.replicate 41 (Value.slice none 0 0)⟩ 73) := ⟨_, rfl⟩
  have HB : Hid (Below w.heap.size w W) := by show Below _ _ _; rw [hW]; exact ((Below.refl _ _).alloc (Nat.le_refl _) _).alloc (by simp) _
  have nil41 : ∀ j, j < 41 → rowN (List.replicate 41 (Value.slice none 0 0)) j = Value.slice none 0 0 := fun j hj => by
    unfold rowN
    rw [List.getD_eq_getElem?_getD, List.getElem?_replicate, if_pos hj]
    rfl
  have HR : Hid (W.rowIs w.heap.size 73 41 (fun _ => .slice none 0 0)) := by
    show W.rowIs _ _ _ _
    rw [hW]
    exact (nrow_below (rowN_alloc w (List.replicate 41 (Value.slice none 0 0)) 73) (nbel_alloc _ _)).congr nil41
  have HQ : Hid (W.rowIs (w.heap.size + 1) 73 41 (fun _ => .slice none 0 0)) := by
    show W.rowIs _ _ _ _
    rw [hW]
    exact (rowN_alloc' (by simp) (List.replicate 41 (Value.slice none 0 0)) 73).congr nil41
  have HSZ : Hid (W.heap.size = w.heap.size + 1 + 1) := by show W.heap.size = _; rw [hW]; simp
  have HW := Lib.hid hW
  obtain ⟨g5, hg5⟩ : ∃ g5, g5 = w.heap.size + 1 := ⟨_, rfl⟩
  have HG5 := Lib.hid hg5
  have H := Lib.hid h
  have HRT := Lib.hid hr
  have HNB := Lib.hid hNb
  clear h hr hNb hW nil41 hb hg5
  go_enter Tryd.func47, Tryd.ntmps47
  go_upto_region 2 with fail
  refine (congrArg (fun X => Code.wp _ _ _ _ X) HW.out).mp ?_
  show Code.wp _ _ _ _ W
  rw [← HG5.out]
  clear HW
  rw [← HG5.out] at HQ
  have o0 := HQ.out.cell (i := n) (by omega)
  have o1 := HQ.out.frozen n
  have hol := HQ.out.lt
  obtain ⟨X, hX⟩ : ∃ X, X = W.setCell ⟨g5, n, none⟩ (.slice (some ⟨W.heap.size, 0, none⟩) N N) := ⟨_, rfl⟩
  have hXs : X.heap.size = W.heap.size := by rw [hX]; simp
  have HW3 : Hid (WrP 73 41 w.heap.size g5 n n N f (X.alloc (.cells (madeCells #[.int .i64 0] N) 2))) := by
    have q1 : X.rowIs g5 73 41 (fun j => if j = n then .slice (some ⟨W.heap.size, 0, none⟩) N N else .slice none 0 0) := by rw [hX]; exact HQ.out.set n _
    refine ⟨fun _ => W.heap.size, ⟨_, nrow_below q1 (nbel_alloc _ _), fun j h1 h2 => by simp [show j = n by omega], fun j h1 => by simp [show ¬ j = n by omega]⟩, fun j h1 h2 => ?_, fun j k h1 h2 h3 => by omega⟩
    obtain rfl : j = n := by omega
    rw [Rn.T_end]
    have q2 := World.rowIs_made X (.int .i64 0) N 2
    rw [hXs] at q2
    exact ⟨⟨N, _, Nat.le_refl _, q2, fun j hj => rfl⟩, HB.out.size⟩
  have HW4 : Hid ((X.alloc (.cells (madeCells #[.int .i64 0] N) 2)).rowIs w.heap.size 73 41 (fun _ => .slice none 0 0)) := by
    show World.rowIs _ _ _ _ _
    rw [hX]
    exact nrow_below (nrow_set HR.out (by show w.heap.size ≠ g5; have := HG5.out; omega) _) (nbel_alloc _ _)
  have HW5 : Hid (Below w.heap.size w (X.alloc (.cells (madeCells #[.int .i64 0] N) 2))) := by
    show Below _ _ _
    have hbX : Below w.heap.size w X := by rw [hX]; exact HB.out.setCell (p := ⟨g5, n, none⟩) (by show w.heap.size ≤ g5; have := HG5.out; omega) _
    exact hbX.alloc hbX.size _
  have HX := Lib.hid hX
  clear hX hXs
  go_wp2_with fail
  clear hmk o0 o1 hol HQ HR HB
  rw [← HX.out]
  clear HX
  have HLB : Hid (∀ lb, a = some ⟨lb, 0, none⟩ → 0 < n → lb ≠ g5) := fun lb e h0 => by
    obtain ⟨b', e', c0, c1⟩ := H.out.at2 (i := 0) h0
    rw [e] at e'
    cases e'
    have := World.block_lt_of_cell? _ _ c0
    have := HG5.out
    show lb ≠ g5
    simp at *
    omega
  go_loopw [6] (fun iv wr => ∃ (i : Nat), i ≤ n ∧ iv = .int .i64 ((i : Int) - 1) ∧ Hid (WrP 73 41 w.heap.size g5 i n N f wr) ∧ Hid (wr.rowIs w.heap.size 73 41 (fun _ => .slice none 0 0)) ∧ Hid (Below w.heap.size w wr)) (fun iv _ => (intOf iv + 1).toNat)
  case atStart => exact ⟨n, Nat.le_refl _, rfl, HW3, HW4, HW5⟩
  case round =>
    obtain ⟨i, hi, rfl, hP, hR, hB⟩ := hrel
    clear HW3 HW4 HW5
    by_cases hi0 : i = 0
    · subst hi0
      have HP := hP
      obtain ⟨gs, ⟨F, ⟨cs, e1, e2, e3⟩, f1, f2⟩, f3, f4⟩ := hP.out
      obtain ⟨rs, r1, r2, _⟩ := hR.out
      have hcs : cs.all (·.oneCell') = true := by
        rw [Array.all_eq_true_iff_forall_mem]
        intro v hv
        obtain ⟨i, hi, rfl⟩ := Array.getElem_of_mem hv
        have := e3 i (by omega)
        rw [Array.getElem?_eq_getElem hi] at this
        have hv2 : cs[i] = F i := by simpa using this
        rw [hv2]
        by_cases q : i ≤ n
        · rw [f1 i (by omega) q]; rfl
        · rw [f2 i (by omega)]; rfl
      have HV : Hid (WrV cs w.heap.size n N f (wr.setRow w.heap.size cs)) := by
        refine ⟨e2, gs, fun j hj => by rw [e3 j (by omega), f1 j (by omega) hj], fun j h1 h2 => by rw [e3 j h2, f2 j h1], fun j hj => ?_, fun j k h1 h2 => f4 j k (by omega) h1 h2⟩
        have q := f3 j (by omega) hj
        refine ⟨q.1.block (setRow_other _ _ _ _ ?_), q.2⟩
        intro e
        obtain ⟨m, F', _, ⟨c1, e1', _⟩, _⟩ := q.1
        rw [e, r1] at e1'
        simp at e1'
      have HBZ : Hid (Below w.heap.size w (wr.setRow w.heap.size cs)) := by
        have q := hB.out
        exact ⟨q.os, q.tape, q.output, by simp; exact q.size, fun k hk => (setRow_other _ _ _ _ (by omega)).trans (q.block k hk)⟩
      have hgz : (wr.setRow w.heap.size cs).heap[w.heap.size]? = some (.cells cs 73 (0, 0)) := setRow_heap _ _ _ _ _ _ r1
      have hsz : (Tryd.prog.info? 73).map (·.size) = some cs.size := by rw [e2]; kernel_rfl
      clear HP hP hR f1 f2 f3 f4 e3 hB
      go_wp2_with (first | refine wpList_load_row rfl 73 _ rfl g5 rfl 73 cs (0, 0) _ e1 Tryd.underlying73 rfl hsz ?_ | refine wpList_store_row rfl 73 _ _ rfl w.heap.size cs rfl rfl 73 rs r1 hsz (by rw [r2, e2]) hcs ?_)
      exact bodyPost_ret (v := .agg cs) (results_cell_row Tryd.results47 _ _ w.heap.size 73 cs (0, 0) _ rfl hgz Tryd.underlying73 rfl hsz) rfl ⟨⟨cs, rfl, HV.out⟩, HBZ.out⟩
    obtain ⟨k, rfl⟩ : ∃ k, i = k + 1 := ⟨i - 1, by omega⟩
    have hkn : (k : Int) < (n : Int) := by omega
    obtain ⟨k1, hk1⟩ : ∃ k1, k1 = k + 1 := ⟨_, rfl⟩
    have hk1z : (k1 : Int) < 41 := by omega
    have e6 : IntKind.i64.wrap ((k : Int) + 1) = (k1 : Int) := by rw [rwrap (by omega) (by omega)]; omega
    have HK1 := Lib.hid hk1
    have hk0 : (k : Int) < 41 := by omega
    obtain ⟨lb, e, c0, c1⟩ := (H.out.below hB.out).at2 (i := k) (by omega)
    subst e
    have HL := Lib.hid (HLB.out lb rfl (by omega))
    have hcc := HRT.out.c (show k < n by omega)
    obtain ⟨c, hc⟩ : ∃ c, c = Rn.c f k := ⟨_, rfl⟩
    obtain ⟨y, hy⟩ : ∃ y, y = f (k * 2 + 1) := ⟨_, rfl⟩
    rw [hcc.1, ← hc] at c0
    rw [← hy] at c1
    rw [← hc] at hcc
    have hc3 : c ≤ 300 := hcc.2.2
    have HY : Hid (0 ≤ y ∧ y ≤ 1000) := by show _ ∧ _; rw [hy]; exact (HRT.out.2 k (by omega)).2
    have HC := Lib.hid hc
    have HYE := Lib.hid hy
    obtain ⟨gn, hgn⟩ := hP.out.one (j := k + 1) (Nat.le_refl _) (by omega) (by omega)
    have HS : Hid (RnW g5 lb k k1 gn N c y wr) := ⟨c0, c1, by rw [hk1]; exact hgn⟩
    have HBD : Hid (∀ j, 0 ≤ Rn.T f n (k + 1) j ∧ Rn.T f n (k + 1) j ≤ 40000) := fun j => Rn.T_bd HRT.out (k + 1) j
    clear hc hy hcc c0 c1 hgn hi0 hk1
    rw [show ((k + 1 : Nat) : Int) - 1 = (k : Int) by omega]
    go_upto_region 6 with fail
    refine wp_region_held_drew (S := fun V => RnW g5 lb k k1 gn N c y V ∧ WrP 73 41 w.heap.size g5 (k + 1) n N f V ∧ V.rowIs w.heap.size 73 41 (fun _ => .slice none 0 0) ∧ Below w.heap.size w V) (by kernel_rfl) ⟨HS.out.below (Below.refl _ _).drew, hP.out.below (Below.refl _ _).drew, nrow_below hR.out (Below.refl _ _).drew, hB.out.drew⟩ (fun hHeld => ?_)
    obtain ⟨Z, hZ⟩ : ∃ Z, Z = wr.drew := ⟨_, rfl⟩
    rw [← hZ] at hHeld ⊢
    clear hZ HS hP hR hB
    refine take_do (i := 0) (v := (.int .i64 k)) rfl (by kernel_rfl) (by kernel_rfl) (by kernel_rfl) (fun _ _ _ h => h) (by rfl) ?_ (by assumption) ?_
    · intro w hSw
      obtain ⟨⟨q0, q1, q2⟩, _⟩ := hSw
      go_simp
    simp only [Act.put, List.setIfInBounds_toArray, List.set_cons_zero, List.set_cons_succ]
    refine take_do (i := 1) (v := (.slice (some ⟨lb, 0, none⟩) n cap)) rfl (by kernel_rfl) (by kernel_rfl) (by kernel_rfl) (fun _ _ _ h => h) (by rfl) ?_ (by assumption) ?_
    · intro w hSw
      obtain ⟨⟨q0, q1, q2⟩, _⟩ := hSw
      go_simp
    simp only [Act.put, List.setIfInBounds_toArray, List.set_cons_zero, List.set_cons_succ]
    refine take_do (i := 2) (v := (.int .i64 k)) rfl (by kernel_rfl) (by kernel_rfl) (by kernel_rfl) (fun _ _ _ h => h) (by rfl) ?_ (by assumption) ?_
    · intro w hSw
      obtain ⟨⟨q0, q1, q2⟩, _⟩ := hSw
      go_simp
    simp only [Act.put, List.setIfInBounds_toArray, List.set_cons_zero, List.set_cons_succ]
    refine take_do (i := 3) (v := (.pointer (some ⟨lb, k * 2, none⟩))) rfl (by kernel_rfl) (by kernel_rfl) (by kernel_rfl) (fun _ _ _ h => h) (by rfl) ?_ (by assumption) ?_
    · intro w hSw
      obtain ⟨⟨q0, q1, q2⟩, _⟩ := hSw
      go_simp
    simp only [Act.put, List.setIfInBounds_toArray, List.set_cons_zero, List.set_cons_succ]
    refine take_do (i := 4) (v := (.agg #[.int .i64 (c : Int), .int .i64 y])) rfl (by kernel_rfl) (by kernel_rfl) (by kernel_rfl) (fun _ _ _ h => h) (by rfl) ?_ (by assumption) ?_
    · intro w hSw
      obtain ⟨⟨q0, q1, q2⟩, _⟩ := hSw
      go_simp
    simp only [Act.put, List.setIfInBounds_toArray, List.set_cons_zero, List.set_cons_succ]
    refine take_do (i := 5) (v := (.int .i64 k)) rfl (by kernel_rfl) (by kernel_rfl) (by kernel_rfl) (fun _ _ _ h => h) (by rfl) ?_ (by assumption) ?_
    · intro w hSw
      obtain ⟨⟨q0, q1, q2⟩, _⟩ := hSw
      go_simp
    simp only [Act.put, List.setIfInBounds_toArray, List.set_cons_zero, List.set_cons_succ]
    refine take_do (i := 6) (v := (.int .i64 k1)) rfl (by kernel_rfl) (by kernel_rfl) (by kernel_rfl) (fun _ _ _ h => h) (by rfl) ?_ (by assumption) ?_
    · intro w hSw
      obtain ⟨⟨q0, q1, q2⟩, _⟩ := hSw
      go_simp
    simp only [Act.put, List.setIfInBounds_toArray, List.set_cons_zero, List.set_cons_succ]
    refine take_do (i := 7) (v := (.pointer (some ⟨g5, k1, none⟩))) rfl (by kernel_rfl) (by kernel_rfl) (by kernel_rfl) (fun _ _ _ h => h) (by rfl) ?_ (by assumption) ?_
    · intro w hSw
      obtain ⟨⟨q0, q1, q2⟩, _⟩ := hSw
      go_simp
    simp only [Act.put, List.setIfInBounds_toArray, List.set_cons_zero, List.set_cons_succ]
    refine take_do (i := 8) (v := (.slice (some ⟨gn, 0, none⟩) N N)) rfl (by kernel_rfl) (by kernel_rfl) (by kernel_rfl) (fun _ _ _ h => h) (by rfl) ?_ (by assumption) ?_
    · intro w hSw
      obtain ⟨⟨q0, q1, q2⟩, _⟩ := hSw
      go_simp
    simp only [Act.put, List.setIfInBounds_toArray, List.set_cons_zero, List.set_cons_succ]
    refine take_call (i := 9) rfl (by kernel_rfl) (fun K2 hK => ?_)
    go_simp
    have HAT := Lib.hid (hHeld.2.1.blk' (by omega) (k + 1) (Nat.le_refl _) (by omega) gn (by rw [← HK1.out]; exact hHeld.1.2.2))
    refine (rowAhead_any c y gn N N (Rn.T f n (k + 1)) _ HAT.out.at_ HY.out hc3 hN HBD.out).mono ?_
    rintro e w1 ⟨⟨gr, rfl, hgr, hrow⟩, hb⟩
    have HGR := Lib.hid hgr
    have HROW := Lib.hid hrow
    have HSZ := Lib.hid hHeld.2.2.2.size
    clear hgr hrow HAT
    go_wp2_with fail
    refine hK.out _ _ ⟨hHeld.1.below hb, hHeld.2.1.below hb, nrow_below hHeld.2.2.1 hb, hHeld.2.2.2.trans (hb.mono hHeld.2.2.2.size)⟩ (fun hHeld2 => ?_)
    have HBZ := Lib.hid hb
    have HWP := Lib.hid hHeld.2.1
    clear hK hHeld hb
    have hHeld := hHeld2
    clear hHeld2
    refine take_do (i := 10) (v := (.pointer (some ⟨g5, k, none⟩))) rfl (by kernel_rfl) (by kernel_rfl) (by kernel_rfl) (fun _ _ _ h => h) (by rfl) ?_ (by assumption) ?_
    · intro w hSw
      obtain ⟨⟨q0, q1, q2⟩, _⟩ := hSw
      go_simp
    simp only [Act.put, List.setIfInBounds_toArray, List.set_cons_zero, List.set_cons_succ]
    refine take_call (i := 11) rfl (by kernel_rfl) (fun K2 hK => ?_)
    obtain ⟨F0, o0, o1⟩ := hHeld.2.1.cell (j := k) (by omega)
    have hol := hHeld.2.1.lt
    go_simp
    have HN1 : Hid (WrP 73 41 w.heap.size g5 k n N f (w1.setCell ⟨g5, k, none⟩ (.slice (some ⟨gr, 0, none⟩) N N))) := WrP.put HWP.out (by decide) HBZ.out (by omega) (by rw [Rn.T_step f (show k < n by omega), ← Rn.rv_step, ← HC.out, ← HYE.out]; exact HROW.out) (Nat.le_trans HSZ.out HGR.out) HGR.out
    have HN2 : Hid ((w1.setCell ⟨g5, k, none⟩ (.slice (some ⟨gr, 0, none⟩) N N)).rowIs w.heap.size 73 41 (fun _ => .slice none 0 0)) := nrow_set hHeld.2.2.1 (by show w.heap.size ≠ g5; have := HG5.out; omega) _
    have HN3 : Hid (Below w.heap.size w (w1.setCell ⟨g5, k, none⟩ (.slice (some ⟨gr, 0, none⟩) N N))) := hHeld.2.2.2.setCell (p := ⟨g5, k, none⟩) (by show w.heap.size ≤ g5; have := HG5.out; omega) _
    have HN4 : Hid (RnW g5 lb k k1 gn N c y (w1.setCell ⟨g5, k, none⟩ (.slice (some ⟨gr, 0, none⟩) N N))) := hHeld.1.set HL.out HK1.out _
    generalize w1.setCell ⟨g5, k, none⟩ (.slice (some ⟨gr, 0, none⟩) N N) = Y at HN1 HN2 HN3 HN4 ⊢
    clear o0 o1 hol
    refine hK.out _ _ ⟨HN4.out, ?_, HN2.out, HN3.out⟩ (fun hHeld2 => ?_)
    · exact HN1.out.weak
    clear hK hHeld hHeld2 HN4 HWP HBZ HROW HGR HSZ
    refine wpAnyH_done (by kernel_rfl) ?_ _
    go_wp2_with fail
    go_roundw
    case rel => exact ⟨k, by omega, by go_num, HN1, HN2, HN3⟩
    case measure => simp [intOf] <;> omega
end Go.Proofs.YtbkpedcabbppbaaDoor
