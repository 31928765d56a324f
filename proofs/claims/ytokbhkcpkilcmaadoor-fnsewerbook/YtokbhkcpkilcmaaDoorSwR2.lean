/-
  What stands from step to step of a run of the program's.
-/
import Derived.Test.YtokbhkcpkilcmaaDoorSwR1
import Derived.Deep.DeepCutAuto
namespace Go.Proofs.YtokbhkcpkilcmaaDoor
open Go.RowKit Go.Deep

/-- Rains that lie in memory. -/
def RainsAt (ra : Option Addr) (M : Nat) (q : Nat → Sw.Rain) (w : World) : Prop := M = 0 ∨ ∃ b, ra = some ⟨b, 0, none⟩ ∧ ∀ k, k < M → ∃ a c, w.cell? ⟨b, k, none⟩ = some (.slice a (q k).len c) ∧ IntsAt a (q k).len (q k).at_ w
theorem RainsAt.below {ra : Option Addr} {M : Nat} {q : Nat → Sw.Rain} {w w' : World} (h : RainsAt ra M q w) (hb : Below w.heap.size w w') : RainsAt ra M q w' := by
  rcases h with h | ⟨b, e, h⟩
  · exact Or.inl h
  · refine Or.inr ⟨b, e, fun k hk => ?_⟩
    obtain ⟨a, c, h1, h2⟩ := h k hk
    exact ⟨a, c, (hb.cell (World.block_lt_of_cell? _ _ h1)).trans h1, h2.below hb⟩
theorem RainsAt.at_ {ra : Option Addr} {M : Nat} {q : Nat → Sw.Rain} {w : World} (h : RainsAt ra M q w) {k : Nat} (hk : k < M) : ∃ b a c, ra = some ⟨b, 0, none⟩ ∧ w.cell? ⟨b, k, none⟩ = some (.slice a (q k).len c) ∧ IntsAt a (q k).len (q k).at_ w := by
  rcases h with h | ⟨b, e, h⟩
  · omega
  · obtain ⟨a, c, h1, h2⟩ := h k hk
    exact ⟨b, a, c, e, h1, h2⟩
theorem Sw.runs_some {n : Nat} {rs : Nat → Sw.Rc} {q : Nat → Sw.Rain} {M k : Nat} {t : Sw.RSt} (h : Sw.runs n rs q M = some t) (hk : k ≤ M) : ∃ t', Sw.runs n rs q k = some t' := by
  cases h0 : Sw.runs n rs q k with
  | none => rw [Sw.runs_none h0 hk] at h; cases h
  | some t' => exact ⟨t', rfl⟩

/-- What stands from step to step. -/
structure RR (w : World) (n gl gf gt c po : Nat) (t : Sw.RSt) (W : World) : Prop where
  slot : RoSlot w W
  out : W.rowIs po 27 5 (ro5 (.slice (some ⟨gl, 0, none⟩) n c) (.slice (some ⟨gf, 0, none⟩) n n) (.slice (some ⟨gt, 0, none⟩) n n) t.sea 0)
  ls : RcBlk gl n t.rs W
  fl : InBlk gf n t.fl W
  tk : InBlk gt n t.tk W
  far : w.heap.size < po ∧ w.heap.size < gl ∧ w.heap.size < gf ∧ w.heap.size < gt ∧ po ≠ gl ∧ po ≠ gf ∧ po ≠ gt ∧ gl ≠ gf ∧ gl ≠ gt ∧ gf ≠ gt
theorem RR.below {w : World} {n gl gf gt c po : Nat} {t : Sw.RSt} {W W' : World} (h : RR w n gl gf gt c po t W) (hb : Below W.heap.size W W') : RR w n gl gf gt c po t W' :=
  ⟨h.slot.next hb, h.out.of_block (hb.block _ h.out.lt), h.ls.block (hb.block _ h.ls.lt), h.fl.block (hb.block _ h.fl.lt), h.tk.block (hb.block _ h.tk.lt), h.far⟩

theorem RoSlot.over {w W W' : World} (h : RoSlot w W) (hp : W'.os = W.os ∧ W'.tape = W.tape ∧ W'.output = W.output ∧ W.heap.size ≤ W'.heap.size) (hb : ∀ b, b < w.heap.size + 1 → W'.heap[b]? = W.heap[b]?) : RoSlot w W' := Below.trans h ⟨hp.1, hp.2.1, hp.2.2.1, hp.2.2.2, hb⟩
theorem row_congr {w : World} {b t n : Nat} {f g : Nat → Value} (h : w.rowIs b t n f) (e : ∀ i, i < n → f i = g i) : w.rowIs b t n g := by
  obtain ⟨c, h1, h2, h3⟩ := h
  exact ⟨c, h1, h2, fun i hi => by rw [h3 i hi, e i hi]⟩
/-- What stands behind a step's call. -/
structure RS (w : World) (n gl gf gt c po : Nat) (t : Sw.RSt) (s : Sw.St) (ps xl xf xt xc : Nat) (W : World) : Prop where
  rr : RR w n gl gf gt c po t W
  box : W.rowIs ps 27 5 (ro5 (.slice (some ⟨xl, 0, none⟩) n xc) (.slice (some ⟨xf, 0, none⟩) n n) (.slice (some ⟨xt, 0, none⟩) n n) s.sea 0)
  ls : RcBlk xl n (Sw.after t.rs s) W
  fl : InBlk xf n s.fl W
  tk : InBlk xt n s.tk W
  far : ∃ B, (w.heap.size < B ∧ po < B ∧ gl < B ∧ gf < B ∧ gt < B) ∧ (B ≤ ps ∧ B ≤ xl ∧ B ≤ xf ∧ B ≤ xt) ∧ (ps ≠ xl ∧ ps ≠ xf ∧ ps ≠ xt) ∧ (xl ≠ xf ∧ xl ≠ xt ∧ xf ≠ xt)
theorem rs_a {w wr w1 : World} {n gl gf gt c po : Nat} {t : Sw.RSt} {s : Sw.St} {xl xf xt : Nat} (h : RR w n gl gf gt c po t wr) (hL : OutL wr.heap.size n xl xf xt (Sw.after t.rs s) s.fl s.tk w1) (hb : Below wr.heap.size wr w1) (xc : Nat) :
    RS w n gl gf gt c po t s w1.heap.size xl xf xt xc (w1.alloc (.cells #[.slice (some ⟨xl, 0, none⟩) n xc, .slice (some ⟨xf, 0, none⟩) n n, .slice (some ⟨xt, 0, none⟩) n n, .int .i64 s.sea, .int .i64 0] 27)) := by
  have l1 := hL.2.2.1.lt
  have l2 := hL.2.2.2.1.lt
  have l3 := hL.2.2.2.2.lt
  have k1 := hL.1
  have k2 := hL.2.1
  have m0 := h.out.lt
  have m1 := h.ls.lt
  have m2 := h.fl.lt
  have m3 := h.tk.lt
  have m4 := h.slot.lt
  have z := hb.size
  exact ⟨(h.below hb).below ((Below.refl _ _).alloc (Nat.le_refl _) _), World.rowIs_alloc w1 _ 27 _ (ro5_row _ _ _ _ _), hL.2.2.1.alloc _, hL.2.2.2.1.alloc _, hL.2.2.2.2.alloc _, wr.heap.size, by omega⟩
theorem rs_b {w wr w1 : World} {n gl gf gt c po : Nat} {t : Sw.RSt} {s : Sw.St} {xl xf xt : Nat} (h : RR w n gl gf gt c po t wr) (hL : OutL (wr.heap.size + 1) n xl xf xt (Sw.after t.rs s) s.fl s.tk w1) (hb : RoSlot wr w1) (xc : Nat) :
    RS w n gl gf gt c po t s wr.heap.size xl xf xt xc (putRo wr.heap.size w1 (.slice (some ⟨xl, 0, none⟩) n xc) (.slice (some ⟨xf, 0, none⟩) n n) (.slice (some ⟨xt, 0, none⟩) n n) (.int .i64 s.sea) (.int .i64 0)) := by
  have l1 := hL.2.2.1.lt
  have l2 := hL.2.2.2.1.lt
  have l3 := hL.2.2.2.2.lt
  have k1 := hL.1
  have k2 := hL.2.1
  have m0 := h.out.lt
  have m1 := h.ls.lt
  have m2 := h.fl.lt
  have m3 := h.tk.lt
  have m4 := h.slot.lt
  have hL2 := OutL.put hL (.slice (some ⟨xl, 0, none⟩) n xc) (.slice (some ⟨xf, 0, none⟩) n n) (.slice (some ⟨xt, 0, none⟩) n n) (.int .i64 s.sea) (.int .i64 0)
  have hB : Below wr.heap.size wr (putRo wr.heap.size w1 (.slice (some ⟨xl, 0, none⟩) n xc) (.slice (some ⟨xf, 0, none⟩) n n) (.slice (some ⟨xt, 0, none⟩) n n) (.int .i64 s.sea) (.int .i64 0)) := (RoSlot.fin hb _ _ _ _ _).2
  refine ⟨h.below hB, ?_, hL2.2.2.1, hL2.2.2.2.1, hL2.2.2.2.2, wr.heap.size, by omega⟩
  refine row_congr (((((hb.row.set 0 _).set 1 _).set 2 _).set 3 _).set 4 _) (fun i hi => ?_)
  have hv : i = 0 ∨ i = 1 ∨ i = 2 ∨ i = 3 ∨ i = 4 := by omega
  rcases hv with rfl | rfl | rfl | rfl | rfl <;> rfl
/-- A round's two stores. -/
abbrev rW (po n xl xc : Nat) (x : Int) (W : World) : World := (W.setCell ⟨po, 0, none⟩ (.slice (some ⟨xl, 0, none⟩) n xc)).setCell ⟨po, 3, none⟩ (.int .i64 x)
theorem rW_block (po n xl xc : Nat) (x : Int) (W : World) (b : Nat) (h : b ≠ po) : (rW po n xl xc x W).heap[b]? = W.heap[b]? := by
  rw [blk_setCell_other _ _ _ _ (by show b ≠ po; exact h), blk_setCell_other _ _ _ _ (by show b ≠ po; exact h)]
theorem rr_next {w W w2 w3 : World} {n gl gf gt c po : Nat} {t : Sw.RSt} {s : Sw.St} {ps xl xf xt xc : Nat} (h : RS w n gl gf gt c po t s ps xl xf xt xc W)
    (h2 : InBlk gf n (addTo t.fl s.fl n) w2 ∧ (∀ b, b < (rW po n xl xc (t.sea + s.sea) W).heap.size → b ≠ gf → w2.heap[b]? = (rW po n xl xc (t.sea + s.sea) W).heap[b]?) ∧ (w2.os = (rW po n xl xc (t.sea + s.sea) W).os ∧ w2.tape = (rW po n xl xc (t.sea + s.sea) W).tape ∧ w2.output = (rW po n xl xc (t.sea + s.sea) W).output ∧ (rW po n xl xc (t.sea + s.sea) W).heap.size ≤ w2.heap.size))
    (h3 : InBlk gt n (addTo t.tk s.tk n) w3 ∧ (∀ b, b < w2.heap.size → b ≠ gt → w3.heap[b]? = w2.heap[b]?) ∧ (w3.os = w2.os ∧ w3.tape = w2.tape ∧ w3.output = w2.output ∧ w2.heap.size ≤ w3.heap.size)) :
    RR w n xl gf gt xc po ⟨Sw.after t.rs s, fun j => t.fl j + s.fl j, fun j => t.tk j + s.tk j, t.sea + s.sea⟩ w3 := by
  obtain ⟨B, ⟨f0, f1, f2, f3, f4⟩, ⟨f5, f6, f7, f8⟩, ⟨f9, f10, f11⟩, ⟨f12, f13, f14⟩⟩ := h.far
  obtain ⟨g0, g1, g2, g3, g4, g5, g6, g7, g8, g9⟩ := h.rr.far
  have m0 := h.rr.out.lt
  have m2 := h.rr.fl.lt
  have m3 := h.rr.tk.lt
  have m4 := h.rr.slot.lt
  have mx := h.ls.lt
  obtain ⟨a1, a2, a3, a4, a5, a6⟩ := h2
  obtain ⟨b1, b2, b3, b4, b5, b6⟩ := h3
  have e1 : (rW po n xl xc (t.sea + s.sea) W).heap.size = W.heap.size := by simp [rW]
  rw [e1] at a2 a6
  have E : ∀ b, b < W.heap.size → b ≠ po → b ≠ gf → b ≠ gt → w3.heap[b]? = W.heap[b]? := fun b hb n1 n2 n3 => (b2 b (by omega) n3).trans ((a2 b hb n2).trans (rW_block _ _ _ _ _ _ b n1))
  refine ⟨h.rr.slot.over ⟨b3.trans (a3.trans rfl), b4.trans (a4.trans rfl), b5.trans (a5.trans rfl), by omega⟩ (fun b hb => E b (by omega) (by omega) (by omega) (by omega)), ?_, h.ls.block (E xl mx (by omega) (by omega) (by omega)), ?_, ?_, by omega⟩
  · have r := (h.rr.out.set 0 (.slice (some ⟨xl, 0, none⟩) n xc)).set 3 (.int .i64 (t.sea + s.sea))
    refine row_congr (r.of_block ((b2 po (by omega) (by omega)).trans (a2 po m0 (by omega)))) (fun i hi => ?_)
    have hv : i = 0 ∨ i = 1 ∨ i = 2 ∨ i = 3 ∨ i = 4 := by omega
    rcases hv with rfl | rfl | rfl | rfl | rfl <;> rfl
  · exact (a1.block (b2 gf (by omega) (by omega))).congr (fun j hj => by show (if j < n then _ else _) = _; rw [if_pos hj])
  · exact b1.congr (fun j hj => by show (if j < n then _ else _) = _; rw [if_pos hj])
end Go.Proofs.YtokbhkcpkilcmaaDoor
