/-
  The contract of the program's basin of a store.
-/
import Derived.Test.YtdpghhmcibiplaaDoorStB2
import Derived.Test.YtdpghhmcibiplaaDoorReg
import Derived.Deep.RegionLaw
namespace Go.Proofs.YtdpghhmcibiplaaDoor
open Go.RowKit Go.Deep

theorem step_append_own {P : Program} {ops : Array Oper} {o : Oper} {a : Act} {w : World} {K : Act → World → Prop} {Q : Exit → Act → World → Prop} {E : Prop}
    (hg : o.guard = none) (s x : Operand) (t : TypeId) (hop : o.op = Op.call { callee := Callee.builtin Builtin.append, args := #[s, x], argTypes := #[t, t] }) (B : Nat)
    (e : TypeId) (i : TypeInfo) (z : Value) (size bytes : Nat) (h1 : P.underlying t = some (.slice e)) (h2 : P.info? e = some i) (h3 : i.zero = some z) (h4 : i.size = size) (h5 : i.bytes = bytes) (h6 : z.cells.size = size) (h7 : 0 < size)
    (v : Value) (n : Nat) (olds : List Value) (hs : a.eval s = v) (hown : w.ownsRow B e size v n olds)
    (ad : Addr) (m c : Nat) (news : List Value) (hx : a.eval x = .slice (some ad) m c) (hn : news.length = m * size) (hc : ∀ j u, news[j]? = some u → w.cell? (ad.add j) = some u) (h1c : ∀ u ∈ news, u.oneCell' = true)
    (b1 : n + m ≤ maxLen) (b2 : (n + m) * bytes ≤ 140737488355328) (hB : B ≤ w.heap.size)
    (hK : ∀ v' w', w'.ownsRow B e size v' (n + m) (olds ++ news) → w.grownBy w' v.ownBlock → K (a.put o.dst v') w') :
    if Region.wanted o (yielded ops a.tmps) = true then Oper.wp P o a w K Q else E := by
  have hw : Region.wanted o (yielded ops a.tmps) = true := by simp [Region.wanted, hg]
  rw [if_pos hw]
  obtain ⟨v', w', hrun, r1, r2, _⟩ := run_append_own (P := P) w B t o.type e i z size bytes h1 h2 h3 h4 h5 h6 h7 v n olds hown ad m c news hn hc h1c b1 b2 hB
  unfold Oper.wp
  simp [execOp, hop, resolve, invoke, builtin, hs, hx, hrun, Result.andThen]
  exact hK v' w' r1 r2
theorem own_below {w w' : World} {B : Nat} {e : TypeId} {s : Nat} {v : Value} {n : Nat} {xs : List Value} (h : w.ownsRow B e s v n xs) (hb : Below w.heap.size w w') : w'.ownsRow B e s v n xs := by
  refine ⟨h.1, ?_⟩
  rcases h.2 with h2 | ⟨g, cap, cur, e1, e2, e3, e4⟩
  · exact Or.inl h2
  · refine Or.inr ⟨g, cap, cur, e1, e2, ?_, e4⟩
    rw [hb.block g ?_]
    · exact e3
    · by_cases hg : g < w.heap.size
      · exact hg
      · rw [Array.getElem?_eq_none (by omega)] at e3; cases e3

/-- The cells of the first rulings. -/
def cellsOf (bs fs : Nat → Nat) (i : Nat) : List Value := (List.range i).flatMap (fun j => [hvR (bs j) (fs j), gvR (bs j)])
theorem cellsOf_succ (bs fs : Nat → Nat) (i : Nat) : cellsOf bs fs (i + 1) = cellsOf bs fs i ++ [hvR (bs i) (fs i), gvR (bs i)] := by
  unfold cellsOf; rw [List.range_succ, List.flatMap_append]; simp
theorem cellsOf_len (bs fs : Nat → Nat) (i : Nat) : (cellsOf bs fs i).length = i * 2 := by
  induction i with
  | zero => rfl
  | succ i ih => rw [cellsOf_succ, List.length_append, ih]; simp; omega
theorem cellsOf_congr {bs fs bs' fs' : Nat → Nat} {i : Nat} (h : ∀ j, j < i → bs j = bs' j ∧ fs j = fs' j) : cellsOf bs fs i = cellsOf bs' fs' i := by
  induction i with
  | zero => rfl
  | succ i ih =>
    rw [cellsOf_succ, cellsOf_succ, ih (fun j hj => h j (by omega)), (h i (by omega)).1, (h i (by omega)).2]
theorem cellsOf_get (bs fs : Nat → Nat) : ∀ i j, j < i → (cellsOf bs fs i)[j * 2]? = some (hvR (bs j) (fs j)) ∧ (cellsOf bs fs i)[j * 2 + 1]? = some (gvR (bs j)) := by
  intro i
  induction i with
  | zero => intro j hj; omega
  | succ i ih =>
    intro j hj
    rw [cellsOf_succ]
    have hl := cellsOf_len bs fs i
    by_cases e : j = i
    · subst e
      rw [List.getElem?_append_right (by omega), List.getElem?_append_right (by omega), hl, Nat.sub_self, Nat.add_sub_cancel_left]
      exact ⟨rfl, rfl⟩
    · rw [List.getElem?_append_left (by omega), List.getElem?_append_left (by omega)]
      exact ih j (by omega)
/-- What stands from round to round. -/
structure BoI (w wr : World) (f : Int) (r : Nat → St.Pr) (i : Nat) (v : Value) (bs fs : Nat → Nat) : Prop where
  row : wr.rowIs (w.heap.size + 1 + 1) 138 2 (r2 (.int .i64 f) v)
  res : wr.rowIs (w.heap.size + 1) 138 2 (r2 (.int .i64 0) (.slice none 0 0))
  own : wr.ownsRow (w.heap.size + 3) 134 2 v i (cellsOf bs fs i)
  rul : ∀ j, j < i → (PrCells (bs j) 0 (r j) wr ∧ wr.cell? ⟨fs j, 0, none⟩ = some (.int .i64 f)) ∧ (w.heap.size + 3 ≤ bs j ∧ w.heap.size + 3 ≤ fs j)
  bel : Below w.heap.size w wr
  nul : i = 0 → v = .slice none 0 0
theorem BoI.below {w wr wr' : World} {f : Int} {r : Nat → St.Pr} {i : Nat} {v : Value} {bs fs : Nat → Nat} (h : BoI w wr f r i v bs fs) (hb : Below wr.heap.size wr wr') : BoI w wr' f r i v bs fs :=
  ⟨h.row.of_block (hb.block _ h.row.lt), h.res.of_block (hb.block _ h.res.lt), own_below h.own hb, fun j hj => ⟨⟨(h.rul j hj).1.1.block (hb.block _ (h.rul j hj).1.1.lt), (hb.cell (World.block_lt_of_cell? _ _ (h.rul j hj).1.2)).trans (h.rul j hj).1.2⟩, (h.rul j hj).2⟩, h.bel.trans (hb.mono h.bel.size), h.nul⟩
theorem own_far {w : World} {B : Nat} {v : Value} {i : Nat} {bs fs : Nat → Nat} (h : w.ownsRow B 134 2 v i (cellsOf bs fs i)) (hz : i = 0 → v = .slice none 0 0) {b : Nat} {x : Int} (hb : w.cell? ⟨b, 0, none⟩ = some (.int .i64 x)) : v.ownBlock ≠ some b := by
  intro he
  rcases h.2 with h2 | ⟨g, cap, cur, e1, e2, e3, e4⟩
  · rw [h2.1] at he; cases he
  · rw [e1] at he
    obtain rfl : g = b := by simpa [Value.ownBlock] using he
    by_cases hi : i = 0
    · rw [hz hi] at e1; cases e1
    · have h0 := (cellsOf_get bs fs i 0 (by omega)).1
      subst e1
      have := World.ownsRow.cellAt h 0 (by omega)
      rw [this] at hb
      rw [Nat.zero_mul] at h0
      rw [h0] at hb
      cases hb
theorem grown_cell {w w' : World} {row : Option Nat} {b k : Nat} {v : Value} (hg : w.grownBy w' row) (hr : row ≠ some b) (h : w.cell? ⟨b, k, none⟩ = some v) : w'.cell? ⟨b, k, none⟩ = some v :=
  (World.cell?_of_block (a := ⟨b, k, none⟩) (hg.block b (World.block_lt_of_cell? _ _ h) (fun e => hr e.symm))).trans h
/-- A round: the list has grown by one ruling. -/
theorem BoI.next {w W w' : World} {f : Int} {r : Nat → St.Pr} {i : Nat} {v v' : Value} {bs fs : Nat → Nat} {B F : Nat} (h : BoI w W f r i v bs fs) (hp : PrCells B 0 (r i) W) (hf : W.cell? ⟨F, 0, none⟩ = some (.int .i64 f)) (hB : w.heap.size + 3 ≤ B) (hF : w.heap.size + 3 ≤ F)
    (ho : w'.ownsRow (w.heap.size + 3) 134 2 v' (i + 1) (cellsOf bs fs i ++ [hvR B F, gvR B])) (hg : W.grownBy w' v.ownBlock) :
    BoI w (w'.setCell ⟨w.heap.size + 1 + 1, 1, none⟩ v') f r (i + 1) v' (fun j => if j = i then B else bs j) (fun j => if j = i then F else fs j) := by
  have far : ∀ {b : Nat} {x : Int}, W.cell? ⟨b, 0, none⟩ = some (.int .i64 x) → v.ownBlock ≠ some b := fun hb => own_far h.own h.nul hb
  have hrow : w'.rowIs (w.heap.size + 1 + 1) 138 2 (r2 (.int .i64 f) v) := h.row.of_block (hg.block _ h.row.lt (fun e => far (row2_cells h.row).1.1 e.symm))
  have hres : w'.rowIs (w.heap.size + 1) 138 2 (r2 (.int .i64 0) (.slice none 0 0)) := h.res.of_block (hg.block _ h.res.lt (fun e => far (row2_cells h.res).1.1 e.symm))
  have blk : ∀ k, k ≠ w.heap.size + 1 + 1 → (w'.setCell ⟨w.heap.size + 1 + 1, 1, none⟩ v').heap[k]? = w'.heap[k]? := fun k hk => Below.heap_setCell _ _ _ _ hk
  refine ⟨?_, hres.of_block (blk _ (by omega)), ?_, fun j hj => ?_, ?_, fun e => absurd e (Nat.succ_ne_zero _)⟩
  · obtain ⟨cur, h1, h2, h3⟩ := hrow.set 1 v'
    refine ⟨cur, h1, h2, fun k hk => ?_⟩
    rw [h3 k hk]
    have : k = 0 ∨ k = 1 := by omega
    rcases this with rfl | rfl <;> rfl
  · have e : cellsOf (fun j => if j = i then B else bs j) (fun j => if j = i then F else fs j) (i + 1) = cellsOf bs fs i ++ [hvR B F, gvR B] := by
      rw [cellsOf_succ, if_pos rfl, if_pos rfl]
      congr 1
      exact cellsOf_congr (fun j hj => by rw [if_neg (by omega), if_neg (by omega)]; exact ⟨rfl, rfl⟩)
    rw [e]
    refine ⟨ho.1, ?_⟩
    rcases ho.2 with h2 | ⟨g, cap, cur, e1, e2, e3, e4⟩
    · exact Or.inl h2
    · exact Or.inr ⟨g, cap, cur, e1, e2, by rw [blk g (by omega)]; exact e3, e4⟩
  · by_cases e : j = i
    · subst e
      rw [if_pos rfl, if_pos rfl]
      have p0 := grown_cell hg (far hp.1) hp.1
      have p1 := grown_cell hg (far hp.1) hp.2
      have q0 := grown_cell hg (far hf) hf
      exact ⟨⟨⟨(World.cell?_of_block (a := ⟨B, 0, none⟩) (blk B (by omega))).trans p0, (World.cell?_of_block (a := ⟨B, 0 + 1, none⟩) (blk B (by omega))).trans p1⟩, (World.cell?_of_block (a := ⟨F, 0, none⟩) (blk F (by omega))).trans q0⟩, hB, hF⟩
    · rw [if_neg e, if_neg e]
      obtain ⟨⟨⟨k0, k1⟩, k2⟩, k3, k4⟩ := h.rul j (by omega)
      have p0 := grown_cell hg (far k0) k0
      have p1 := grown_cell hg (far k0) k1
      have q0 := grown_cell hg (far k2) k2
      exact ⟨⟨⟨(World.cell?_of_block (a := ⟨bs j, 0, none⟩) (blk (bs j) (by omega))).trans p0, (World.cell?_of_block (a := ⟨bs j, 0 + 1, none⟩) (blk (bs j) (by omega))).trans p1⟩, (World.cell?_of_block (a := ⟨fs j, 0, none⟩) (blk (fs j) (by omega))).trans q0⟩, k3, k4⟩
  · have hlt : w.heap.size ≤ W.heap.size := h.bel.size
    exact (h.bel.grown hg hlt (fun k hk => by have := (h.own.lt k hk).1; omega)).setCell (p := ⟨w.heap.size + 1 + 1, 1, none⟩) (by show w.heap.size ≤ w.heap.size + 1 + 1; omega) _
set_option maxRecDepth 100000 in
set_option maxHeartbeats 1000000 in
theorem rulingOf_any (p : St.Pr) (f : Int) (w : World) :
    Calls Tryd.prog 125 #[prV p, .int .i64 f] w fun e w' => e = .returned (.agg #[hvR w.heap.size (w.heap.size + 1), gvR w.heap.size]) ∧ (PrCells w.heap.size 0 p w' ∧ w'.cell? ⟨w.heap.size + 1, 0, none⟩ = some (.int .i64 f)) ∧ Gr w w' := by
  obtain ⟨W, hW⟩ : ∃ W, W = ((w.alloc (.cells #[.int .i64 p.a, .int .i64 p.b] 78)).alloc (.cells #[.int .i64 f] 2)).alloc (.cells #[hvR w.heap.size (w.heap.size + 1), gvR w.heap.size] 134) := ⟨_, rfl⟩
  have hG : Gr w W := by rw [hW]; exact (((Gr.refl _).alloc _).alloc _).alloc _
  have c0 : PrCells w.heap.size 0 p W := by rw [hW]; exact ⟨bcell_up _ (bcell_up _ (bbox2 w _ _ _).1), bcell_up _ (bcell_up _ (bbox2 w _ _ _).2)⟩
  have c1 : W.cell? ⟨w.heap.size + 1, 0, none⟩ = some (.int .i64 f) := by
    rw [hW]; refine bcell_up _ ?_
    have := bbox1 (w.alloc (.cells #[.int .i64 p.a, .int .i64 p.b] 78)) (.int .i64 f) 2
    rwa [World.size_alloc] at this
  have HH := Lib.hid (And.intro (And.intro c0 c1) hG)
  have HW := Lib.hid hW
  have hmf : ∀ (fn : Fn) (first cap : Array Value) (w : World), (Instr.makeFunc fn first cap).run Tryd.prog w = .ok (.func fn first cap) w := fun _ _ _ _ => rfl
  clear hG c0 c1 hW
  go_enter Tryd.func125, Tryd.ntmps125
  go_wp2_with fail
  rw [← HW.out]
  refine bodyPost_ret (v := .agg #[hvR w.heap.size (w.heap.size + 1), gvR w.heap.size]) ?_ rfl ⟨rfl, HH.out⟩
  have x0 : W.cell? ⟨w.heap.size + 1 + 1, 0, none⟩ = some (hvR w.heap.size (w.heap.size + 1)) ∧ W.cell? ⟨w.heap.size + 1 + 1, 1, none⟩ = some (gvR w.heap.size) := by
    rw [HW.out]
    have := bbox2 ((w.alloc (.cells #[.int .i64 p.a, .int .i64 p.b] 78)).alloc (.cells #[.int .i64 f] 2)) (hvR w.heap.size (w.heap.size + 1)) (gvR w.heap.size) 134
    rwa [World.size_alloc, World.size_alloc] at this
  simp only [results, Tryd.results125]
  simp [go_sem, x0.1, x0.2]
end Go.Proofs.YtdpghhmcibiplaaDoor
