/-
  What a plan that is being drawn is: its three lists, the source, the old memory.
-/
import Derived.Test.YtipmjobhegpdgaaPlDr2
import Derived.Test.YtipmjobhegpdgaaRegL
namespace Go.Proofs.Ytipmjobhegpdgaa
open Go Go.RowKit Go.Deep

theorem rinfo : (Try.prog.info? 32).map (fun i => (i.zero, i.size, i.bytes)) = some (some (.agg #[.int .i64 0, .int .i64 0, .int .i64 0]), 3, 24) := by kernel_rfl
/-- A list of numbers of the call's own. -/
def OwZ (T : TypeId) (s B : Nat) (v : Value) (n : Nat) (W : World) : Prop := ∃ zs : List Int, W.ownsRow B T s v n (zs.map (Value.int .i64))
theorem OwZ.nil (T : TypeId) (s B : Nat) (W : World) : OwZ T s B (.slice none 0 0) 0 W := ⟨[], World.ownsRow_nil _ _ _ _⟩
theorem OwZ.lt {T : TypeId} {s B : Nat} {v : Value} {n : Nat} {W : World} (h : OwZ T s B v n W) {k : Nat} (hk : v.ownBlock = some k) : B ≤ k ∧ k < W.heap.size := by
  obtain ⟨zs, h⟩ := h
  exact h.lt k hk
theorem OwZ.far {T : TypeId} {s B : Nat} {v : Value} {n : Nat} {W W' : World} (h : OwZ T s B v n W) (hb : ∀ k, v.ownBlock = some k → k < W.heap.size → W'.heap[k]? = W.heap[k]?) : OwZ T s B v n W' := by
  obtain ⟨zs, h⟩ := h
  exact ⟨zs, d_far h hb⟩
theorem OwZ.low {T : TypeId} {s B B' : Nat} {v : Value} {n : Nat} {W : World} (h : OwZ T s B v n W) (hb : B' ≤ B) : OwZ T s B' v n W := by
  obtain ⟨zs, h1, h⟩ := h
  rcases h with h | ⟨g, cap, cur, e1, e2, e3⟩
  · exact ⟨zs, h1, Or.inl h⟩
  · exact ⟨zs, h1, Or.inr ⟨g, cap, cur, e1, Nat.le_trans hb e2, e3⟩⟩
theorem OwZ.shape {T : TypeId} {s B : Nat} {v : Value} {n : Nat} {W : World} (h : OwZ T s B v n W) : ∃ a c, v = .slice a n c ∧ (a = none → n = 0 ∧ c = 0) := by
  obtain ⟨zs, _, h⟩ := h
  rcases h with h | ⟨g, cp, _, e, _⟩
  · exact ⟨none, 0, by rw [h.1, h.2], fun _ => ⟨h.2, rfl⟩⟩
  · exact ⟨_, _, e, fun h => by cases h⟩
/-- Blocks of unlike types are unlike. -/
theorem OwZ.ne_row {T T' : TypeId} {s B : Nat} {v : Value} {n : Nat} {W : World} (h : OwZ T s B v n W) {g m : Nat} {F : Nat → Value} (hr : W.rowIs g T' m F) (hT : T ≠ T') {k : Nat} (hk : v.ownBlock = some k) : k ≠ g := by
  obtain ⟨zs, _, h⟩ := h
  rcases h with h | ⟨g', cap, cur, e1, e2, e3, _⟩
  · rw [h.1] at hk; cases hk
  · rw [e1] at hk
    simp [Value.ownBlock] at hk
    subst hk
    intro e
    subst e
    obtain ⟨c2, h2, _⟩ := hr
    rw [e3] at h2
    simp at h2
    exact hT h2.2
theorem OwZ.ne_own {T T' : TypeId} {s s' B B' : Nat} {v v' : Value} {n n' : Nat} {W : World} (h : OwZ T s B v n W) (h' : OwZ T' s' B' v' n' W) (hT : T ≠ T') {k k' : Nat} (hk : v.ownBlock = some k) (hk' : v'.ownBlock = some k') : k ≠ k' := by
  obtain ⟨zs, _, h⟩ := h
  obtain ⟨zs', _, h'⟩ := h'
  rcases h with h | ⟨g, cap, cur, e1, e2, e3, _⟩
  · rw [h.1] at hk; cases hk
  rcases h' with h' | ⟨g', cap', cur', e1', e2', e3', _⟩
  · rw [h'.1] at hk'; cases hk'
  rw [e1] at hk
  rw [e1'] at hk'
  simp [Value.ownBlock] at hk hk'
  subst hk hk'
  intro e
  subst e
  rw [e3] at e3'
  simp at e3'
  exact hT e3'.2
/-- As cells. -/
theorem OwZ.at_ {T : TypeId} {s B : Nat} {v : Value} {n : Nat} {W : World} (h : OwZ T s B v n W) : ∃ a c f, v = .slice a n c ∧ IsAt a (n * s) f W ∧ (∀ b, a = some ⟨b, 0, none⟩ → B ≤ b) ∧ (a = none → n = 0) := by
  obtain ⟨zs, hl, h⟩ := h
  rcases h with h | ⟨g, cap, cur, e1, e2, e3, e4, e5, e6, e7⟩
  · exact ⟨none, 0, fun _ => 0, by rw [h.1, h.2], Or.inl (by rw [h.2]; simp), fun b e => (by cases e), fun _ => h.2⟩
  · have hown : W.ownsRow B T s v n (zs.map (Value.int .i64)) := ⟨hl, Or.inr ⟨g, cap, cur, e1, e2, e3, e4, e5, e6, e7⟩⟩
    refine ⟨_, cap, fun j => zs.getD j 0, e1, Or.inr ⟨g, rfl, fun j hj => ?_⟩, fun b e => (by cases e; exact e2), fun h => (by cases h)⟩
    have hz : zs.length = n * s := by simpa using hl
    have k := hown.cells (g := g) (by rw [e1]; rfl) j (.int .i64 (zs.getD j 0)) (by simp [hz, hj])
    rw [Addr.add_lit, Nat.zero_add] at k
    exact k
/-- A list of one number, or of three. -/
theorem OwZ.made (T : TypeId) (s : Nat) (W : World) (zs : List Int) (hz : zs.length = s) {B : Nat} (hb : B ≤ W.heap.size) : OwZ T s B (.slice (some ⟨W.heap.size, 0, none⟩) 1 1) 1 (W.alloc (.cells (zs.map (Value.int .i64)).toArray T)) :=
  ⟨zs, by simp [hz], Or.inr ⟨_, 1, (zs.map (Value.int .i64)).toArray, rfl, hb, blk_alloc_new _ _, Nat.le_refl _, by decide, by simp [hz], by subst hz; rw [List.take_of_length_le (by simp)]⟩⟩
/-- What lasts while a plan is drawn. -/
structure PM (w : World) (sb : Nat) (rv sv hv : Value) (rn sn hn : Nat) (W : World) : Prop where
  src : Drew sb w W
  sbl : sb < w.heap.size
  res : W.rowIs w.heap.size 26 3 (rowN [.slice none 0 0, .slice none 0 0, .slice none 0 0])
  ro : OwZ 32 3 w.heap.size rv rn W
  ho : OwZ 2 1 w.heap.size hv hn W
  sb2 : ∃ bs, w.heap.size ≤ bs ∧ bs ≤ W.heap.size ∧ OwZ 2 1 bs sv sn W ∧ ∀ k, hv.ownBlock = some k → k < bs
theorem PM.so {w : World} {sb : Nat} {rv sv hv : Value} {rn sn hn : Nat} {W : World} (h : PM w sb rv sv hv rn sn hn W) : OwZ 2 1 w.heap.size sv sn W := by
  obtain ⟨bs, h1, _, h2, _⟩ := h.sb2
  exact h2.low h1
theorem PM.dis {w : World} {sb : Nat} {rv sv hv : Value} {rn sn hn : Nat} {W : World} (h : PM w sb rv sv hv rn sn hn W) : ∀ k, sv.ownBlock = some k → hv.ownBlock ≠ some k := by
  intro k e e2
  obtain ⟨bs, h1, _, h2, h3⟩ := h.sb2
  have := (h2.lt e).1
  have := h3 k e2
  omega
theorem PM.keep {w : World} {sb : Nat} {rv sv hv : Value} {rn sn hn : Nat} {W W' : World} (h : PM w sb rv sv hv rn sn hn W) (hs : Drew sb w W') (hz : W.heap.size ≤ W'.heap.size) (hb : ∀ k, w.heap.size ≤ k → k < W.heap.size → W'.heap[k]? = W.heap[k]?) : PM w sb rv sv hv rn sn hn W' :=
  ⟨hs, h.sbl, h.res.of_block (hb _ (Nat.le_refl _) h.res.lt), h.ro.far (fun k hk hl => hb k (h.ro.lt hk).1 hl), h.ho.far (fun k hk hl => hb k (h.ho.lt hk).1 hl), by
    obtain ⟨bs, h1, h0, h2, h3⟩ := h.sb2
    exact ⟨bs, h1, Nat.le_trans h0 hz, h2.far (fun k hk hl => hb k (h.so.lt hk).1 hl), h3⟩⟩
theorem PM.draw {w : World} {sb : Nat} {rv sv hv : Value} {rn sn hn : Nat} {W W' : World} (h : PM w sb rv sv hv rn sn hn W) (hd : Drew sb W W') : PM w sb rv sv hv rn sn hn W' :=
  h.keep ⟨hd.1, h.src.2.trans hd.2⟩ hd.2.size (fun k h1 h2 => hd.2.2.2.2.2 k h2 (by have := h.sbl; omega))
theorem PM.below {w : World} {sb : Nat} {rv sv hv : Value} {rn sn hn : Nat} {W W' : World} (h : PM w sb rv sv hv rn sn hn W) (hb : Below W.heap.size W W') : PM w sb rv sv hv rn sn hn W' :=
  h.keep ⟨h.src.1.below hb, h.src.2.trans (Chg.of_below hb)⟩ hb.size (fun k _ h2 => hb.block k h2)
/-- A store into a block of the call's own that is none of these. -/
theorem PM.set {w : World} {sb : Nat} {rv sv hv : Value} {rn sn hn : Nat} {W : World} (h : PM w sb rv sv hv rn sn hn W) {g i m : Nat} {F : Nat → Value} (hr : W.rowIs g 26 m F) (hg : w.heap.size < g) (v : Value) : PM w sb rv sv hv rn sn hn (W.setCell ⟨g, i, none⟩ v) := by
  have hk : ∀ k, k ≠ g → (W.setCell ⟨g, i, none⟩ v).heap[k]? = W.heap[k]? := fun k hk => Below.heap_setCell _ _ _ _ hk
  have hsz : (W.setCell ⟨g, i, none⟩ v).heap.size = W.heap.size := by simp
  refine ⟨⟨h.src.1.keep (fun k hk2 => hk k (by have := h.sbl; omega)), h.src.2.1, h.src.2.2.1, h.src.2.2.2.1, by rw [hsz]; exact h.src.2.2.2.2.1, fun k h1 h2 => (hk k (by omega)).trans (h.src.2.2.2.2.2 k h1 h2)⟩, h.sbl, h.res.of_block (hk _ (by omega)), ?_, ?_, ?_⟩
  · exact h.ro.far (fun k e _ => hk k (h.ro.ne_row hr (by decide) e))
  · exact h.ho.far (fun k e _ => hk k (h.ho.ne_row hr (by decide) e))
  · obtain ⟨bs, h1, h0, h2, h3⟩ := h.sb2
    exact ⟨bs, h1, by rw [hsz]; exact h0, h2.far (fun k e _ => hk k (h2.ne_row hr (by decide) e)), h3⟩
/-- The memory that an append changes. -/
theorem grown_src {w : World} {sb : Nat} {W W' : World} {v : Value} (hs : Drew sb w W) (hg : W.grownBy W' v.ownBlock) (hv : ∀ k, v.ownBlock = some k → w.heap.size ≤ k) (hl : sb < w.heap.size) : Drew sb w W' := by
  have hk : ∀ k, k < w.heap.size → W'.heap[k]? = W.heap[k]? := fun k hk => hg.block k (by have := hs.2.size; omega) (fun e => by have := hv k e.symm; omega)
  exact ⟨hs.1.keep (fun k hk2 => hk k (by omega)), hg.os.trans hs.2.1, hg.tape.trans hs.2.2.1, hg.output.trans hs.2.2.2.1, Nat.le_trans hs.2.size hg.size, fun k h1 h2 => (hk k h1).trans (hs.2.2.2.2.2 k h1 h2)⟩
theorem PM.rows {w : World} {sb : Nat} {rv sv hv rv' : Value} {rn sn hn : Nat} {W W' : World} (h : PM w sb rv sv hv rn sn hn W) (hg : W.grownBy W' rv.ownBlock) (ho : OwZ 32 3 w.heap.size rv' (rn + 1) W') : PM w sb rv' sv hv (rn + 1) sn hn W' := by
  refine ⟨grown_src h.src hg (fun k e => (h.ro.lt e).1) h.sbl, h.sbl, h.res.of_block (hg.block _ h.res.lt (fun e => h.ro.ne_row h.res (by decide) e.symm rfl)), ho, ?_, ?_⟩
  · exact h.ho.far (fun k e hl => hg.block k hl (fun e2 => h.ro.ne_own h.ho (by decide) e2.symm e rfl))
  · obtain ⟨bs, h1, h0, h2, h3⟩ := h.sb2
    exact ⟨bs, h1, Nat.le_trans h0 hg.size, h2.far (fun k e hl => hg.block k hl (fun e2 => h.ro.ne_own h2 (by decide) e2.symm e rfl)), h3⟩
theorem PM.sources {w : World} {sb : Nat} {rv sv hv sv' : Value} {rn sn hn bs : Nat} {W W' : World} (h : PM w sb rv sv hv rn sn hn W) (hg : W.grownBy W' sv.ownBlock) (h1 : w.heap.size ≤ bs) (h0 : bs ≤ W.heap.size) (ho : OwZ 2 1 bs sv' (sn + 1) W') (h3 : ∀ k, hv.ownBlock = some k → k < bs) : PM w sb rv sv' hv rn (sn + 1) hn W' := by
  refine ⟨grown_src h.src hg (fun k e => (h.so.lt e).1) h.sbl, h.sbl, h.res.of_block (hg.block _ h.res.lt (fun e => h.so.ne_row h.res (by decide) e.symm rfl)), ?_, ?_, bs, h1, Nat.le_trans h0 hg.size, ho, h3⟩
  · exact h.ro.far (fun k e hl => hg.block k hl (fun e2 => h.ro.ne_own h.so (by decide) e e2.symm rfl))
  · exact h.ho.far (fun k e hl => hg.block k hl (fun e2 => h.dis k e2.symm e))
/-- Other sources, made anew. -/
theorem PM.anew {w : World} {sb : Nat} {rv sv hv sv' : Value} {rn sn sn' hn bs : Nat} {W : World} (h : PM w sb rv sv hv rn sn hn W) (h1 : w.heap.size ≤ bs) (h0 : bs ≤ W.heap.size) (ho : OwZ 2 1 bs sv' sn' W) (h3 : ∀ k, hv.ownBlock = some k → k < bs) : PM w sb rv sv' hv rn sn' hn W := ⟨h.src, h.sbl, h.res, h.ro, h.ho, bs, h1, h0, ho, h3⟩
/-- The plan's own block stays. -/
theorem row_grown {W W' : World} {T : TypeId} {s B : Nat} {v : Value} {n : Nat} {g m : Nat} {F : Nat → Value} (hr : W.rowIs g 26 m F) (ho : OwZ T s B v n W) (hT : T ≠ 26) (hg : W.grownBy W' v.ownBlock) : W'.rowIs g 26 m F :=
  hr.of_block (hg.block _ hr.lt (fun e => ho.ne_row hr hT e.symm rfl))
/-- A plan that is being drawn: its own block beside. -/
def PDx (w : World) (sb rn sn hn : Nat) (W : World) : Prop := ∃ rv sv hv, PM w sb rv sv hv rn sn hn W ∧ W.rowIs (w.heap.size + 1) 26 3 (rowN [rv, sv, hv])
theorem PDx.draw {w : World} {sb rn sn hn : Nat} {W W' : World} (h : PDx w sb rn sn hn W) (hd : Drew sb W W') : PDx w sb rn sn hn W' := by
  obtain ⟨rv, sv, hv, h1, h2⟩ := h
  exact ⟨rv, sv, hv, h1.draw hd, row_chg h2 (by have := h1.sbl; omega) hd.2⟩
theorem PDx.src {w : World} {sb rn sn hn : Nat} {W : World} (h : PDx w sb rn sn hn W) : Src sb W := by
  obtain ⟨rv, sv, hv, h1, h2⟩ := h
  exact h1.src.1
theorem OwZ.set0 {s B : Nat} {a : Option Addr} {n c : Nat} {W : World} (h : OwZ 2 s B (.slice a n c) n W) (hn : 1 ≤ n) (hs : s = 1) {b : Nat} (hb : a = some ⟨b, 0, none⟩) (x : Int) : OwZ 2 s B (.slice a n c) n (W.setCell ⟨b, 0, none⟩ (.int .i64 x)) := by
  subst hs
  obtain ⟨zs, hl, h⟩ := h
  rcases h with h | ⟨g, cap, cur, e1, e2, e3, e4, e5, e6, e7⟩
  · exact absurd h.2 (by omega)
  · injection e1 with e1a e1b e1c
    rw [hb] at e1a
    cases e1a
    cases e1c
    have hz : zs.length = n := by simpa using hl
    refine ⟨zs.set 0 x, by simp [hz], Or.inr ⟨b, c, cur.setIfInBounds 0 (.int .i64 x), by rw [hb], e2, ?_, e4, e5, by simpa using e6, ?_⟩⟩
    · simp only [World.setCell]
      simp [e3, Array.getElem?_modify]
    · rw [Array.toList_setIfInBounds, List.take_set, e7]
      simp
theorem OwZ.head {s B : Nat} {a : Option Addr} {n c : Nat} {T : TypeId} {W : World} (h : OwZ T s B (.slice a n c) n W) (hn : 1 ≤ n * s) {b : Nat} (hb : a = some ⟨b, 0, none⟩) : (∃ u, W.cell? ⟨b, 0, none⟩ = some u) ∧ W.frozen? ⟨b, 0, none⟩ = false := by
  obtain ⟨zs, hl, h⟩ := h
  rcases h with h | ⟨g, cap, cur, e1, e2, e3, e4, e5, e6, e7⟩
  · rw [h.2] at hn; simp at hn
  · injection e1 with e1a e1b e1c
    rw [hb] at e1a
    cases e1a
    have hcs : 0 < cur.size := by rw [e6]; exact Nat.lt_of_lt_of_le hn (Nat.mul_le_mul_right _ e4)
    exact ⟨⟨cur[0], by simp [World.cell?, e3, hcs]⟩, by simp [World.frozen?, e3]⟩
/-- The first home is written anew. -/
theorem PM.home0 {w : World} {sb : Nat} {rv sv : Value} {ha : Option Addr} {hc : Nat} {rn sn hn : Nat} {W : World} (h : PM w sb rv sv (.slice ha hn hc) rn sn hn W) (hn1 : 1 ≤ hn) {b : Nat} (hb : ha = some ⟨b, 0, none⟩) (x : Int) : PM w sb rv sv (.slice ha hn hc) rn sn hn (W.setCell ⟨b, 0, none⟩ (.int .i64 x)) := by
  have hob : (Value.slice ha hn hc).ownBlock = some b := by rw [hb]; rfl
  have hbl := h.ho.lt hob
  have hk : ∀ k, k ≠ b → (W.setCell ⟨b, 0, none⟩ (.int .i64 x)).heap[k]? = W.heap[k]? := fun k hk => Below.heap_setCell _ _ _ _ hk
  have hsz : (W.setCell ⟨b, 0, none⟩ (.int .i64 x)).heap.size = W.heap.size := by simp
  refine ⟨⟨h.src.1.keep (fun k hk2 => hk k (by have := h.sbl; omega)), h.src.2.1, h.src.2.2.1, h.src.2.2.2.1, by rw [hsz]; exact h.src.2.2.2.2.1, fun k h1 h2 => (hk k (by omega)).trans (h.src.2.2.2.2.2 k h1 h2)⟩, h.sbl, h.res.of_block (hk _ (fun e => h.ho.ne_row h.res (by decide) hob e.symm)), ?_, h.ho.set0 hn1 rfl hb x, ?_⟩
  · exact h.ro.far (fun k e _ => hk k (fun e2 => h.ro.ne_own h.ho (by decide) e hob e2))
  · obtain ⟨bs, h1, h0, h2, h3⟩ := h.sb2
    exact ⟨bs, h1, by rw [hsz]; exact h0, h2.far (fun k e _ => hk k (fun e2 => h.dis k e (by rw [hob, e2]))), h3⟩
/-- What is handed back. -/
theorem PM.told {w : World} {sb : Nat} {rv sv hv : Value} {rn sn hn : Nat} {W : World} (h : PM w sb rv sv hv rn sn hn W) (hrn : rn ≤ 1000) (hsn : sn ≤ 1000) (hhn : hn ≤ 1000) {V : World} (hV : V = ((W.setCell ⟨w.heap.size, 0, none⟩ rv).setCell ⟨w.heap.size, 1, none⟩ sv).setCell ⟨w.heap.size, 2, none⟩ hv) :
    (∃ (n : Pl.Plan) (la : Option Addr) (lk : Nat) (fa : Option Addr) (fk : Nat) (wa : Option Addr) (wk : Nat), Ending.returned (.agg #[rv, sv, hv]) = .returned (plV n la lk fa fk wa wk) ∧ PlAt n la fa wa V ∧ PlSmall n ∧ PlOff sb la fa wa ∧ (fa = none → n.sn = 0) ∧ n.rn ≤ 1000 ∧ n.hn ≤ 1000) ∧ Drew sb w V := by
  have hk : ∀ k, k ≠ w.heap.size → V.heap[k]? = W.heap[k]? := fun k hk => by
    rw [hV, Below.heap_setCell _ _ _ _ hk, Below.heap_setCell _ _ _ _ hk, Below.heap_setCell _ _ _ _ hk]
  have hsz : V.heap.size = W.heap.size := by rw [hV]; simp
  have ro := h.ro.far (W' := V) (fun k e _ => hk k (h.ro.ne_row h.res (by decide) e))
  have so := h.so.far (W' := V) (fun k e _ => hk k (h.so.ne_row h.res (by decide) e))
  have ho := h.ho.far (W' := V) (fun k e _ => hk k (h.ho.ne_row h.res (by decide) e))
  obtain ⟨la, lk, R, e1, a1, b1, _⟩ := ro.at_
  obtain ⟨fa, fk, S, e2, a2, b2, n2⟩ := so.at_
  obtain ⟨wa, wk, H, e3, a3, b3, _⟩ := ho.at_
  have hl := h.sbl
  refine ⟨⟨⟨rn, R, sn, S, hn, H⟩, la, lk, fa, fk, wa, wk, by rw [e1, e2, e3], ⟨a1, by simpa using a2, by simpa using a3⟩, ⟨by show rn ≤ _; omega, by show sn ≤ _; omega, by show hn ≤ _; omega⟩, ⟨fun b e => by have := b1 b e; omega, fun b e => by have := b2 b e; omega, fun b e => by have := b3 b e; omega⟩, n2, hrn, hhn⟩, ?_⟩
  exact ⟨h.src.1.keep (fun k hk2 => hk k (by omega)), by rw [hV]; exact h.src.2.1, by rw [hV]; exact h.src.2.2.1, by rw [hV]; exact h.src.2.2.2.1, by rw [hsz]; exact h.src.2.2.2.2.1, fun k h1 h2 => (hk k (by omega)).trans (h.src.2.2.2.2.2 k h1 h2)⟩
end Go.Proofs.Ytipmjobhegpdgaa
