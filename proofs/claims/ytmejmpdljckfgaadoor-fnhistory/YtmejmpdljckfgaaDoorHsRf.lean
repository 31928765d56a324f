/-
  A range over a function whose iterator keeps a struct of its own in memory and whose body never leaves.
-/
import Derived.Test.YtmejmpdljckfgaaDoorNtMem
import Derived.RangeFuncNested
import Derived.RangeFuncBound
import Derived.RangeFuncCalls
import Derived.RangeFuncLeaves
import Derived.Shelf.Abstract
import Derived.Shelf.RegionOpen
import Derived.WalkKit
import Derived.OwnWalkIn
import Derived.TacticsInMore
import Derived.LoopNIn
import Derived.LoopIn
import Derived.RegionIn
namespace Go.Proofs.YtmejmpdljckfgaaDoor
open Go.RowKit Go.Shelf Go.Deep

/-- What an iterator may do to the world: new blocks, and its own blocks of type T from B on. -/
structure ItMv (T : TypeId) (B : Nat) (W W' : World) : Prop where
  os : W'.os = W.os
  tape : W'.tape = W.tape
  output : W'.output = W.output
  size : W.heap.size ≤ W'.heap.size
  block : ∀ k, k < W.heap.size → (k < B ∨ ¬ ∃ c fr, W.heap[k]? = some (.cells c T fr)) → W'.heap[k]? = W.heap[k]?
theorem ItMv.below {T : TypeId} {B : Nat} {W W' : World} (h : Below W.heap.size W W') : ItMv T B W W' := ⟨h.os, h.tape, h.output, h.size, fun k hk _ => h.block k hk⟩
theorem ItMv.set {T : TypeId} {B g n i : Nat} {W : World} {F : Nat → Value} (hr : W.rowIs g T n F) (hg : B ≤ g) (v : Value) : ItMv T B W (W.setCell ⟨g, i, none⟩ v) := by
  refine ⟨rfl, rfl, rfl, by simp, fun k hk h => Below.heap_setCell _ _ _ _ (fun e => ?_)⟩
  obtain ⟨c, h1, _⟩ := hr
  have e' : k = g := e
  subst e'
  rcases h with h | h
  · omega
  · exact h ⟨c, (0, 0), h1⟩
/-- What the loops' book-keeping and an iterator do. -/
structure LpMv (T : TypeId) (B : Nat) (W W' : World) : Prop where
  os : W'.os = W.os
  tape : W'.tape = W.tape
  output : W'.output = W.output
  size : W.heap.size ≤ W'.heap.size
  block : ∀ k c S fr, k < W.heap.size → (k < B ∨ S ≠ T) → W.heap[k]? = some (.cells c S fr) → W'.heap[k]? = some (.cells c S fr)
  low : ∀ k, k < B → k < W.heap.size → W'.heap[k]? = W.heap[k]?
theorem ItMv.lp {T : TypeId} {B B' : Nat} {W W' : World} (h : ItMv T B W W') (hB : B' ≤ B) : LpMv T B' W W' := by
  refine ⟨h.os, h.tape, h.output, h.size, fun k c S fr hk hS hc => ?_, fun k hk hl => h.block k hl (Or.inl (by omega))⟩
  rw [h.block k hk, hc]
  rcases hS with hS | hS
  · exact Or.inl (by omega)
  · right
    rintro ⟨c', fr', e⟩
    rw [hc] at e
    cases e
    exact hS rfl
theorem LpMv.alloc {T : TypeId} {B : Nat} (W : World) (o : Obj) : LpMv T B W (W.alloc o) :=
  ⟨rfl, rfl, rfl, by simp, fun k c S fr hk _ hc => (Below.heap_alloc _ _ _ hk).trans hc, fun k _ hk => Below.heap_alloc _ _ _ hk⟩
theorem LpMv.put {T : TypeId} {B l : Nat} {W : World} {o : Obj} (o' : Obj) (hl : W.heap[l]? = some o) (ho : o.isCells = false) (hB : B ≤ l) : LpMv T B W (W.putObj l o') := by
  refine ⟨rfl, rfl, rfl, by simp, fun k c S fr hk _ hc => (World.putObj_heap_other (fun e => ?_)).trans hc, fun k hk _ => World.putObj_heap_other (by omega)⟩
  subst e
  rw [hl] at hc
  cases hc
  cases ho
theorem LpMv.row {T S : TypeId} {B g n : Nat} {W W' : World} {F : Nat → Value} (h : LpMv T B W W') (hr : W.rowIs g S n F) (hg : g < B ∨ S ≠ T) : W'.rowIs g S n F := by
  obtain ⟨c, h1, h2⟩ := hr
  exact ⟨c, h.block _ _ _ _ (Array.getElem?_eq_some_iff.1 h1).1 hg h1, h2⟩
theorem LpMv.bel {T : TypeId} {B B' : Nat} {w W W' : World} (h : LpMv T B W W') (hb : Below B' w W) (hB : B' ≤ B) (hw : B' ≤ w.heap.size) : Below B' w W' :=
  ⟨h.os.trans hb.os, h.tape.trans hb.tape, h.output.trans hb.output, Nat.le_trans hb.size h.size, fun k hk => (h.low k (by omega) (by have := hb.size; omega)).trans (hb.block k hk)⟩
def rfPost {α : Type} (B : Nat) (Kp : World → World → Prop) (I : List α → World → Prop) (xs : List α) (W : World) : Exit → Act → World → Prop
  | .normal, _, W' => KeepsFrom B W W' ∧ Kp W W' ∧ I xs W'
  | .ret, _, _ => False
  | .exit _, _, _ => False
  | .goto _, _, _ => False
  | .panic _, _, _ => False
  | .outgrown, _, _ => False
section
variable {P : Program} {n : Nat} {T : TypeId}
theorem rf_law {α : Type} {g : Operand} {ps : Array Tmp} {assign body : Code} {Q : Exit → Act → World → Prop} {a : Act} {w : World}
    (h1 : 1 ≤ n) {gf : Nat} {lb : Array Value} (hg : a.eval g = .func (.func gf) #[] lb) (eg : ∀ args w, (callFunc gf args).run P w = .ok (.enter gf args) w)
    {encs : α → Array Value} {Kp : World → World → Prop} {S : List α → Prop} {Ok : List α → α → Prop}
    (hseq : ∀ (l : Nat) (J : List α → World → Prop) (W : World), Below w.heap.size w W → (∀ s A B, J s A → ItMv T W.heap.size A B → J s B) →
      (∀ pre x A, J pre A → Ok pre x → YieldAt Fence.wide (n - 1 - 1) P l (encs x) A fun e B => e = .returned (.bool true) ∧ J (pre ++ [x]) B ∧ Kp A B) → J [] W →
      CallsIn Fence.wide (n - 1) P gf (#[.func (.yield l) #[] #[]] ++ lb) W fun e B => (∃ v, e = .returned v) ∧ ∃ xs, S xs ∧ J xs B)
    (hKt : ∀ {A B C : World}, Kp A B → Kp B C → Kp A C) (hKb : ∀ (W : World) (l : Nat) (o o' : Obj), w.heap.size ≤ l → W.heap[l]? = some o → o.isCells = false → Kp W (W.putObj l o'))
    (hps : ∀ x, (encs x).size = ps.size)
    (I : List α → World → Prop) (hI : ∀ s A B, I s A → LpMv T w.heap.size A B → I s B) (h0 : I [] w)
    (Ax : α → Act → World → Prop) (hAx : ∀ x a' A B, Ax x a' A → LpMv T w.heap.size A B → Ax x a' B)
    (hassign : ∀ (l : Nat) (pre : List α) (x : α) (W : World) (K : Act → World → Prop), I pre W → (∀ a' W', KeepsFrom w.heap.size W W' → Kp W W' → I pre W' → Ax x a' W' → K a' W') →
      assign.wpIn (Fence.wide.inRound l) (n - 1 - 1) P (Exit.then K (fun _ _ _ => False)) { tmps := (ps.zip (encs x)).foldl (fun t (p, v) => t.setIfInBounds p v) a.tmps, defers := [] } W)
    (hbody : ∀ (l : Nat) (pre : List α) (x : α) (a' : Act) (W : World), w.heap.size ≤ l → (∃ r, W.heap[l]? = some (.loop r)) → I pre W → Ax x a' W → Ok pre x → body.wpIn (Fence.wide.inRound l) (n - 1 - 1) P (rfPost w.heap.size Kp I (pre ++ [x]) W) a' W)
    (hdone : ∀ (D : Nat) (xs : List α) (W : World), w.heap.size ≤ D → S xs → I xs W → W.heap[D]? = some (.deferred (some [])) → Q .normal { a with defers := { target := .collected D, args := #[] } :: a.defers } W) :
    (Code.rangeFunc g ps assign body).wpIn Fence.wide n P Q a w := by
  refine wpIn_rangeFunc (fun fn hfn => ?_)
  let rc : LoopState → Option Code → Loop := fun st pe => { state := st, pending := pe, fn := fn, tmps := a.tmps, params := ps, assign := assign, body := body, defers := w.heap.size }
  obtain ⟨W1, hW1⟩ : ∃ W1, (w.alloc (.deferred (some []))).alloc (.loop (rc .ready none)) = W1 := ⟨_, rfl⟩
  have hs1 : W1.heap.size = w.heap.size + 2 := by rw [← hW1]; simp
  have hm1 : LpMv T w.heap.size w (w.alloc (.deferred (some []))) := LpMv.alloc _ _
  have hm2 : LpMv T w.heap.size (w.alloc (.deferred (some []))) W1 := by rw [← hW1]; exact LpMv.alloc _ _
  have hL1 : W1.heap[w.heap.size + 1]? = some (.loop (rc .ready none)) := by
    rw [← hW1]
    have := World.alloc_heap_new (w.alloc (.deferred (some []))) (.loop (rc .ready none))
    rwa [World.size_alloc] at this
  have hD1 : W1.heap[w.heap.size]? = some (.deferred (some [])) := by
    rw [← hW1]
    exact (Below.heap_alloc _ _ _ (by simp)).trans (World.alloc_heap_new w _)
  have hb1 : Below w.heap.size w W1 := by
    rw [← hW1]
    exact ((Below.refl _ w).alloc (Nat.le_refl _) _).alloc (by simp) _
  -- what stands between two rounds
  let J : List α → World → Prop := fun pre W => I pre W ∧ W.heap[w.heap.size + 1]? = some (.loop (rc .ready none)) ∧ W.heap[w.heap.size]? = some (.deferred (some []))
  have hJ1 : J [] W1 := ⟨hI _ _ _ (hI _ _ _ h0 hm1) hm2, hL1, hD1⟩
  have hJm : ∀ s A B, J s A → ItMv T W1.heap.size A B → J s B := by
    rintro s A B ⟨i1, i2, i3⟩ hm
    have l2 := (Array.getElem?_eq_some_iff.1 i2).1
    have l3 := (Array.getElem?_eq_some_iff.1 i3).1
    exact ⟨hI _ _ _ i1 (hm.lp (by omega)), (hm.block _ l2 (Or.inl (by omega))).trans i2, (hm.block _ l3 (Or.inl (by omega))).trans i3⟩
  refine ⟨w.heap.size + 1, [{ target := .collected w.heap.size, args := #[] }], W1, { target := .fn (.func gf) lb, args := #[.func (.yield (w.heap.size + 1)) #[] #[]] }, W1, gf,
    #[.func (.yield (w.heap.size + 1)) #[] #[]] ++ lb, W1, ?_, ?_, ?_, ?_, fun _ => h1, ?_⟩
  · rw [← hW1]; exact run_enterLoop_outer _ _ _ _ _
  · simp only [resolve, hg]
    simp [go_sem]
  · intro f' _; trivial
  · simp [invoke, go_sem, eg]
  refine (hseq (w.heap.size + 1) J W1 hb1 hJm ?_ hJ1).mono ?_
  · rintro pre x A ⟨i1, i2, i3⟩ hok
    have hy := run_yield (P := P) (args := encs x) i2 (hps x)
    refine ⟨fn, _, assign, body, hy, roundIn_of_wpIn hfn (hassign _ pre x A _ i1 ?_)⟩
    intro a' A2 k1 k2 j1 hax
    have j2 := k1.same _ _ (by omega) i2 rfl
    have j3 := k1.same _ _ (Nat.le_refl _) i3 rfl
    have hlt : w.heap.size + 1 < A2.heap.size := (Array.getElem?_eq_some_iff.1 j2).1
    refine ⟨_, run_beginRound j2 rfl, ?_⟩
    obtain ⟨A3, hA3⟩ : ∃ A3, A3 = A2.putObj (w.heap.size + 1) (.loop (rc .busy none)) := ⟨_, rfl⟩
    have m3 : LpMv T w.heap.size A2 A3 := by rw [hA3]; exact LpMv.put _ j2 rfl (by omega)
    have b2 : A3.heap[w.heap.size + 1]? = some (.loop (rc .busy none)) := by rw [hA3]; exact World.putObj_heap_same hlt
    have b3 : A3.heap[w.heap.size]? = some (.deferred (some [])) := by rw [hA3]; exact (World.putObj_heap_other (by omega)).trans j3
    have kb : Kp A2 A3 := by rw [hA3]; exact hKb _ _ _ _ (by omega) j2 rfl
    show body.wpIn _ _ _ _ _ (A2.putObj (w.heap.size + 1) (.loop (rc .busy none)))
    rw [← hA3]
    refine wpIn_mono (hbody _ pre x a' A3 (by omega) ⟨_, b2⟩ (hI _ _ _ j1 m3) (hAx _ _ _ _ hax m3) hok) ?_
    rintro e a4 A4 hp
    cases e with
    | normal =>
      obtain ⟨q1, q2, q3⟩ := hp
      have c2 := q1.same _ _ (by omega) b2 rfl
      have c3 := q1.same _ _ (Nat.le_refl _) b3 rfl
      have hlt4 : w.heap.size + 1 < A4.heap.size := (Array.getElem?_eq_some_iff.1 c2).1
      have hend := run_endRound (P := P) none c2
      refine ⟨_, _, hend, rfl, ⟨hI _ _ _ q3 (LpMv.put _ c2 rfl (by omega)), World.putObj_heap_same hlt4, (World.putObj_heap_other (by omega)).trans c3⟩, ?_⟩
      exact hKt k2 (hKt kb (hKt q2 (hKb _ _ _ _ (by omega) c2 rfl)))
    | ret => exact hp.elim
    | exit _ => exact hp.elim
    | goto _ => exact hp.elim
    | panic _ => exact hp.elim
    | outgrown => exact hp.elim
  · rintro e A ⟨⟨v, rfl⟩, xs, hS, i1, i2, i3⟩
    have hend := run_endLoop (P := P) i2 (by show LoopState.ready ≠ LoopState.busy; intro h; cases h)
    refine ⟨none, _, hend, ?_⟩
    exact hdone _ xs _ (Nat.le_refl _) hS (hI _ _ _ i1 (LpMv.put _ i2 rfl (by omega))) ((World.putObj_heap_other (by omega)).trans i3)
end
end Go.Proofs.YtmejmpdljckfgaaDoor
