/-
  Joined: NtM1, NtMx, NtMq, NtMr, NtMo.
-/
import Derived.Test.YtkaokfmaecdkiaaGreatDoorNtCgA
import Derived.Test.YtkaokfmaecdkiaaGreatDoorNtSp
import Derived.Test.YtkaokfmaecdkiaaGreatDoorNtPd
namespace Go.Proofs.YtkaokfmaecdkiaaGreatDoor
open Go Go.RowKit Go.Deep

namespace Nt
/-- The place of a node among the fixed ones, or -1. -/
def FxAt (n : Net) (v : Nat) (z : Int) : Prop := (fixed n v = false ∧ z = -1) ∨ ∃ j, j < n.fn ∧ fx n j = v ∧ z = (j : Int)
theorem FxAt.neg {n : Net} {v : Nat} {z : Int} (h : FxAt n v z) : z < 0 ↔ fixed n v = false := by
  rcases h with ⟨h1, rfl⟩ | ⟨j, h1, h2, rfl⟩
  · simp [h1]
  · have : fixed n v = true := (fixed_iff n.fn).2 ⟨j, h1, h2⟩
    rw [this]
    constructor
    · intro h; omega
    · intro h; cases h
/-- The head of a fixed node by its place. -/
theorem kh_place {n : Net} (h : Right n) {v j : Nat} (hj : j < n.fn) (hv : fx n j = v) : kh n n.fn v = (n.F (j * 2 + 1), 1) := by
  have up : ∀ k, j < k → k ≤ n.fn → kh n k v = (n.F (j * 2 + 1), 1) := by
    intro k
    induction k with
    | zero => intro a; omega
    | succ k ih =>
      intro a b
      rw [kh]
      by_cases e : k = j
      · subst e; rw [← hv, updF_same]
      · have hne : v ≠ fx n k := by
          intro e2
          have f1 := (h.fx (i := j) hj).1
          have f2 := (h.fx (i := k) (by omega)).1
          have mono : ∀ d, j + d < n.fn → n.F (j * 2) + d ≤ n.F ((j + d) * 2) := by
            intro d
            induction d with
            | zero => intro _; simp
            | succ d ihd =>
              intro hd
              have h1 := ihd (by omega)
              have h2 := (h.f (j + (d + 1)) hd).2.2 (by omega)
              rw [show j + (d + 1) - 1 = j + d by omega] at h2
              omega
          have := mono (k - j) (by omega)
          rw [show j + (k - j) = k by omega] at this
          omega
        rw [updF_ne hne]
        exact ih (by omega) (by omega)
  exact up n.fn hj (Nat.le_refl _)
end Nt
set_option maxRecDepth 100000 in
set_option maxHeartbeats 2000000 in
theorem sfixed_any (n : Nt.Net) (la : Option Addr) (lk : Nat) (fa : Option Addr) (fk : Nat) (wa : Option Addr) (wk : Nat) (v : Nat) (w : World) (h : NtAt n la fa wa w) (hr : Nt.Right n) :
    Calls Tryz.prog 23 #[ntV n la lk fa fk wa wk, .int .i64 (v : Int)] w fun e w' => (∃ z, e = .returned (.int .i64 z) ∧ Nt.FxAt n v z) ∧ Below w.heap.size w w' := by
  obtain ⟨W, hW⟩ : ∃ W, W = w.alloc (.cells #[.int .i64 n.nodes, .slice la n.ln lk, .slice fa n.fn fk, .slice wa n.wn wk] 27) := ⟨_, rfl⟩
  have S0 : Hid (NtS 27 n la lk fa fk wa wk w W) := by rw [hW]; exact NtS.new _ h
  have HW := Lib.hid hW
  have HR := Lib.hid hr
  have hfn := hr.fn
  clear h hr hW
  go_enter Tryz.func23, Tryz.ntmps23
  go_wp2_with fail
  rw [← HW.out]
  go_loopw [5] (fun iv wr => ∃ (i : Nat), i ≤ n.fn ∧ iv = .int .i64 i ∧ wr = W ∧ Hid (∀ j, j < i → Nt.fx n j ≠ v)) (fun iv _ => n.fn - (intOf iv).toNat)
  case atStart => exact ⟨0, Nat.zero_le _, rfl, rfl, fun j hj => absurd hj (Nat.not_lt_zero _)⟩
  case round =>
    obtain ⟨i, hi, rfl, rfl, HP⟩ := hrel
    obtain ⟨⟨r0, r1, r2, r3⟩, _⟩ := rowN4 S0.out.row
    by_cases hlt : i < n.fn
    case neg =>
      obtain rfl : i = n.fn := by omega
      have HX : Hid (Nt.FxAt n v (-1)) := Or.inl ⟨by
        cases hf : Nt.fixed n v with
        | false => rfl
        | true =>
          obtain ⟨j, h1, h2⟩ := (Nt.fixed_iff n.fn).1 hf
          exact absurd h2 (HP.out j h1), rfl⟩
      go_wp2_with fail
      go_ret
      exact ⟨⟨_, rfl, HX.out⟩, S0.out.old⟩
    have hltz : (i : Int) < (n.fn : Int) := by omega
    obtain ⟨b, e, c0, _⟩ := S0.out.at_.f.at2 hlt
    subst e
    have ef := (HR.out.fx hlt).1
    rw [ef] at c0
    by_cases hq : Nt.fx n i = v
    · have HX : Hid (Nt.FxAt n v (i : Int)) := Or.inr ⟨i, hlt, hq, rfl⟩
      have hq2 : ((Nt.fx n i : Int) == (v : Int)) = true := by rw [hq]; simp
      clear hq ef
      go_wp2_with fail
      go_ret
      exact ⟨⟨_, rfl, HX.out⟩, S0.out.old⟩
    · have HQ := Lib.hid hq
      have hq2 : ((Nt.fx n i : Int) == (v : Int)) = false := by simp; omega
      clear hq ef
      go_wp2_with fail
      go_roundw
      case rel => exact ⟨i + 1, by omega, by go_num, trivial, fun j hj => by
        by_cases e : j = i
        · subst e; exact HQ.out
        · exact HP.out j (by omega)⟩
      case measure => simp [intOf]; omega
end Go.Proofs.YtkaokfmaecdkiaaGreatDoor
namespace Go.Proofs.YtkaokfmaecdkiaaGreatDoor
open Go Go.RowKit Go.Deep

/-- What else may have changed: the reckoning's fault, and blocks from hi on. -/
structure Fr2 (gc hi : Nat) (w w' : World) : Prop where
  os : w'.os = w.os
  tape : w'.tape = w.tape
  output : w'.output = w.output
  size : w.heap.size ≤ w'.heap.size
  block : ∀ k, k < hi → k ≠ gc → w'.heap[k]? = w.heap[k]?
theorem Fr2.refl (gc hi : Nat) (w : World) : Fr2 gc hi w w := ⟨rfl, rfl, rfl, Nat.le_refl _, fun _ _ _ => rfl⟩
theorem Fr2.trans {gc hi : Nat} {a b c : World} (h : Fr2 gc hi a b) (k : Fr2 gc hi b c) : Fr2 gc hi a c := ⟨k.os.trans h.os, k.tape.trans h.tape, k.output.trans h.output, Nat.le_trans h.size k.size, fun j h1 h2 => (k.block j h1 h2).trans (h.block j h1 h2)⟩
theorem Fr2.of_below {gc hi : Nat} {w w' : World} (h : Below w.heap.size w w') (hh : hi ≤ w.heap.size) : Fr2 gc hi w w' := ⟨h.os, h.tape, h.output, h.size, fun k h1 _ => h.block k (by omega)⟩
theorem Fr2.of_only {gc hi : Nat} {w w' : World} (h : Only gc w w') (hh : hi ≤ w.heap.size) : Fr2 gc hi w w' := ⟨h.os, h.tape, h.output, h.size, fun k h1 h2 => h.block k (by omega) h2⟩
theorem Fr2.put {gc hi : Nat} {w W : World} (h : Fr2 gc hi w W) {p : Addr} (hp : hi ≤ p.block) (v : Value) : Fr2 gc hi w (W.setCell p v) := ⟨h.os, h.tape, h.output, by simpa using h.size, fun k h1 h2 => (Below.heap_setCell _ _ _ _ (by omega)).trans (h.block k h1 h2)⟩
/-- Rows of fractions in memory. -/
structure Mt (hi gr : Nat) (g c : Nat → Nat) (m : Nat) (M : El.Mx) (W : World) : Prop where
  list : ∀ r, r < m → W.cell? ⟨gr, r, none⟩ = some (.slice (some ⟨g r, 0, none⟩) (m + 1) (c r))
  rows : ∀ r, r < m → IsBlk 35 (g r) ((m + 1) * 2) (Nt.cells2 (M r)) W
  inj : ∀ r s, r < m → s < m → g r = g s → r = s
  ne : ∀ r, r < m → g r ≠ gr
  lo : ∀ r, r < m → hi ≤ g r
  lg : hi ≤ gr
def upd2 (M : El.Mx) (r j : Nat) (x : Int × Int) : El.Mx := fun a b => if a = r ∧ b = j then x else M a b
section
variable {hi gr gc : Nat} {g c : Nat → Nat} {m : Nat} {M : El.Mx} {W W' : World}
theorem Mt.keep (h : Mt hi gr g c m M W) (hb : ∀ k, hi ≤ k → k < W.heap.size → W'.heap[k]? = W.heap[k]?) : Mt hi gr g c m M W' :=
  ⟨fun r hr => (World.cell?_of_block (a := ⟨gr, r, none⟩) (hb gr h.lg (World.block_lt_of_cell? _ _ (h.list r hr)))).trans (h.list r hr), fun r hr => (h.rows r hr).block (hb _ (h.lo r hr) (h.rows r hr).lt), h.inj, h.ne, h.lo, h.lg⟩
theorem Mt.below (h : Mt hi gr g c m M W) (hb : Below W.heap.size W W') : Mt hi gr g c m M W' := h.keep (fun k _ hk => hb.block k hk)
theorem Mt.only (h : Mt hi gr g c m M W) (hb : Only gc W W') (hg : gc < hi) : Mt hi gr g c m M W' := h.keep (fun k h1 h2 => hb.block k h2 (by omega))
theorem Mt.cell0 (h : Mt hi gr g c m M W) {r j : Nat} (hr : r < m) (hj : j ≤ m) : W.cell? ⟨g r, j * 2, none⟩ = some (.int .i64 (M r j).1) ∧ W.cell? ⟨g r, j * 2 + 1, none⟩ = some (.int .i64 (M r j).2) := by
  have a := (h.rows r hr).cell (i := j * 2) (by omega)
  have b := (h.rows r hr).cell (i := j * 2 + 1) (by omega)
  rw [Nt.cells2_0] at a
  rw [Nt.cells2_1] at b
  exact ⟨a, b⟩
theorem Mt.put (h : Mt hi gr g c m M W) {r j : Nat} (hr : r < m) (x : Int × Int) : Mt hi gr g c m (upd2 M r j x) ((W.setCell ⟨g r, j * 2, none⟩ (.int .i64 x.1)).setCell ⟨g r, j * 2 + 1, none⟩ (.int .i64 x.2)) := by
  have hk : ∀ k, k ≠ g r → ((W.setCell ⟨g r, j * 2, none⟩ (.int .i64 x.1)).setCell ⟨g r, j * 2 + 1, none⟩ (.int .i64 x.2)).heap[k]? = W.heap[k]? := fun k e => (Below.heap_setCell _ ⟨g r, j * 2 + 1, none⟩ _ _ e).trans (Below.heap_setCell _ ⟨g r, j * 2, none⟩ _ _ e)
  refine ⟨fun s hs => (World.cell?_of_block (a := ⟨gr, s, none⟩) (hk gr (Ne.symm (h.ne r hr)))).trans (h.list s hs), fun s hs => ?_, h.inj, h.ne, h.lo, h.lg⟩
  by_cases e : s = r
  · subst e
    have h1 := (h.rows s hs).set2 j x
    have e2 : Nt.updF (M s) j x = upd2 M s j x s := by
      funext b
      unfold Nt.updF upd2
      by_cases e : b = j
      · rw [if_pos e, if_pos ⟨rfl, e⟩]
      · rw [if_neg e, if_neg (fun k => e k.2)]
    rw [e2] at h1
    exact h1
  · have e2 : upd2 M r j x s = M s := by
      funext b
      unfold upd2
      rw [if_neg (fun k => e k.1)]
    rw [e2]
    exact (h.rows s hs).block (hk _ (fun k => e (h.inj s r hs hr k)))
end
/-- The rows, the fault, and what else may have changed. -/
structure Es (hi gc gr : Nat) (g c : Nat → Nat) (m : Nat) (M : El.Mx) (z : Int) (w W : World) : Prop where
  mt : Mt hi gr g c m M W
  rc : W.rowIs gc 59 1 (rowN [.int .i64 z])
  fr : Fr2 gc hi w W
  gl : gc < hi
  hz : hi ≤ w.heap.size
section
variable {hi gr gc : Nat} {g c : Nat → Nat} {m : Nat} {M : El.Mx} {z : Int} {w W W' : World}
theorem Es.hz2 (h : Es hi gc gr g c m M z w W) : hi ≤ W.heap.size := Nat.le_trans h.hz h.fr.size
theorem Es.below (h : Es hi gc gr g c m M z w W) (hb : Below W.heap.size W W') : Es hi gc gr g c m M z w W' :=
  ⟨h.mt.below hb, nrow_below h.rc hb, h.fr.trans (Fr2.of_below hb h.hz2), h.gl, h.hz⟩
theorem Es.take {z' : Int} (h : Es hi gc gr g c m M z w W) (hr : W'.rowIs gc 59 1 (rowN [.int .i64 z'])) (ho : Only gc W W') : Es hi gc gr g c m M z' w W' :=
  ⟨h.mt.only ho h.gl, hr, h.fr.trans (Fr2.of_only ho h.hz2), h.gl, h.hz⟩
theorem Es.put (h : Es hi gc gr g c m M z w W) {r j : Nat} (hr : r < m) (x : Int × Int) : Es hi gc gr g c m (upd2 M r j x) z w ((W.setCell ⟨g r, j * 2, none⟩ (.int .i64 x.1)).setCell ⟨g r, j * 2 + 1, none⟩ (.int .i64 x.2)) :=
  have hlo := h.mt.lo r hr
  have hgl := h.gl
  ⟨h.mt.put hr x, (nrow_set (nrow_set h.rc (p := ⟨g r, j * 2, none⟩) (by show gc ≠ g r; omega) _) (p := ⟨g r, j * 2 + 1, none⟩) (by show gc ≠ g r; omega) _), (h.fr.put (p := ⟨g r, j * 2, none⟩) hlo _).put (p := ⟨g r, j * 2 + 1, none⟩) hlo _, h.gl, h.hz⟩
/-- A box beside the rows. -/
structure Bx (hi gr : Nat) (g : Nat → Nat) (m gf : Nat) (x : Int × Int) (W : World) : Prop where
  row : W.rowIs gf 35 2 (rowN [.int .i64 x.1, .int .i64 x.2])
  lo : hi ≤ gf
  ne : gf ≠ gr ∧ ∀ r, r < m → gf ≠ g r
theorem Bx.below {gf : Nat} {x : Int × Int} (h : Bx hi gr g m gf x W) (hb : Below W.heap.size W W') : Bx hi gr g m gf x W' := ⟨nrow_below h.row hb, h.lo, h.ne⟩
theorem Bx.only {gf : Nat} {x : Int × Int} (h : Bx hi gr g m gf x W) (hb : Only gc W W') (hg : gc < hi) : Bx hi gr g m gf x W' := ⟨h.row.of_block (hb.block _ h.row.lt (by have := h.lo; omega)), h.lo, h.ne⟩
theorem Bx.put {gf : Nat} {x : Int × Int} (h : Bx hi gr g m gf x W) {r : Nat} (hr : r < m) (i j : Nat) (a b : Value) : Bx hi gr g m gf x ((W.setCell ⟨g r, i, none⟩ a).setCell ⟨g r, j, none⟩ b) :=
  ⟨nrow_set (nrow_set h.row (p := ⟨g r, i, none⟩) (h.ne.2 r hr) _) (p := ⟨g r, j, none⟩) (h.ne.2 r hr) _, h.lo, h.ne⟩
theorem Es.box (h : Es hi gc gr g c m M z w W) {gf : Nat} {x y : Int × Int} (hb : Bx hi gr g m gf x W) : Es hi gc gr g c m M z w ((W.setCell ⟨gf, 0, none⟩ (.int .i64 y.1)).setCell ⟨gf, 1, none⟩ (.int .i64 y.2)) ∧ Bx hi gr g m gf y ((W.setCell ⟨gf, 0, none⟩ (.int .i64 y.1)).setCell ⟨gf, 1, none⟩ (.int .i64 y.2)) := by
  have hk : ∀ k, k ≠ gf → ((W.setCell ⟨gf, 0, none⟩ (.int .i64 y.1)).setCell ⟨gf, 1, none⟩ (.int .i64 y.2)).heap[k]? = W.heap[k]? := fun k e => (Below.heap_setCell _ ⟨gf, 1, none⟩ _ _ e).trans (Below.heap_setCell _ ⟨gf, 0, none⟩ _ _ e)
  have hlo := hb.lo
  have hgl := h.gl
  refine ⟨⟨⟨fun s hs => (World.cell?_of_block (a := ⟨gr, s, none⟩) (hk gr (Ne.symm hb.ne.1))).trans (h.mt.list s hs), fun s hs => (h.mt.rows s hs).block (hk _ (Ne.symm (hb.ne.2 s hs))), h.mt.inj, h.mt.ne, h.mt.lo, h.mt.lg⟩, h.rc.of_block (hk _ (by omega)), (h.fr.put (p := ⟨gf, 0, none⟩) hlo _).put (p := ⟨gf, 1, none⟩) hlo _, h.gl, h.hz⟩, ⟨?_, hlo, hb.ne⟩⟩
  exact rowN_put (rowN_put hb.row 0 (.int .i64 y.1) (by simp)) 1 (.int .i64 y.2) (by simp)
/-- A new box. -/
theorem Es.fresh (h : Es hi gc gr g c m M z w W) {gf : Nat} (hg : W.heap.size ≤ gf) {x : Int × Int} (hr : W'.rowIs gf 35 2 (rowN [.int .i64 x.1, .int .i64 x.2])) (hm : 0 < m) : Bx hi gr g m gf x W' := by
  have hz := h.hz2
  refine ⟨hr, by omega, ?_, fun r hr2 => ?_⟩
  · have := World.block_lt_of_cell? _ _ (h.mt.list 0 hm)
    show gf ≠ gr
    have h2 : gr < W.heap.size := this
    omega
  · have := (h.mt.rows r hr2).lt
    omega
/-- A store that touches neither the rows nor the fault. -/
theorem Es.other (h : Es hi gc gr g c m M z w W) {gh : Nat} (hlo : hi ≤ gh) (hne : gh ≠ gr ∧ ∀ r, r < m → gh ≠ g r) (i j : Nat) (a b : Value) : Es hi gc gr g c m M z w ((W.setCell ⟨gh, i, none⟩ a).setCell ⟨gh, j, none⟩ b) := by
  have hk : ∀ k, k ≠ gh → ((W.setCell ⟨gh, i, none⟩ a).setCell ⟨gh, j, none⟩ b).heap[k]? = W.heap[k]? := fun k e => (Below.heap_setCell _ ⟨gh, j, none⟩ _ _ e).trans (Below.heap_setCell _ ⟨gh, i, none⟩ _ _ e)
  have hgl := h.gl
  exact ⟨⟨fun s hs => (World.cell?_of_block (a := ⟨gr, s, none⟩) (hk gr (Ne.symm hne.1))).trans (h.mt.list s hs), fun s hs => (h.mt.rows s hs).block (hk _ (Ne.symm (hne.2 s hs))), h.mt.inj, h.mt.ne, h.mt.lo, h.mt.lg⟩, h.rc.of_block (hk _ (by omega)), (h.fr.put (p := ⟨gh, i, none⟩) hlo _).put (p := ⟨gh, j, none⟩) hlo _, h.gl, h.hz⟩
/-- The heads that are found. -/
structure Hx (hi gr : Nat) (g : Nat → Nat) (m gh : Nat) (h : Nat → Int × Int) (W : World) : Prop where
  blk : IsBlk 35 gh (m * 2) (Nt.cells2 h) W
  lo : hi ≤ gh
  ne : gh ≠ gr ∧ ∀ r, r < m → gh ≠ g r
theorem Hx.below {gh : Nat} {h : Nat → Int × Int} (H : Hx hi gr g m gh h W) (hb : Below W.heap.size W W') : Hx hi gr g m gh h W' := ⟨H.blk.below hb, H.lo, H.ne⟩
theorem Hx.only {gh : Nat} {h : Nat → Int × Int} (H : Hx hi gr g m gh h W) (hb : Only gc W W') (hg : gc < hi) : Hx hi gr g m gh h W' := ⟨H.blk.block (hb.block _ H.blk.lt (by have := H.lo; omega)), H.lo, H.ne⟩
theorem Hx.box {gh gf : Nat} {h : Nat → Int × Int} (H : Hx hi gr g m gh h W) (hne : gh ≠ gf) (i j : Nat) (a b : Value) : Hx hi gr g m gh h ((W.setCell ⟨gf, i, none⟩ a).setCell ⟨gf, j, none⟩ b) := ⟨H.blk.block ((Below.heap_setCell _ ⟨gf, j, none⟩ _ _ hne).trans (Below.heap_setCell _ ⟨gf, i, none⟩ _ _ hne)), H.lo, H.ne⟩
theorem Hx.cell {gh : Nat} {h : Nat → Int × Int} (H : Hx hi gr g m gh h W) {j : Nat} (hj : j < m) : W.cell? ⟨gh, j * 2, none⟩ = some (.int .i64 (h j).1) ∧ W.cell? ⟨gh, j * 2 + 1, none⟩ = some (.int .i64 (h j).2) := by
  have a := H.blk.cell (i := j * 2) (by omega)
  have b := H.blk.cell (i := j * 2 + 1) (by omega)
  rw [Nt.cells2_0] at a
  rw [Nt.cells2_1] at b
  exact ⟨a, b⟩
theorem Hx.put {gh : Nat} {h : Nat → Int × Int} (H : Hx hi gr g m gh h W) (j : Nat) (x : Int × Int) : Hx hi gr g m gh (El.updF h j x) ((W.setCell ⟨gh, j * 2, none⟩ (.int .i64 x.1)).setCell ⟨gh, j * 2 + 1, none⟩ (.int .i64 x.2)) := by
  have h1 := H.blk.set2 j x
  have e : Nt.updF h j x = El.updF h j x := rfl
  rw [e] at h1
  exact ⟨h1, H.lo, H.ne⟩
theorem Bx.other {gf gh : Nat} {x : Int × Int} (h : Bx hi gr g m gf x W) (hne : gf ≠ gh) (i j : Nat) (a b : Value) : Bx hi gr g m gf x ((W.setCell ⟨gh, i, none⟩ a).setCell ⟨gh, j, none⟩ b) :=
  ⟨nrow_set (nrow_set h.row (p := ⟨gh, i, none⟩) hne _) (p := ⟨gh, j, none⟩) hne _, h.lo, h.ne⟩
theorem frN2 {T : TypeId} {g : Nat} {a b : Value} {W : World} (h : W.rowIs g T 2 (rowN [a, b])) : W.cell? ⟨g, 0, none⟩ = some a ∧ W.cell? ⟨g, 1, none⟩ = some b := ⟨h.cell (i := 0) (by omega), h.cell (i := 1) (by omega)⟩
end
end Go.Proofs.YtkaokfmaecdkiaaGreatDoor
namespace Go.Proofs.YtkaokfmaecdkiaaGreatDoor

namespace El
open Fq
/-- What the rows are from which the elimination starts. -/
def Base (m : Nat) (U : Mx) : Prop := AllR m U ∧ Nt.Sure m 0 (fun r c => q (U r c))
/-- Rows ahead of s are done with pivot k. -/
structure Ek (m : Nat) (U : Mx) (Z : Prop) (k s : Nat) (z : Int) (M : Mx) : Prop where
  ar : AllR m M
  zp : z = 0 ∨ (z = 5 ∧ ¬ Z)
  ok : z = 0 → Base m U ∧ Good m U k s ∧ ∀ r c, r < m → c ≤ m → M r c = part (mats m U k) k s r c
/-- Row r is being done. -/
structure Ej (m : Nat) (U : Mx) (Z : Prop) (k r j : Nat) (f : Int × Int) (z : Int) (M : Mx) : Prop where
  ar : AllR m M
  zp : z = 0 ∨ (z = 5 ∧ ¬ Z)
  rf : R f
  ok : z = 0 → Base m U ∧ Good m U k r ∧ f = fac (mats m U k) k r ∧ code (div (mats m U k r k) (mats m U k k k)) = 0 ∧ f.1 ≠ 0 ∧ (∀ c, k ≤ c → c < j → CellOk (mats m U k) k r c) ∧ ∀ a c, a < m → c ≤ m → M a c = if a = r ∧ k ≤ c ∧ c < j then cell (mats m U k) k r c else part (mats m U k) k r a c
theorem tkz_zero {p : Int × Int} {z : Int} (_hz : z = 0 ∨ z = 5) (h : tkz p z = 0) : code p = 0 ∧ z = 0 := by
  unfold tkz at h
  split at h
  · rename_i hc; exact ⟨hc, h⟩
  · omega
theorem tkz_or {p : Int × Int} {z : Int} (hz : z = 0 ∨ z = 5) : tkz p z = 0 ∨ tkz p z = 5 := by
  unfold tkz
  split
  · exact hz
  · exact Or.inr rfl
section
variable {m : Nat} {U : Mx} {Z : Prop} {k s r j : Nat} {z : Int} {M : Mx} {f : Int × Int}
theorem Ek.zz (h : Ek m U Z k s z M) : z = 0 ∨ z = 5 := by rcases h.zp with h | h; exact Or.inl h; exact Or.inr h.1
theorem Ej.zz (h : Ej m U Z k r j f z M) : z = 0 ∨ z = 5 := by rcases h.zp with h | h; exact Or.inl h; exact Or.inr h.1
/-- The pivot is not nought. -/
theorem Ek.piv (h : Ek m U Z k s 0 M) (hk : k < m) : (M k k).1 ≠ 0 := by
  obtain ⟨b, g, e⟩ := h.ok rfl
  rw [e k k hk (by omega)]
  have hp := (Piv.of b.1 b.2 k (by omega) s g).ne hk
  unfold part
  rw [if_neg (by omega)]
  exact hp
/-- The row's factor is reckoned. -/
theorem Ek.fac (h : Ek m U Z k r 0 M) (hk : k < m) (hr : r < m) (hkr : k < r) (hZ : Z → Good m U m m) {p : Int × Int} (hp : p = div (M r k) (M k k)) :
    ((tkv p).1 = 0 → Ek m U Z k (r + 1) (tkz p 0) M) ∧ ((tkv p).1 ≠ 0 → Ej m U Z k r k (tkv p) (tkz p 0) M) := by
  obtain ⟨b, g, e⟩ := h.ok rfl
  have e1 : M r k = mats m U k r k := by
    rw [e r k hr (by omega)]
    unfold part
    rw [if_neg (by omega)]
  have e2 : M k k = mats m U k k k := by
    rw [e k k hk (by omega)]
    unfold part
    rw [if_neg (by omega)]
  have hpn := h.piv hk
  have hfit := div_fit (h.ar r k hr (by omega)) (h.ar k k hk (by omega)) hpn
  rw [← hp] at hfit
  by_cases hc : code p = 0
  · have ev : tkv p = val p := tkv_ok hc
    have ez : tkz p 0 = 0 := tkz_ok hc 0
    have ef : tkv p = El.fac (mats m U k) k r := by
      rw [ev, hp, e1, e2]
      rfl
    have hc2 : code (div (mats m U k r k) (mats m U k k k)) = 0 := by rw [← e1, ← e2, ← hp]; exact hc
    rw [ez]
    refine ⟨fun h0 => ⟨h.ar, Or.inl rfl, fun _ => ⟨b, g.row (fun _ => ⟨hc2, fun hn => absurd (by rw [← ef]; exact h0) hn⟩), fun a c ha hcc => ?_⟩⟩, fun h0 => ⟨h.ar, Or.inl rfl, tkv_right hfit, fun _ => ⟨b, g, ef, hc2, h0, fun c h1 h2 => absurd h1 (by omega), fun a c ha hcc => ?_⟩⟩⟩
    · rw [e a c ha hcc]
      unfold part
      by_cases ea : a = r
      · subst ea
        rw [if_neg (by omega)]
        split
        · rename_i hh
          unfold el
          rw [if_pos (by rw [← ef]; exact h0)]
        · rfl
      · by_cases h1 : k < a ∧ a < r ∧ k ≤ c
        · rw [if_pos h1, if_pos ⟨h1.1, by omega, h1.2.2⟩]
        · rw [if_neg h1, if_neg (fun hh => h1 ⟨hh.1, by omega, hh.2.2⟩)]
    · rw [if_neg (by omega)]
      exact e a c ha hcc
  · have ev : tkv p = (0, 1) := if_neg hc
    have ez : tkz p 0 = 5 := if_neg hc
    rw [ez, ev]
    refine ⟨fun _ => ⟨h.ar, Or.inr ⟨rfl, fun hz => hc ?_⟩, fun e => by cases e⟩, fun h0 => absurd rfl h0⟩
    have := ((hZ hz).1 k hk r hkr hr).1
    rw [hp, e1, e2]
    exact this
/-- One number of the row. -/
theorem Ej.step (h : Ej m U Z k r j f z M) (hk : k < m) (hr : r < m) (hkr : k < r) (hkj : k ≤ j) (hj : j ≤ m) (hZ : Z → Good m U m m) {p q : Int × Int} (hp : p = mul f (M k j)) (hq : q = sub (M r j) (tkv p)) :
    Ej m U Z k r (j + 1) f (tkz q (tkz p z)) (upd2 M r j (tkv q)) := by
  have f1 := mul_fit h.rf (h.ar k j hk hj)
  rw [← hp] at f1
  have r1 := tkv_right f1
  have f2 := sub_fit (h.ar r j hr hj) r1
  rw [← hq] at f2
  have hR : AllR m (upd2 M r j (tkv q)) := by
    intro a c ha hc
    unfold upd2
    split
    · exact tkv_right f2
    · exact h.ar a c ha hc
  rcases h.zp with hz | hz
  · subst hz
    obtain ⟨b, g, e1, e2, e3, e4, e5⟩ := h.ok rfl
    have ek : M k j = mats m U k k j := by
      rw [e5 k j hk hj, if_neg (by omega)]
      unfold part
      rw [if_neg (by omega)]
    have er : M r j = mats m U k r j := by
      rw [e5 r j hr hj, if_neg (by omega)]
      unfold part
      rw [if_neg (by omega)]
    have bad : ¬ (code p = 0 ∧ code q = 0) → ¬ Z := fun hb hz => hb (by
      obtain ⟨c1, c2⟩ := ((hZ hz).1 k hk r hkr hr).2 (by rw [← e1]; exact e3) j hkj hj
      have hc1 : code p = 0 := by rw [hp, ek, e1]; exact c1
      refine ⟨hc1, ?_⟩
      rw [hq, tkv_ok hc1, er, hp, ek, e1]
      exact c2)
    by_cases hc1 : code p = 0
    · by_cases hc2 : code q = 0
      · rw [tkz_ok hc1, tkz_ok hc2]
        refine ⟨hR, Or.inl rfl, h.rf, fun _ => ⟨b, g, e1, e2, e3, fun c h1 h2 => ?_, fun a c ha hc => ?_⟩⟩
        · by_cases ec : c = j
          · subst ec
            refine ⟨?_, ?_⟩
            · rw [← e1, ← ek, ← hp]; exact hc1
            · rw [← e1, ← ek, ← hp, ← er, ← tkv_ok hc1, ← hq]; exact hc2
          · exact e4 c h1 (by omega)
        · unfold upd2
          by_cases ea : a = r ∧ c = j
          · obtain ⟨rfl, rfl⟩ := ea
            rw [if_pos ⟨rfl, rfl⟩, if_pos ⟨rfl, hkj, by omega⟩]
            rw [tkv_ok hc2, hq, tkv_ok hc1, er, hp, ek, e1]
            rfl
          · rw [if_neg ea, e5 a c ha hc]
            by_cases h1 : a = r ∧ k ≤ c ∧ c < j
            · rw [if_pos h1, if_pos ⟨h1.1, h1.2.1, by omega⟩]
            · rw [if_neg h1, if_neg (fun hh => h1 ⟨hh.1, hh.2.1, by
                have : c ≠ j := fun e => ea ⟨hh.1, e⟩
                omega⟩)]
      · rw [tkz_ok hc1]
        have e : tkz q 0 = 5 := if_neg hc2
        rw [e]
        exact ⟨hR, Or.inr ⟨rfl, bad (fun hh => hc2 hh.2)⟩, h.rf, fun e => by cases e⟩
    · have e : tkz p 0 = 5 := if_neg hc1
      rw [e, tkz_five]
      exact ⟨hR, Or.inr ⟨rfl, bad (fun hh => hc1 hh.1)⟩, h.rf, fun e => by cases e⟩
  · obtain ⟨rfl, hz⟩ := hz
    rw [tkz_five, tkz_five]
    exact ⟨hR, Or.inr ⟨rfl, hz⟩, h.rf, fun e => by cases e⟩
/-- The row is done. -/
theorem Ej.done (h : Ej m U Z k r (m + 1) f z M) (hkr : k < r) : Ek m U Z k (r + 1) z M := by
  refine ⟨h.ar, h.zp, fun hz => ?_⟩
  obtain ⟨b, g, e1, e2, e3, e4, e5⟩ := h.ok hz
  refine ⟨b, g.row (fun _ => ⟨e2, fun _ c h1 h2 => e4 c h1 (by omega)⟩), fun a c ha hc => ?_⟩
  rw [e5 a c ha hc]
  by_cases ea : a = r
  · subst ea
    by_cases hkc : k ≤ c
    · rw [if_pos ⟨rfl, hkc, by omega⟩]
      unfold part
      rw [if_pos ⟨hkr, by omega, hkc⟩]
      unfold el
      rw [if_neg (by rw [← e1]; exact e3)]
    · rw [if_neg (by omega)]
      unfold part
      rw [if_neg (by omega), if_neg (by omega)]
  · rw [if_neg (by omega)]
    unfold part
    by_cases h1 : k < a ∧ a < r ∧ k ≤ c
    · rw [if_pos h1, if_pos ⟨h1.1, by omega, h1.2.2⟩]
    · rw [if_neg h1, if_neg (fun hh => h1 ⟨hh.1, by omega, hh.2.2⟩)]
/-- The next pivot. -/
theorem Ek.next (h : Ek m U Z k s z M) (hs : z = 0 → s = m) : Ek m U Z (k + 1) (k + 2) z M := by
  refine ⟨h.ar, h.zp, fun hz => ?_⟩
  obtain ⟨b, g, e⟩ := h.ok hz
  have := hs hz
  subst this
  refine ⟨b, g.next, fun a c ha hc => ?_⟩
  rw [e a c ha hc]
  have e2 : part (mats s U (k + 1)) (k + 1) (k + 1 + 1) = mats s U (k + 1) := part_start
  show _ = part (mats s U (k + 1)) (k + 1) (k + 1 + 1) a c
  rw [e2]
  rfl
theorem Ek.last (h : Ek m U Z m (m + 1) z M) (hz : z = 0) : Base m U ∧ Good m U m m ∧ ∀ r c, r < m → c ≤ m → M r c = mats m U m r c := by
  obtain ⟨b, g, e⟩ := h.ok hz
  refine ⟨b, ⟨g.1, fun r h1 h2 => absurd h1 (by omega)⟩, fun r c hr hc => ?_⟩
  rw [e r c hr hc, part_start]
end
end El
end Go.Proofs.YtkaokfmaecdkiaaGreatDoor
namespace Go.Proofs.YtkaokfmaecdkiaaGreatDoor

namespace El
open Fq
/-- So many heads are found. -/
structure Hk (m : Nat) (V : Mx) (Z : Prop) (M : Mx) (s : Nat) (z : Int) (h : Nat → Int × Int) : Prop where
  zp : z = 0 ∨ (z = 5 ∧ ¬ Z)
  hr : ∀ j, m - s ≤ j → j < m → R (h j)
  ok : z = 0 → (∀ r c, r < m → c ≤ m → M r c = V r c) ∧ (∀ k, k < m → (V k k).1 ≠ 0) ∧ HdOk m V s ∧ ∀ j, m - s ≤ j → j < m → h j = hd m V s j
/-- One head is being found. -/
structure Ht (m : Nat) (V : Mx) (Z : Prop) (M : Mx) (s t : Nat) (z : Int) (v : Int × Int) : Prop where
  zp : z = 0 ∨ (z = 5 ∧ ¬ Z)
  rv : R v
  ok : z = 0 → BsOk m V (hd m V s) (m - 1 - s) t ∧ v = bs m V (hd m V s) (m - 1 - s) t
section
variable {m : Nat} {V : Mx} {Z : Prop} {M : Mx} {s t r : Nat} {z : Int} {h : Nat → Int × Int} {v : Int × Int}
theorem Hk.start (H : Hk m V Z M s 0 h) (hM : AllR m M) (hs : s < m) : Ht m V Z M s 0 0 (M (m - 1 - s) m) := by
  obtain ⟨e, _⟩ := H.ok rfl
  exact ⟨Or.inl rfl, hM _ _ (by omega) (Nat.le_refl _), fun _ => ⟨fun j hj => absurd hj (Nat.not_lt_zero _), e _ _ (by omega) (Nat.le_refl _)⟩⟩
theorem Ht.step (T : Ht m V Z M s t z v) (H : Hk m V Z M s 0 h) (hM : AllR m M) (hs : s < m) (ht : t < s) (hZ : Z → HdOk m V m) {p q : Int × Int} (hp : p = mul (M (m - 1 - s) (m - 1 - s + 1 + t)) (h (m - 1 - s + 1 + t))) (hq : q = sub v (tkv p)) :
    Ht m V Z M s (t + 1) (tkz q (tkz p z)) (tkv q) := by
  have r0 := hM (m - 1 - s) (m - 1 - s + 1 + t) (by omega) (by omega)
  have r1 := H.hr (m - 1 - s + 1 + t) (by omega) (by omega)
  have f1 := mul_fit r0 r1
  rw [← hp] at f1
  have f2 := sub_fit T.rv (tkv_right f1)
  rw [← hq] at f2
  obtain ⟨e1, _, _, e2⟩ := H.ok rfl
  have ea : p = mul (V (m - 1 - s) (m - 1 - s + 1 + t)) (hd m V s (m - 1 - s + 1 + t)) := by rw [hp, e1 _ _ (by omega) (by omega), e2 _ (by omega) (by omega)]
  rcases T.zp with hz | ⟨rfl, hz⟩
  · subst hz
    obtain ⟨g1, g2⟩ := T.ok rfl
    have bad : ¬ (code p = 0 ∧ code q = 0) → ¬ Z := fun hb hz => hb (by
      obtain ⟨c1, c2⟩ := ((hZ hz) s hs).1 t ht
      have hc1 : code p = 0 := by rw [ea]; exact c1
      refine ⟨hc1, ?_⟩
      rw [hq, tkv_ok hc1, ea, g2]
      exact c2)
    by_cases hc1 : code p = 0
    · by_cases hc2 : code q = 0
      · rw [tkz_ok hc1, tkz_ok hc2]
        refine ⟨Or.inl rfl, tkv_right f2, fun _ => ⟨fun j hj => ?_, ?_⟩⟩
        · by_cases e : j = t
          · subst e
            refine ⟨by rw [← ea]; exact hc1, ?_⟩
            rw [← ea, ← g2, ← tkv_ok hc1, ← hq]
            exact hc2
          · exact g1 j (by omega)
        · rw [tkv_ok hc2, hq, tkv_ok hc1, ea, g2]
          rfl
      · rw [tkz_ok hc1]
        have e : tkz q 0 = 5 := if_neg hc2
        rw [e]
        exact ⟨Or.inr ⟨rfl, bad (fun hh => hc2 hh.2)⟩, tkv_right f2, fun e => by cases e⟩
    · have e : tkz p 0 = 5 := if_neg hc1
      rw [e, tkz_five]
      exact ⟨Or.inr ⟨rfl, bad (fun hh => hc1 hh.1)⟩, tkv_right f2, fun e => by cases e⟩
  · rw [tkz_five, tkz_five]
    exact ⟨Or.inr ⟨rfl, hz⟩, tkv_right f2, fun e => by cases e⟩
theorem Ht.done (T : Ht m V Z M s s z v) (H : Hk m V Z M s 0 h) (hM : AllR m M) (hs : s < m) (hZ : Z → HdOk m V m) {p : Int × Int} (hp : p = div v (M (m - 1 - s) (m - 1 - s))) :
    Hk m V Z M (s + 1) (tkz p z) (updF h (m - 1 - s) (tkv p)) := by
  obtain ⟨e1, e3, e4, e2⟩ := H.ok rfl
  have em := e1 (m - 1 - s) (m - 1 - s) (by omega) (by omega)
  have hne : (M (m - 1 - s) (m - 1 - s)).1 ≠ 0 := by rw [em]; exact e3 _ (by omega)
  have f1 := div_fit T.rv (hM (m - 1 - s) (m - 1 - s) (by omega) (by omega)) hne
  rw [← hp] at f1
  have hR : ∀ j, m - (s + 1) ≤ j → j < m → R (updF h (m - 1 - s) (tkv p) j) := by
    intro j h1 h2
    unfold updF
    split
    · exact tkv_right f1
    · exact H.hr j (by omega) h2
  rcases T.zp with hz | ⟨rfl, hz⟩
  · subst hz
    obtain ⟨g1, g2⟩ := T.ok rfl
    have ea : p = div (bs m V (hd m V s) (m - 1 - s) s) (V (m - 1 - s) (m - 1 - s)) := by rw [hp, em, g2]
    by_cases hc : code p = 0
    · rw [tkz_ok hc]
      refine ⟨Or.inl rfl, hR, fun _ => ⟨e1, e3, fun j hj => ?_, fun j h1 h2 => ?_⟩⟩
      · by_cases e : j = s
        · subst e; exact ⟨g1, by rw [← ea]; exact hc⟩
        · exact e4 j (by omega)
      · show updF h (m - 1 - s) (tkv p) j = updF (hd m V s) (m - 1 - s) _ j
        unfold updF
        by_cases e : j = m - 1 - s
        · rw [if_pos e, if_pos e, tkv_ok hc, ea]
        · rw [if_neg e, if_neg e]; exact e2 j (by omega) h2
    · have e : tkz p 0 = 5 := if_neg hc
      rw [e]
      exact ⟨Or.inr ⟨rfl, fun hz => hc (by rw [ea]; exact ((hZ hz) s hs).2)⟩, hR, fun e => by cases e⟩
  · rw [tkz_five]
    exact ⟨Or.inr ⟨rfl, hz⟩, hR, fun e => by cases e⟩
end
end El
end Go.Proofs.YtkaokfmaecdkiaaGreatDoor
namespace Go.Proofs.YtkaokfmaecdkiaaGreatDoor
open Go Go.RowKit Go.Deep

/-- What stands while the answer grows. -/
structure Ou (n : Nt.Net) (la : Option Addr) (lk : Nat) (fa : Option Addr) (fk : Nat) (wa : Option Addr) (wk gc go k : Nat) (f : Nat → Int × Int) (v : Value) (gn N gh m : Nat) (no : Nat → Int) (h : Nat → Int × Int) (w W : World) : Prop where
  s : SpS n la lk fa fk wa wk gc go k f 0 v w W
  nu : IsBlk 3 gn N no W
  he : IsBlk 35 gh (m * 2) (Nt.cells2 h) W
  lt : gn < go ∧ gh < go
section
variable {n : Nt.Net} {la : Option Addr} {lk : Nat} {fa : Option Addr} {fk : Nat} {wa : Option Addr} {wk gc go k : Nat} {f : Nat → Int × Int} {v : Value} {gn N gh m : Nat} {no : Nat → Int} {h : Nat → Int × Int} {w W W' : World}
theorem Ou.below (H : Ou n la lk fa fk wa wk gc go k f v gn N gh m no h w W) (hb : Below W.heap.size W W') : Ou n la lk fa fk wa wk gc go k f v gn N gh m no h w W' :=
  ⟨H.s.below hb, H.nu.below hb, H.he.below hb, H.lt⟩
theorem Ou.grow {v' : Value} {x : Int × Int} (H : Ou n la lk fa fk wa wk gc go k f v gn N gh m no h w W) (hx : x = f k) (hown : W'.ownsRow (go + 1) 35 2 v' (k + 1) (frVs f k ++ [.int .i64 x.1, .int .i64 x.2])) (hg : W.grownBy W' v.ownBlock) : Ou n la lk fa fk wa wk gc go (k + 1) f v' gn N gh m no h w (W'.setCell ⟨go, 0, none⟩ v') := by
  have hl := H.lt
  have ne : ∀ j, v.ownBlock = some j → go + 1 ≤ j := fun j e => (H.s.own.lt j e).1
  have blk : ∀ j, j < W.heap.size → j < go → (W'.setCell ⟨go, 0, none⟩ v').heap[j]? = W.heap[j]? := fun j h1 h2 => (Below.heap_setCell _ ⟨go, 0, none⟩ _ _ (by show j ≠ go; omega)).trans (hg.block j h1 (fun e => by have := ne j e.symm; omega))
  subst hx
  rw [← frVs_succ] at hown
  exact ⟨H.s.grow hown hg, H.nu.block (blk _ H.nu.lt hl.1), H.he.block (blk _ H.he.lt hl.2), H.lt⟩
theorem Ou.head (H : Ou n la lk fa fk wa wk gc go k f v gn N gh m no h w W) {r : Nat} (hr : r < m) : W.cell? ⟨gh, r * 2, none⟩ = some (.int .i64 (h r).1) ∧ W.cell? ⟨gh, r * 2 + 1, none⟩ = some (.int .i64 (h r).2) := by
  have a := H.he.cell (i := r * 2) (by omega)
  have b := H.he.cell (i := r * 2 + 1) (by omega)
  rw [Nt.cells2_0] at a
  rw [Nt.cells2_1] at b
  exact ⟨a, b⟩
/-- What is read while the answer grows. -/
structure Os2 (n : Nt.Net) (la : Option Addr) (lk : Nat) (fa : Option Addr) (fk : Nat) (wa : Option Addr) (wk go : Nat) (v : Value) (gn N gh m : Nat) (no : Nat → Int) (h : Nat → Int × Int) (w W : World) : Prop where
  ro : W.rowIs go 31 3 (rowN [v, .int .i64 0, .int .i64 0])
  nu : IsBlk 3 gn N no W
  he : IsBlk 35 gh (m * 2) (Nt.cells2 h) W
  row : W.rowIs w.heap.size 27 4 (rowN (ntL n la lk fa fk wa wk))
  at_ : NtAt n la fa wa W
theorem Ou.os (H : Ou n la lk fa fk wa wk gc go k f v gn N gh m no h w W) (ha : NtAt n la fa wa w) : Os2 n la lk fa fk wa wk go v gn N gh m no h w W := ⟨H.s.ro, H.nu, H.he, H.s.row, ha.below H.s.old⟩
theorem Ou.os2 (H : Ou n la lk fa fk wa wk gc go k f v gn N gh m no h w W) (ha : NtAt n la fa wa w) (hg : W.grownBy W' v.ownBlock) : Os2 n la lk fa fk wa wk go v gn N gh m no h w W' := by
  have hl := H.lt
  have hn := H.s.num
  have ne : ∀ j, v.ownBlock = some j → go + 1 ≤ j := fun j e => (H.s.own.lt j e).1
  have blk : ∀ j, j < W.heap.size → j ≤ go → W'.heap[j]? = W.heap[j]? := fun j h1 h2 => hg.block j h1 (fun e => by have := ne j e.symm; omega)
  exact ⟨H.s.ro.of_block (blk _ H.s.ro.lt (Nat.le_refl _)), H.nu.block (blk _ H.nu.lt (by omega)), H.he.block (blk _ H.he.lt (by omega)), H.s.row.of_block (blk _ H.s.row.lt (by omega)), ha.below (H.s.old.grown hg H.s.old.size (fun k e => by have := ne k e; omega))⟩
theorem Os2.head (H : Os2 n la lk fa fk wa wk go v gn N gh m no h w W) {r : Nat} (hr : r < m) : W.cell? ⟨gh, r * 2, none⟩ = some (.int .i64 (h r).1) ∧ W.cell? ⟨gh, r * 2 + 1, none⟩ = some (.int .i64 (h r).2) := by
  have a := H.he.cell (i := r * 2) (by omega)
  have b := H.he.cell (i := r * 2 + 1) (by omega)
  rw [Nt.cells2_0] at a
  rw [Nt.cells2_1] at b
  exact ⟨a, b⟩
end
end Go.Proofs.YtkaokfmaecdkiaaGreatDoor
