/-
  The code of a program: what both walks want.
-/
import Derived.Test.YtgkdnpnnmmpnmaaCyOp
import Derived.Test.YtgkdnpnnmmpnmaaCySt
namespace Go.Proofs.Ytgkdnpnnmmpnmaa
open Go.RowKit Go.Deep

theorem opsB_1 {b : Pg.Bk} {i : Nat} (h : b.kind = 1) : Pc.opsB i b = [(1, 0, 0)] := by unfold Pc.opsB; rw [if_pos h]
theorem opsB_2 {b : Pg.Bk} {i : Nat} (h : b.kind = 2) : Pc.opsB i b = [(7, b.a, 0), (7, b.b, 0), (2, 0, 0)] := by unfold Pc.opsB; rw [h]; rfl
theorem opsB_3 {b : Pg.Bk} {i : Nat} (h : b.kind = 3) : Pc.opsB i b = [(7, b.a, 0), (7, b.b, 0), (3, 0, 0)] := by unfold Pc.opsB; rw [h]; rfl
theorem opsB_4 {b : Pg.Bk} {i : Nat} (h : b.kind = 4) : Pc.opsB i b = [(7, b.a, 0), (4, 0, 0)] := by unfold Pc.opsB; rw [h]; rfl
theorem opsB_5 {b : Pg.Bk} {i : Nat} (h : b.kind = 5) : Pc.opsB i b = [(5, b.a, 0)] := by unfold Pc.opsB; rw [h]; rfl
theorem opsB_6 {b : Pg.Bk} {i : Nat} (h : b.kind = 6) : Pc.opsB i b = [(5, (i : Int), 0), (7, b.a, 0), (3, 0, 0), (7, b.b, 0), (4, 0, 0), (2, 0, 0)] := by unfold Pc.opsB; rw [h]; rfl
theorem opsB_7 {b : Pg.Bk} {i : Nat} (h : b.kind = 7) : Pc.opsB i b = [(7, b.a, 0), (8, (i : Int), b.b)] := by unfold Pc.opsB; rw [h]; rfl
/-- What stands while the code grows: the program's box, the list. -/
structure PcS (p : Pg.Prog) (la : Option Addr) (lk : Nat) (fa : Option Addr) (fk : Nat) (wa : Option Addr) (wk : Nat) (l : List Pc.Op) (v : Value) (w W : World) : Prop where
  box : W.rowIs w.heap.size 34 3 (rowN (pgL p la lk fa fk wa wk))
  own : W.ownsRow w.heap.size 61 3 v l.length (opV l)
  old : Below w.heap.size w W
theorem PcS.ne {p : Pg.Prog} {la : Option Addr} {lk : Nat} {fa : Option Addr} {fk : Nat} {wa : Option Addr} {wk : Nat} {l : List Pc.Op} {v : Value} {w W : World} (h : PcS p la lk fa fk wa wk l v w W) {g n : Nat} {T : TypeId} {F : Nat → Value} (hr : W.rowIs g T n F) (hT : 61 ≠ T) : v.ownBlock ≠ some g := by
  intro e
  rcases h.own.2 with ⟨rfl, _⟩ | ⟨g', cap, cur, rfl, _, e3, _⟩
  · cases e
  · cases e
    obtain ⟨c, q, _⟩ := hr
    rw [e3] at q
    simp at q
    exact hT q.2
theorem PcS.below {p : Pg.Prog} {la : Option Addr} {lk : Nat} {fa : Option Addr} {fk : Nat} {wa : Option Addr} {wk : Nat} {l : List Pc.Op} {v : Value} {w W W' : World} (h : PcS p la lk fa fk wa wk l v w W) (hb : Below W.heap.size W W') : PcS p la lk fa fk wa wk l v w W' :=
  ⟨nrow_below h.box hb, h.own.kept (row := none) ⟨hb.os, hb.tape, hb.output, hb.size, fun k hk _ => hb.block k hk⟩ (by cases v.ownBlock <;> simp), h.old.trans (hb.mono h.old.size)⟩
theorem PcS.push {p : Pg.Prog} {la : Option Addr} {lk : Nat} {fa : Option Addr} {fk : Nat} {wa : Option Addr} {wk : Nat} {l m : List Pc.Op} {v v' : Value} {w W W' : World} (h : PcS p la lk fa fk wa wk l v w W) {n : Nat} (h1 : W'.ownsRow w.heap.size 61 3 v' n (opV m)) (hn : n = m.length) (h2 : W.grownBy W' v.ownBlock) : PcS p la lk fa fk wa wk m v' w W' :=
  ⟨h.box.of_block (h2.block _ h.box.lt (fun e => h.ne h.box (by decide) e.symm)), hn ▸ h1, cy_grown h.old h.old.size h2 (fun k e => (h.own.lt k e).1)⟩
theorem PcS.alloc {p : Pg.Prog} {la : Option Addr} {lk : Nat} {fa : Option Addr} {fk : Nat} {wa : Option Addr} {wk : Nat} {l : List Pc.Op} {v : Value} {w W : World} (h : PcS p la lk fa fk wa wk l v w W) (o : Obj) : PcS p la lk fa fk wa wk l v w (W.alloc o) := h.below (nbel_alloc _ _)
theorem ops_new' (w : World) (m : List Pc.Op) (T : TypeId) (g : Nat) (e : w.heap.size = g) : ∀ j u, (opV m)[j]? = some u → (w.alloc (.cells ⟨opV m⟩ T)).cell? ((⟨g, 0, none⟩ : Addr).add j) = some u := by
  subst e
  exact ops_new w m T
end Go.Proofs.Ytgkdnpnnmmpnmaa
