/-
  A cycle in the making: the model's memory.
-/
import Derived.Test.YtgkdnpnnmmpnmaaGreatDoorCyS1
import Derived.Test.YtgkdnpnnmmpnmaaGreatDoorFaCy
namespace Go.Proofs.YtgkdnpnnmmpnmaaGreatDoor
open Go.RowKit Go.Deep

section
variable {p : Pg.Prog} {la : Option Addr} {lk : Nat} {fa : Option Addr} {fk : Nat} {wa : Option Addr} {wk : Nat} {s : Cy.Lg} {sa : Option Addr} {sk : Nat} {sb : Option Addr} {sl : Nat} {n nb tg cg : Nat} {T C : Nat → Int} {fl : Bool} {w W W' : World}
/-- The boxes of the program and the Logic, the answer's box, the next Logic's box, its truths, its counts. -/
structure CyL (p : Pg.Prog) (la : Option Addr) (lk : Nat) (fa : Option Addr) (fk : Nat) (wa : Option Addr) (wk : Nat) (s : Cy.Lg) (sa : Option Addr) (sk : Nat) (sb : Option Addr) (sl : Nat) (n nb tg cg : Nat) (T C : Nat → Int) (fl : Bool) (w W : World) : Prop where
  a : CyW p la lk fa fk wa wk w.heap.size (w.heap.size + 1) s sa sk sb sl w W
  rs : W.rowIs (w.heap.size + 1 + 1) 38 5 (rowN [.slice none 0 0, .slice none 0 0, .bool false, .slice none 0 0, .int .i64 0])
  bx : W.rowIs nb 33 3 (rowN [.slice (some ⟨tg, 0, none⟩) n n, .slice (some ⟨cg, 0, none⟩) n n, .bool fl])
  t : IsBlk 2 tg n T W
  c : IsBlk 2 cg n C W
  o : tg ≠ cg ∧ w.heap.size + 1 + 1 < tg ∧ w.heap.size + 1 + 1 < cg ∧ w.heap.size + 1 + 1 < nb
theorem CyL.below (h : CyL p la lk fa fk wa wk s sa sk sb sl n nb tg cg T C fl w W) (hb : Below W.heap.size W W') : CyL p la lk fa fk wa wk s sa sk sb sl n nb tg cg T C fl w W' :=
  ⟨h.a.below hb, nrow_below h.rs hb, nrow_below h.bx hb, h.t.below hb, h.c.below hb, h.o⟩
theorem isblk_ne {S R : TypeId} {g k N m : Nat} {f : Nat → Int} {F : Nat → Value} {W : World} (h : IsBlk S g N f W) (hr : W.rowIs k R m F) (hT : S ≠ R) : k ≠ g := by
  rintro rfl
  obtain ⟨m', F', _, ⟨c1, q1, _⟩, _⟩ := h
  obtain ⟨c2, q2, _⟩ := hr
  rw [q1] at q2
  simp at q2
  exact hT q2.2
theorem CyL.putT (h : CyL p la lk fa fk wa wk s sa sk sb sl n nb tg cg T C fl w W) (i : Nat) (x : Int) : CyL p la lk fa fk wa wk s sa sk sb sl n nb tg cg (updI T i x) C fl w (W.setCell ⟨tg, i, none⟩ (.int .i64 x)) :=
  ⟨⟨nrow_set h.a.bp (p := ⟨tg, i, none⟩) (isblk_ne h.t h.a.bp (by decide)) _, nrow_set h.a.bs (p := ⟨tg, i, none⟩) (isblk_ne h.t h.a.bs (by decide)) _, h.a.old.setCell (p := ⟨tg, i, none⟩) (by show _ ≤ tg; have := h.o; omega) _⟩, nrow_set h.rs (p := ⟨tg, i, none⟩) (isblk_ne h.t h.rs (by decide)) _, nrow_set h.bx (p := ⟨tg, i, none⟩) (isblk_ne h.t h.bx (by decide)) _, h.t.set i x, h.c.block (cyhs _ _ _ (Ne.symm h.o.1) _ _), h.o⟩
theorem CyL.putC (h : CyL p la lk fa fk wa wk s sa sk sb sl n nb tg cg T C fl w W) (i : Nat) (x : Int) : CyL p la lk fa fk wa wk s sa sk sb sl n nb tg cg T (updI C i x) fl w (W.setCell ⟨cg, i, none⟩ (.int .i64 x)) :=
  ⟨⟨nrow_set h.a.bp (p := ⟨cg, i, none⟩) (isblk_ne h.c h.a.bp (by decide)) _, nrow_set h.a.bs (p := ⟨cg, i, none⟩) (isblk_ne h.c h.a.bs (by decide)) _, h.a.old.setCell (p := ⟨cg, i, none⟩) (by show _ ≤ cg; have := h.o; omega) _⟩, nrow_set h.rs (p := ⟨cg, i, none⟩) (isblk_ne h.c h.rs (by decide)) _, nrow_set h.bx (p := ⟨cg, i, none⟩) (isblk_ne h.c h.bx (by decide)) _, h.t.block (cyhs _ _ _ h.o.1 _ _), h.c.set i x, h.o⟩
theorem CyL.fall (h : CyL p la lk fa fk wa wk s sa sk sb sl n nb tg cg T C fl w W) : CyL p la lk fa fk wa wk s sa sk sb sl n nb tg cg T C true w (W.setCell ⟨nb, 2, none⟩ (.bool true)) :=
  ⟨⟨nrow_set h.a.bp (p := ⟨nb, 2, none⟩) (by show w.heap.size ≠ nb; have := h.o; omega) _, nrow_set h.a.bs (p := ⟨nb, 2, none⟩) (by show w.heap.size + 1 ≠ nb; have := h.o; omega) _, h.a.old.setCell (p := ⟨nb, 2, none⟩) (by show _ ≤ nb; have := h.o; omega) _⟩, nrow_set h.rs (p := ⟨nb, 2, none⟩) (by show w.heap.size + 1 + 1 ≠ nb; have := h.o; omega) _, rowN_put h.bx 2 (.bool true) (by simp), h.t.block (cyhs _ _ _ (Ne.symm (isblk_ne h.t h.bx (by decide))) _ _), h.c.block (cyhs _ _ _ (Ne.symm (isblk_ne h.c h.bx (by decide))) _ _), h.o⟩
/-- Three blocks, one behind the other. -/
theorem three_heap (V : World) (o0 o1 o2 : Obj) : Below V.heap.size V ((((V.alloc o0).alloc o1).alloc o2).drew) ∧ ((((V.alloc o0).alloc o1).alloc o2).drew).heap[V.heap.size]? = some o0 ∧ ((((V.alloc o0).alloc o1).alloc o2).drew).heap[V.heap.size + 1]? = some o1 ∧ ((((V.alloc o0).alloc o1).alloc o2).drew).heap[V.heap.size + 1 + 1]? = some o2 := by
  have e1 : (V.alloc o0).heap.size = V.heap.size + 1 := by simp
  have e2 : ((V.alloc o0).alloc o1).heap.size = V.heap.size + 1 + 1 := by simp
  refine ⟨(((nbel_alloc _ _).alloc (by simp) _).alloc (by simp; omega) _).drew, ?_, ?_, ?_⟩
  · show (((V.alloc o0).alloc o1).alloc o2).heap[V.heap.size]? = _
    rw [heap_alloc_old _ _ (by omega), heap_alloc_old _ _ (by omega)]
    exact heap_alloc_new _ _
  · show (((V.alloc o0).alloc o1).alloc o2).heap[V.heap.size + 1]? = _
    rw [heap_alloc_old _ _ (by omega), ← e1]
    exact heap_alloc_new _ _
  · show (((V.alloc o0).alloc o1).alloc o2).heap[V.heap.size + 1 + 1]? = _
    rw [← e2]
    exact heap_alloc_new _ _
theorem blk_made {S : TypeId} {g n : Nat} {W : World} (h : W.heap[g]? = some (.cells (madeCells #[.int .i64 0] n) S)) : IsBlk S g n (fun _ => 0) W :=
  ⟨n, fun _ => .int .i64 0, Nat.le_refl _, ⟨_, h, by simp [size_madeCells], fun i hi => by simp [madeCells, hi, Nat.mod_one]⟩, fun _ _ => rfl⟩
theorem cyl_make (S : CyW p la lk fa fk wa wk w.heap.size (w.heap.size + 1) s sa sk sb sl w W) (Q : W.rowIs (w.heap.size + 1 + 1) 38 5 (rowN [.slice none 0 0, .slice none 0 0, .bool false, .slice none 0 0, .int .i64 0])) (hb : Below W.heap.size W W')
    (h1 : W'.heap[nb]? = some (.cells #[.slice (some ⟨tg, 0, none⟩) n n, .slice (some ⟨cg, 0, none⟩) n n, .bool fl] 33)) (h2 : W'.heap[tg]? = some (.cells (madeCells #[.int .i64 0] n) 2)) (h3 : W'.heap[cg]? = some (.cells (madeCells #[.int .i64 0] n) 2)) (ho : tg ≠ cg ∧ W.heap.size ≤ tg ∧ W.heap.size ≤ cg ∧ W.heap.size ≤ nb) :
    CyL p la lk fa fk wa wk s sa sk sb sl n nb tg cg (fun _ => 0) (fun _ => 0) fl w W' :=
  have hq := Q.lt
  ⟨S.below hb, nrow_below Q hb, ⟨_, h1, rfl, fun i hi => by have : i = 0 ∨ i = 1 ∨ i = 2 := by omega
                                                            rcases this with rfl | rfl | rfl <;> rfl⟩, blk_made h2, blk_made h3, ⟨ho.1, by omega, by omega, by omega⟩⟩
end
/-- A list of numbers that grows. -/
def ivs (l : List Int) : List Value := l.map fun x => Value.int .i64 x
theorem own_ints {T : TypeId} {B n : Nat} {v : Value} {l : List Int} {W : World} (h : W.ownsRow B T 1 v n (ivs l)) : ∃ a c, v = .slice a n c ∧ CyO T B n a c (fun j => l.getD j 0) W := by
  have hn : n = l.length := by have := h.1; simp [ivs] at this; omega
  rcases h.2 with ⟨rfl, h2⟩ | ⟨g, cap, cur, rfl, e2, e3, e4, e5, e6, e7⟩
  · exact ⟨none, 0, by rw [h2], Or.inl ⟨rfl, h2, rfl⟩⟩
  · refine ⟨_, cap, rfl, Or.inr ⟨g, rfl, e2, cap, fun i => cur[i]?.getD undef, by omega, ⟨cur, e3, by simpa using e6, fun i hi => ?_⟩, fun j hj => ?_⟩⟩
    · show cur[i]? = some (cur[i]?.getD undef)
      rw [Array.getElem?_eq_getElem (by omega)]
      rfl
    · have h1 : (cur.toList.take (n * 1))[j]? = (ivs l)[j]? := by rw [e7]
      rw [List.getElem?_take, if_pos (by omega), Array.getElem?_toList] at h1
      show cur[j]?.getD undef = _
      rw [h1]
      have : j < l.length := by omega
      simp [ivs, this]
theorem ivs_app (l : List Int) (x : Int) : ivs (l ++ [x]) = ivs l ++ [.int .i64 x] := by simp [ivs]
namespace Cy
/-- The first outs. -/
noncomputable def outs (p : Pg.Prog) (s : Lg) (I : Nat → Int) : Nat → List Int
  | 0 => []
  | m + 1 => outs p s I m ++ [out p s I m]
theorem outs_len (p : Pg.Prog) (s : Lg) (I : Nat → Int) (m : Nat) : (outs p s I m).length = m := by
  induction m with
  | zero => rfl
  | succ m ih => rw [outs, List.length_append, ih]; rfl
theorem outs_get (p : Pg.Prog) (s : Lg) (I : Nat → Int) (m j : Nat) (h : j < m) : (outs p s I m).getD j 0 = out p s I j := by
  induction m with
  | zero => omega
  | succ m ih =>
    have hl := outs_len p s I m
    rw [outs]
    by_cases e : j = m
    · subst e
      simp [List.getD, hl]
    · have : j < m := by omega
      rw [← ih this]
      simp [List.getD, List.getElem?_append, hl, this]
theorem nev_in {p : Pg.Prog} (h : Pg.Right p) {j : Nat} (hj : j < p.nn) : (∃ a : Nat, a < p.bn ∧ p.N (j * 2) = (a : Int)) ∧ (∃ a : Nat, a < p.bn ∧ p.N (j * 2 + 1) = (a : Int)) := by
  obtain ⟨⟨i, hi, e1⟩, ⟨k, hk, e2⟩, _⟩ := h.v j hj
  have h1 := (h.o i hi).1
  have h2 := (h.o k hk).1
  exact ⟨⟨(p.N (j * 2)).toNat, by omega, by omega⟩, ⟨(p.N (j * 2 + 1)).toNat, by omega, by omega⟩⟩
theorem out_in {p : Pg.Prog} (h : Pg.Right p) {j : Nat} (hj : j < p.on) : ∃ a : Nat, a < p.bn ∧ p.O j = (a : Int) := by
  have h1 := (h.o j hj).1
  exact ⟨(p.O j).toNat, by omega, by omega⟩
end Cy
theorem cmax_any (a b : Int) (w : World) : Calls Tryz.prog 70 #[.int .i64 a, .int .i64 b] w fun e w' => e = .returned (.int .i64 (max a b)) ∧ w' = w := by
  by_cases h : b < a
  · have e : max a b = a := by omega
    rw [e]
    go_enter Tryz.func70, Tryz.ntmps70
    go_wp2_with fail
    go_ret
    exact ⟨rfl, rfl⟩
  · have e : max a b = b := by omega
    rw [e]
    go_enter Tryz.func70, Tryz.ntmps70
    go_wp2_with fail
    go_ret
    exact ⟨rfl, rfl⟩
theorem cmin_any (a b : Int) (w : World) : Calls Tryz.prog 69 #[.int .i64 a, .int .i64 b] w fun e w' => e = .returned (.int .i64 (min a b)) ∧ w' = w := by
  by_cases h : a < b
  · have e : min a b = a := by omega
    rw [e]
    go_enter Tryz.func69, Tryz.ntmps69
    go_wp2_with fail
    go_ret
    exact ⟨rfl, rfl⟩
  · have e : min a b = b := by omega
    rw [e]
    go_enter Tryz.func69, Tryz.ntmps69
    go_wp2_with fail
    go_ret
    exact ⟨rfl, rfl⟩
end Go.Proofs.YtgkdnpnnmmpnmaaGreatDoor
