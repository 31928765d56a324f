/-
  A cycle in the making: the program's memory, its small functions.
-/
import Derived.Test.YtgkdnpnnmmpnmaaGreatDoorCyL
namespace Go.Proofs.YtgkdnpnnmmpnmaaGreatDoor
open Go.RowKit Go.Deep

/-- Two blocks alone may have changed. -/
structure OnlyC (a b : Nat) (w w' : World) : Prop where
  os : w'.os = w.os
  tape : w'.tape = w.tape
  output : w'.output = w.output
  size : w.heap.size ≤ w'.heap.size
  block : ∀ k, k < w.heap.size → k ≠ a → k ≠ b → w'.heap[k]? = w.heap[k]?
theorem OnlyC.trans {a b : Nat} {w w1 w2 : World} (h : OnlyC a b w w1) (k : OnlyC a b w1 w2) : OnlyC a b w w2 := ⟨k.os.trans h.os, k.tape.trans h.tape, k.output.trans h.output, Nat.le_trans h.size k.size, fun j hj h1 h2 => (k.block j (Nat.lt_of_lt_of_le hj h.size) h1 h2).trans (h.block j hj h1 h2)⟩
theorem OnlyC.of_below {a b : Nat} {w w1 : World} (h : Below w.heap.size w w1) : OnlyC a b w w1 := ⟨h.os, h.tape, h.output, h.size, fun j hj _ _ => h.block j hj⟩
theorem OnlyC.set1 {a b : Nat} {w w1 : World} (h : OnlyC a b w w1) (i : Nat) (v : Value) : OnlyC a b w (w1.setCell ⟨a, i, none⟩ v) := ⟨h.os, h.tape, h.output, by simpa using h.size, fun j hj h1 h2 => (cyhs _ _ _ h1 _ _).trans (h.block j hj h1 h2)⟩
theorem OnlyC.set2 {a b : Nat} {w w1 : World} (h : OnlyC a b w w1) (i : Nat) (v : Value) : OnlyC a b w (w1.setCell ⟨b, i, none⟩ v) := ⟨h.os, h.tape, h.output, by simpa using h.size, fun j hj h1 h2 => (cyhs _ _ _ h2 _ _).trans (h.block j hj h1 h2)⟩
theorem OnlyC.old {a b B : Nat} {w0 w w1 : World} (h : OnlyC a b w w1) (hb : Below B w0 w) (h1 : B ≤ a) (h2 : B ≤ b) (h3 : B ≤ w.heap.size) : Below B w0 w1 := hb.trans ⟨h.os, h.tape, h.output, h.size, fun k hk => h.block k (by omega) (by omega) (by omega)⟩
section
variable {s : Cy.Lg} {sa : Option Addr} {sk : Nat} {sb : Option Addr} {sl n cb tg cg : Nat} {T C : Nat → Int} {fl : Bool} {ix : Option Addr} {m k : Nat} {F : Nat → Int} {w W W' : World}
/-- The struct of a cycle, the truths, the counts, the ins that are left. -/
structure CyC (s : Cy.Lg) (sa : Option Addr) (sk : Nat) (sb : Option Addr) (sl n cb tg cg : Nat) (T C : Nat → Int) (fl : Bool) (ix : Option Addr) (m k : Nat) (F : Nat → Int) (w W : World) : Prop where
  row : W.rowIs cb 137 7 (rowN [.slice sa s.n sk, .slice sb s.m sl, .bool s.fl, .slice (some ⟨tg, 0, none⟩) n n, .slice (some ⟨cg, 0, none⟩) n n, .bool fl, .slice ix m k])
  t : IsBlk 2 tg n T W
  c : IsBlk 2 cg n C W
  i : IsIn ix m F w ∧ m ≤ k
  o : tg ≠ cg ∧ w.heap.size ≤ tg ∧ w.heap.size ≤ cg ∧ w.heap.size ≤ cb
  old : Below w.heap.size w W
theorem CyC.below (h : CyC s sa sk sb sl n cb tg cg T C fl ix m k F w W) (hb : Below W.heap.size W W') : CyC s sa sk sb sl n cb tg cg T C fl ix m k F w W' :=
  ⟨nrow_below h.row hb, h.t.below hb, h.c.below hb, h.i, h.o, h.old.trans (hb.mono h.old.size)⟩
theorem CyC.putT (h : CyC s sa sk sb sl n cb tg cg T C fl ix m k F w W) (i : Nat) (x : Int) : CyC s sa sk sb sl n cb tg cg (updI T i x) C fl ix m k F w (W.setCell ⟨tg, i, none⟩ (.int .i64 x)) :=
  ⟨nrow_set h.row (p := ⟨tg, i, none⟩) (isblk_ne h.t h.row (by decide)) _, h.t.set i x, h.c.block (cyhs _ _ _ (Ne.symm h.o.1) _ _), h.i, h.o, h.old.setCell (p := ⟨tg, i, none⟩) h.o.2.1 _⟩
theorem CyC.putC (h : CyC s sa sk sb sl n cb tg cg T C fl ix m k F w W) (i : Nat) (x : Int) : CyC s sa sk sb sl n cb tg cg T (updI C i x) fl ix m k F w (W.setCell ⟨cg, i, none⟩ (.int .i64 x)) :=
  ⟨nrow_set h.row (p := ⟨cg, i, none⟩) (isblk_ne h.c h.row (by decide)) _, h.t.block (cyhs _ _ _ h.o.1 _ _), h.c.set i x, h.i, h.o, h.old.setCell (p := ⟨cg, i, none⟩) h.o.2.2.1 _⟩
theorem CyC.ne1 (h : CyC s sa sk sb sl n cb tg cg T C fl ix m k F w W) : cb ≠ tg := isblk_ne h.t h.row (by decide)
theorem CyC.ne2 (h : CyC s sa sk sb sl n cb tg cg T C fl ix m k F w W) : cb ≠ cg := isblk_ne h.c h.row (by decide)
theorem CyC.putI (h : CyC s sa sk sb sl n cb tg cg T C fl ix m k F w W) {iy : Option Addr} {m' k' : Nat} {F' : Nat → Int} (hi : IsIn iy m' F' w ∧ m' ≤ k') : CyC s sa sk sb sl n cb tg cg T C fl iy m' k' F' w (W.setCell ⟨cb, 6, none⟩ (.slice iy m' k')) :=
  ⟨rowN_put h.row 6 (.slice iy m' k') (by simp), h.t.block (cyhs _ _ _ (Ne.symm h.ne1) _ _), h.c.block (cyhs _ _ _ (Ne.symm h.ne2) _ _), hi, h.o, h.old.setCell (p := ⟨cb, 6, none⟩) h.o.2.2.2 _⟩
theorem CyC.fall (h : CyC s sa sk sb sl n cb tg cg T C fl ix m k F w W) (x : Bool) : CyC s sa sk sb sl n cb tg cg T C x ix m k F w (W.setCell ⟨cb, 5, none⟩ (.bool x)) :=
  ⟨rowN_put h.row 5 (.bool x) (by simp), h.t.block (cyhs _ _ _ (Ne.symm h.ne1) _ _), h.c.block (cyhs _ _ _ (Ne.symm h.ne2) _ _), h.i, h.o, h.old.setCell (p := ⟨cb, 5, none⟩) h.o.2.2.2 _⟩
theorem rowN7c {w : World} {g : Nat} {t : TypeId} {a b c d e f k : Value} (h : w.rowIs g t 7 (rowN [a, b, c, d, e, f, k])) : (w.cell? ⟨g, 0, none⟩ = some a ∧ w.cell? ⟨g, 1, none⟩ = some b ∧ w.cell? ⟨g, 2, none⟩ = some c ∧ w.cell? ⟨g, 3, none⟩ = some d ∧ w.cell? ⟨g, 4, none⟩ = some e ∧ w.cell? ⟨g, 5, none⟩ = some f ∧ w.cell? ⟨g, 6, none⟩ = some k) ∧ (w.frozen? ⟨g, 0, none⟩ = false ∧ w.frozen? ⟨g, 1, none⟩ = false ∧ w.frozen? ⟨g, 2, none⟩ = false ∧ w.frozen? ⟨g, 3, none⟩ = false ∧ w.frozen? ⟨g, 4, none⟩ = false ∧ w.frozen? ⟨g, 5, none⟩ = false ∧ w.frozen? ⟨g, 6, none⟩ = false) :=
  ⟨⟨h.cell (by omega), h.cell (by omega), h.cell (by omega), h.cell (by omega), h.cell (by omega), h.cell (by omega), h.cell (by omega)⟩, h.frozen 0, h.frozen 1, h.frozen 2, h.frozen 3, h.frozen 4, h.frozen 5, h.frozen 6⟩
end
theorem opp_any (x : Int) (w : World) (h : 0 ≤ x ∧ x ≤ 1) : Calls Tryz.prog 121 #[.int .i64 x] w fun e w' => e = .returned (.int .i64 (1 - x)) ∧ w' = w := by
  have h1 := h.1
  have h2 := h.2
  go_enter Tryz.func121, Tryz.ntmps121
  go_wp2_with fail
  go_ret
  exact ⟨rfl, rfl⟩
theorem truth_any (b : Bool) (w : World) : Calls Tryz.prog 144 #[.bool b] w fun e w' => e = .returned (.int .i64 (if b = true then 1 else 0)) ∧ w' = w := by
  cases b
  · go_enter Tryz.func144, Tryz.ntmps144
    go_wp2_with fail
    go_ret
    exact ⟨rfl, rfl⟩
  · go_enter Tryz.func144, Tryz.ntmps144
    go_wp2_with fail
    go_ret
    exact ⟨rfl, rfl⟩
theorem countOn_any (c x : Int) (w : World) (hc : 0 ≤ c ∧ c ≤ 101) (hx : 0 ≤ x ∧ x ≤ 1) : Calls Tryz.prog 143 #[.int .i64 c, .int .i64 x] w fun e w' => e = .returned (.int .i64 (if x = 1 then min 101 (c + 1) else 0)) ∧ w' = w := by
  have h1 := hc.1
  have h2 := hc.2
  have hx2 : x = 0 ∨ x = 1 := by omega
  by_cases hm : c + 1 ≤ 101
  · have e : min 101 (c + 1) = c + 1 := by omega
    rw [e]
    rcases hx2 with rfl | rfl
    · go_enter Tryz.func143, Tryz.ntmps143
      go_wp2_with fail
      go_ret
      exact ⟨by simp, rfl⟩
    · go_enter Tryz.func143, Tryz.ntmps143
      go_wp2_with fail
      go_ret
      exact ⟨by simp, rfl⟩
  · have e : min 101 (c + 1) = 101 := by omega
    rw [e]
    rcases hx2 with rfl | rfl
    · go_enter Tryz.func143, Tryz.ntmps143
      go_wp2_with fail
      go_ret
      exact ⟨by simp, rfl⟩
    · go_enter Tryz.func143, Tryz.ntmps143
      go_wp2_with fail
      go_ret
      exact ⟨by simp, rfl⟩
end Go.Proofs.YtgkdnpnnmmpnmaaGreatDoor
