/-
  The contracts of the program's FrameRight and FrameText.
-/
import Derived.Test.YtngifalfeheilalDoorFrI1
import Derived.Test.YtngifalfeheilalDoorFrSpec
import Derived.Lib.ConvBytes
import Derived.Lib.AtoiErrMem
import Derived.Lib.AppendStr
import Derived.Laws.AppendOwn
import Derived.Laws.MakeOwn
namespace Go.Proofs.YtngifalfeheilalDoor
open Go.RowKit

set_option maxRecDepth 100000 in
set_option maxHeartbeats 1000000 in
theorem implFrRight (u k s : Int) (b : ByteArray) (w : World) :
    Calls Tryd.prog 34 #[.agg #[.int .i64 u, .int .i64 k, .int .i64 s, .string b]] w fun e w' => e = .returned (.bool (Fr.rightB u k s b.size)) ∧ Below w.heap.size w w' := by
  go_enter Tryd.func34, Tryd.ntmps34
  go_wp2_with fail
  all_goals
    go_ret
    refine ⟨?_, (Below.refl _ _).alloc (Nat.le_refl _) _⟩
    first
      | (show Ending.returned (Value.bool false) = _
         have e : Fr.rightB u k s b.size = false := by unfold Fr.rightB; apply decide_eq_false; omega
         rw [e])
      | (show Ending.returned (Value.bool (decide ((b.size : Int) ≤ 64))) = _
         have e : Fr.rightB u k s b.size = decide ((b.size : Int) ≤ 64) := by unfold Fr.rightB; apply decide_eq_decide.2; omega
         rw [e])

theorem info_by : (Tryd.prog.info? 5).map (fun i => (i.zero, i.size, i.bytes)) = some (some (.int .u8 0), 1, 1) := by kernel_rfl
def u8c (c : UInt8) : Value := .int .u8 c.toNat
theorem u8c_by8 (x : Int) (h0 : 0 ≤ x) (h1 : x < 256) : u8c (Fr.by8 x) = .int .u8 x := by unfold u8c; rw [Fr.by8_toNat x h0 h1]
/-- Bytes in a row of the function's own. -/
def OwnBy (B : Nat) (v : Value) (l : List UInt8) (W : World) : Prop := W.ownsRow B 5 1 v l.length (l.map u8c) ∧ v ≠ .slice none 0 0
theorem OwnBy.form {B : Nat} {v : Value} {l : List UInt8} {W : World} (h : OwnBy B v l W) : ∃ g cap, v = .slice (some ⟨g, 0, none⟩) l.length cap ∧ B ≤ g ∧ l.length ≤ cap ∧ ∀ j (hj : j < l.length), W.cell? ⟨g, j, none⟩ = some (.int .u8 l[j].toNat) := by
  obtain ⟨h', hn⟩ := h
  have hh := h'
  obtain ⟨h1, h2⟩ := h'
  rcases h2 with h2 | ⟨g, cap, cur, e1, e2, e3, e4, _⟩
  · exact absurd h2.1 hn
  · have hb : v.ownBlock = some g := by rw [e1]; rfl
    refine ⟨g, cap, e1, e2, e4, fun j hj => ?_⟩
    have c := hh.cells hb j (u8c l[j]) (by rw [List.getElem?_map, List.getElem?_eq_getElem hj]; rfl)
    have e : ((⟨g, 0, none⟩ : Addr).add j) = ⟨g, j, none⟩ := by unfold Addr.add; split <;> simp_all
    rw [e] at c
    exact c
theorem below_grown {B : Nat} {w W W' : World} {row : Option Nat} (h : Below B w W) (hs : B ≤ W.heap.size) (hg : W.grownBy W' row) (hr : ∀ k, row = some k → B ≤ k) : Below B w W' :=
  ⟨hg.os.trans h.os, hg.tape.trans h.tape, hg.output.trans h.output, Nat.le_trans h.size hg.size, fun k hk => (hg.block k (by omega) (fun e => by have := hr k e.symm; omega)).trans (h.block k hk)⟩
theorem run_make_by (n : Nat) (hn : n ≤ 1000) (wx : World) : (Instr.makeSlice 45 (.int .i64 0) (.int .i64 (6 + (n : Int) + 2))).run Tryd.prog wx = .ok (.slice (some ⟨wx.heap.size, 0, none⟩) 0 (6 + n + 2)) (wx.alloc (.cells (madeCells (Value.int .u8 0).cells (6 + n + 2)) 5)) := by
  obtain ⟨i0, hi, hz0, hz1, hz2⟩ := info_parts info_by
  have := run_make (P := Tryd.prog) wx 45 5 i0 (.int .u8 0) Tryd.underlying45 hi hz0 .i64 .i64 0 (6 + (n : Int) + 2) (by omega) (by omega) (by rw [hz2]; omega) (by omega)
  rw [this]
  have e : (6 + (n : Int) + 2).toNat = 6 + n + 2 := by omega
  rw [e, hz1]
  simp
theorem own_made (w wx : World) (g n : Nat) (hg : g = wx.heap.size) (hn : n ≤ 1000) (hb : w.heap.size ≤ wx.heap.size) : OwnBy w.heap.size (.slice (some ⟨g, 0, none⟩) 0 n) [] (wx.alloc (.cells (madeCells #[.int .u8 0] n) 5)) :=
  hg ▸   ⟨World.ownsRow_made wx _ n hb (by unfold maxLen; omega) (by rw [size_madeCells]; omega), by simp⟩

theorem six_cells (w : World) (a b c d e f : Value) (g : Nat) (hg : g = w.heap.size) : ∀ j u, [a, b, c, d, e, f][j]? = some u → (w.alloc (.cells #[a, b, c, d, e, f] 5)).cell? ((⟨g, 0, none⟩ : Addr).add j) = some u := by
  intro j u hu
  subst hg
  have hj : j = 0 ∨ j = 1 ∨ j = 2 ∨ j = 3 ∨ j = 4 ∨ j = 5 := by
    have := (List.getElem?_eq_some_iff.1 hu).1
    simp at this; omega
  rcases hj with rfl | rfl | rfl | rfl | rfl | rfl <;> (simp at hu; subst hu; simp [Addr.add])
theorem two_cells (w : World) (a b : Value) (g : Nat) (hg : g = w.heap.size) : ∀ j u, [a, b][j]? = some u → (w.alloc (.cells #[a, b] 5)).cell? ((⟨g, 0, none⟩ : Addr).add j) = some u := by
  intro j u hu
  subst hg
  have hj : j = 0 ∨ j = 1 := by
    have := (List.getElem?_eq_some_iff.1 hu).1
    simp at this; omega
  rcases hj with rfl | rfl <;> (simp at hu; subst hu; simp [Addr.add])

end Go.Proofs.YtngifalfeheilalDoor
