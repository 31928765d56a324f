/-
  The contracts of the program's copy of a river and of the answer of no step.
-/
import Derived.Test.YtdpghhmcibiplaaDoorRvI1
import Derived.Lib.SliceRun
namespace Go.Proofs.YtdpghhmcibiplaaDoor
open Go.RowKit Go.Deep

theorem info_rc : (Tryd.prog.info? 43).map (fun i => (i.zero, i.size, i.bytes)) = some (some (.agg #[.int .i64 0, .int .i64 0, .int .i64 0, .int .i64 0, .int .i64 0]), 5, 40) := by kernel_rfl
theorem info_i64 : (Tryd.prog.info? 2).map (fun i => (i.zero, i.size, i.bytes)) = some (some (.int .i64 0), 1, 8) := by kernel_rfl

theorem rc_cell {b n : Nat} {rs : Nat → Rv.Rc} {w : World} (h : ∀ i, i < n → RcCells b (i * 5) (rs i) w) (j : Nat) (hj : j < n * 5) : w.cell? ⟨b, j, none⟩ = some (rcRow rs j) := by
  obtain ⟨c0, c1, c2, c3, c4⟩ := h (j / 5) (by omega)
  have hk : j % 5 = 0 ∨ j % 5 = 1 ∨ j % 5 = 2 ∨ j % 5 = 3 ∨ j % 5 = 4 := by omega
  unfold rcRow
  rcases hk with e | e | e | e | e
  · rw [e]; have : j = j / 5 * 5 := by omega
    rw [← this] at c0; exact c0
  · rw [e]; have : j = j / 5 * 5 + 1 := by omega
    rw [← this] at c1; exact c1
  · rw [e]; have : j = j / 5 * 5 + 2 := by omega
    rw [← this] at c2; exact c2
  · rw [e]; have : j = j / 5 * 5 + 3 := by omega
    rw [← this] at c3; exact c3
  · rw [e]; have : j = j / 5 * 5 + 4 := by omega
    rw [← this] at c4; exact c4

theorem made_blk (w : World) (n : Nat) : InBlk w.heap.size n (fun _ => 0) (w.alloc (.cells (madeCells #[.int .i64 0] n) 2)) :=
  ⟨n, _, Nat.le_refl _, World.rowIs_made w (.int .i64 0) n 2, fun _ _ => rfl⟩
abbrev mkO (n : Nat) : Obj := .cells (madeCells #[.int .i64 0] n) 2
theorem RcBlk.alloc {g n : Nat} {rs : Nat → Rv.Rc} {w : World} (h : RcBlk g n rs w) (o : Obj) : RcBlk g n rs (w.alloc o) := h.block (blk_alloc_lt _ _ _ h.lt)
theorem InBlk.alloc {g n : Nat} {f : Nat → Int} {w : World} (h : InBlk g n f w) (o : Obj) : InBlk g n f (w.alloc o) := h.block (blk_alloc_lt _ _ _ h.lt)

set_option maxRecDepth 100000 in
set_option maxHeartbeats 2000000 in
theorem clone_any (b n cap : Nat) (rs : Nat → Rv.Rc) (w : World) (h : ∀ i, i < n → RcCells b (i * 5) (rs i) w) (hn : 1 ≤ n) (hn2 : n ≤ 40) :
    Calls Tryd.prog 123 #[.slice (some ⟨b, 0, none⟩) n cap] w fun e w' => (∃ g c, e = .returned (.slice (some ⟨g, 0, none⟩) n c) ∧ w.heap.size ≤ g ∧ RcBlk g n rs w') ∧ Below w.heap.size w w' := by
  obtain ⟨i0, hi, hz0, hz1, hz2⟩ := info_parts info_rc
  have q22 : ∀ (w : World) (a : Option Addr) (n c n' c' : Nat), (binOp .eql 25 (.slice a n c) (.slice none n' c')).run Tryd.prog w = .ok (.bool a.isNone) w := fun w a n c n' c' => Lib.run_eql_slice_nil w _ _ a n c n' c' Tryd.underlying25
  have H := Lib.hid h
  clear h
  go_enter Tryd.func123, Tryd.ntmps123
  go_wp2_with (at_builtin; refine wpList_append_own _ rfl _ _ 25 rfl w.heap.size 43 i0 (.agg #[.int .i64 0, .int .i64 0, .int .i64 0, .int .i64 0, .int .i64 0]) 5 40 Tryd.underlying25 hi hz0 hz1 hz2 rfl (by decide) _ _ _ rfl (World.ownsRow_made w #[] 0 (Nat.le_refl _) (Nat.zero_le _) rfl) ⟨b, 0, none⟩ n cap ((listOf rs n).flatMap rcCells) rfl ?qc1 ?qc2 ?qc3 ?qc4 ?qc5 ?qc6 ?_)
  case qc1 => rw [rcCells_len, listOf_len]
  case qc2 =>
    intro j u hj
    have hjn : j < n * 5 := by
      have := (List.getElem?_eq_some_iff.1 hj).1
      rw [rcCells_len, listOf_len] at this
      exact this
    rw [Addr.add_lit]
    refine Lib.cell?_alloc_some _ ?_
    rw [Nat.zero_add, rc_cell H.out j hjn]
    rw [rcCells_get _ _ (by rw [listOf_len]; exact hjn)] at hj
    rw [← hj]
    unfold rcRow; rw [rcList_of rs (by omega)]
  case qc3 =>
    intro u hu
    obtain ⟨x, _, hx⟩ := List.mem_flatMap.1 hu
    simp [rcCells] at hx
    rcases hx with rfl | rfl | rfl | rfl | rfl <;> rfl
  case qc4 => unfold maxLen; omega
  case qc5 => omega
  case qc6 => simp
  intro v' w1 hown hgrow hnil
  have HB : Hid (Below w.heap.size w w1) := ((Below.refl _ w).alloc (Nat.le_refl _) _).grown hgrow (by simp) (by intro k hk; simp [Value.ownBlock] at hk; omega)
  have hown' : w1.ownsRow w.heap.size 43 5 v' (listOf rs n).length ((listOf rs n).flatMap rcCells) := by
    rw [listOf_len]; simpa using hown
  rcases own_rcs hown' with ⟨rfl, _⟩ | ⟨g, c, rfl, hg, hblk⟩
  · exact absurd rfl hnil
  · rw [listOf_len] at *
    have HBK : Hid (RcBlk g n rs w1) := hblk.congr (fun j hj => rcList_of rs hj)
    clear hown hown' hgrow hnil hblk
    go_wp2
    go_ret
    exact ⟨⟨g, c, rfl, hg, HBK.out⟩, HB.out⟩
end Go.Proofs.YtdpghhmcibiplaaDoor
