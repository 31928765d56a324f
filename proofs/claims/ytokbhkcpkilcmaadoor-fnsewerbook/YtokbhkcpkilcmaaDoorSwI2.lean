/-
  The contracts of the program's copies of sewers and of numbers.
-/
import Derived.Test.YtokbhkcpkilcmaaDoorSwI1
import Derived.Lib.SliceRun
namespace Go.Proofs.YtokbhkcpkilcmaaDoor
open Go.RowKit Go.Deep

theorem info_rc : (Tryd.prog.info? 55).map (fun i => (i.zero, i.size, i.bytes)) = some (some (.agg #[.int .i64 0, .int .i64 0, .int .i64 0, .int .i64 0, .int .i64 0, .int .i64 0]), 6, 48) := by kernel_rfl
theorem info_i64 : (Tryd.prog.info? 2).map (fun i => (i.zero, i.size, i.bytes)) = some (some (.int .i64 0), 1, 8) := by kernel_rfl
theorem made_blk (w : World) (n : Nat) : InBlk w.heap.size n (fun _ => 0) (w.alloc (.cells (madeCells #[.int .i64 0] n) 2)) :=
  ⟨n, _, Nat.le_refl _, World.rowIs_made w (.int .i64 0) n 2, fun _ _ => rfl⟩
abbrev mkO (n : Nat) : Obj := .cells (madeCells #[.int .i64 0] n) 2
theorem RcBlk.alloc {g n : Nat} {rs : Nat → Sw.Rc} {w : World} (h : RcBlk g n rs w) (o : Obj) : RcBlk g n rs (w.alloc o) := h.block (blk_alloc_lt _ _ _ h.lt)
theorem IsBlk.alloc {T : TypeId} {g n : Nat} {f : Nat → Int} {w : World} (h : IsBlk T g n f w) (o : Obj) : IsBlk T g n f (w.alloc o) := h.block (blk_alloc_lt _ _ _ h.lt)
theorem InBlk.alloc {g n : Nat} {f : Nat → Int} {w : World} (h : InBlk g n f w) (o : Obj) : InBlk g n f (w.alloc o) := h.block (blk_alloc_lt _ _ _ h.lt)

set_option maxRecDepth 100000 in
set_option maxHeartbeats 2000000 in
theorem clone_any (b n cap : Nat) (rs : Nat → Sw.Rc) (w : World) (h : ∀ i, i < n → RcCells b (i * 6) (rs i) w) (hn : 1 ≤ n) (hn2 : n ≤ 40) :
    Calls Tryd.prog 64 #[.slice (some ⟨b, 0, none⟩) n cap] w fun e w' => (∃ g c, e = .returned (.slice (some ⟨g, 0, none⟩) n c) ∧ w.heap.size ≤ g ∧ RcBlk g n rs w') ∧ Below w.heap.size w w' := by
  obtain ⟨i0, hi, hz0, hz1, hz2⟩ := info_parts info_rc
  have q22 : ∀ (w : World) (a : Option Addr) (n c n' c' : Nat), (binOp .eql 25 (.slice a n c) (.slice none n' c')).run Tryd.prog w = .ok (.bool a.isNone) w := fun w a n c n' c' => Lib.run_eql_slice_nil w _ _ a n c n' c' Tryd.underlying25
  have H := Lib.hid h
  clear h
  go_enter Tryd.func64, Tryd.ntmps64
  go_wp2_with (at_builtin; refine wpList_append_own _ rfl _ _ 25 rfl w.heap.size 55 i0 (.agg #[.int .i64 0, .int .i64 0, .int .i64 0, .int .i64 0, .int .i64 0, .int .i64 0]) 6 48 Tryd.underlying25 hi hz0 hz1 hz2 rfl (by decide) _ _ _ rfl (World.ownsRow_made w #[] 0 (Nat.le_refl _) (Nat.zero_le _) rfl) ⟨b, 0, none⟩ n cap (inVs (scF rs) (n * 6)) rfl ?qc1 ?qc2 ?qc3 ?qc4 ?qc5 ?qc6 ?_)
  case qc1 => rw [inVs_len]
  case qc2 =>
    intro j u hj
    have hjn : j < n * 6 := by
      have := (List.getElem?_eq_some_iff.1 hj).1
      rw [inVs_len] at this
      exact this
    rw [Addr.add_lit]
    refine Lib.cell?_alloc_some _ ?_
    rw [Nat.zero_add, rccells_to H.out j hjn]
    rw [inVs_get _ hjn] at hj
    rw [← hj]
  case qc3 =>
    intro u hu
    obtain ⟨x, _, rfl⟩ := List.mem_map.1 hu
    rfl
  case qc4 => unfold maxLen; omega
  case qc5 => omega
  case qc6 => simp
  intro v' w1 hown hgrow hnil
  have HB : Hid (Below w.heap.size w w1) := ((Below.refl _ w).alloc (Nat.le_refl _) _).grown hgrow (by simp) (by intro k hk; simp [Value.ownBlock] at hk; omega)
  have hown' : w1.ownsRow w.heap.size 55 6 v' n (inVs (scF rs) (n * 6)) := by simpa using hown
  rcases own_flat hown' with ⟨rfl, _⟩ | ⟨g, c, rfl, hg, hblk⟩
  · exact absurd rfl hnil
  · have HBK : Hid (RcBlk g n rs w1) := hblk
    clear hown hown' hgrow hnil hblk
    go_wp2
    go_ret
    exact ⟨⟨g, c, rfl, hg, HBK.out⟩, HB.out⟩
set_option maxRecDepth 100000 in
set_option maxHeartbeats 2000000 in
theorem cloneI_any (b n cap : Nat) (f : Nat → Int) (w : World) (h : ∀ i, i < n → w.cell? ⟨b, i, none⟩ = some (.int .i64 (f i))) (hn : 1 ≤ n) (hn2 : n ≤ 400) :
    Calls Tryd.prog 56 #[.slice (some ⟨b, 0, none⟩) n cap] w fun e w' => (∃ g c, e = .returned (.slice (some ⟨g, 0, none⟩) n c) ∧ w.heap.size ≤ g ∧ InBlk g n f w') ∧ Below w.heap.size w w' := by
  obtain ⟨i0, hi, hz0, hz1, hz2⟩ := info_parts info_i64
  have q22 : ∀ (w : World) (a : Option Addr) (n c n' c' : Nat), (binOp .eql 23 (.slice a n c) (.slice none n' c')).run Tryd.prog w = .ok (.bool a.isNone) w := fun w a n c n' c' => Lib.run_eql_slice_nil w _ _ a n c n' c' Tryd.underlying23
  have H := Lib.hid h
  clear h
  go_enter Tryd.func56, Tryd.ntmps56
  go_wp2_with (at_builtin; refine wpList_append_own _ rfl _ _ 23 rfl w.heap.size 2 i0 (.int .i64 0) 1 8 Tryd.underlying23 hi hz0 hz1 hz2 rfl (by decide) _ _ _ rfl (World.ownsRow_made w #[] 0 (Nat.le_refl _) (Nat.zero_le _) rfl) ⟨b, 0, none⟩ n cap (inVs f n) rfl ?qc1 ?qc2 ?qc3 ?qc4 ?qc5 ?qc6 ?_)
  case qc1 => rw [inVs_len]; omega
  case qc2 =>
    intro j u hj
    have hjn : j < n := by
      have := (List.getElem?_eq_some_iff.1 hj).1
      rw [inVs_len] at this
      exact this
    rw [Addr.add_lit]
    refine Lib.cell?_alloc_some _ ?_
    rw [Nat.zero_add, H.out j hjn]
    rw [inVs_get _ hjn] at hj
    rw [← hj]
  case qc3 =>
    intro u hu
    obtain ⟨x, _, rfl⟩ := List.mem_map.1 hu
    rfl
  case qc4 => unfold maxLen; omega
  case qc5 => omega
  case qc6 => simp
  intro v' w1 hown hgrow hnil
  have HB : Hid (Below w.heap.size w w1) := ((Below.refl _ w).alloc (Nat.le_refl _) _).grown hgrow (by simp) (by intro k hk; simp [Value.ownBlock] at hk; omega)
  have hown' : w1.ownsRow w.heap.size 2 1 v' n (inVs f (n * 1)) := by simpa using hown
  rcases own_flat hown' with ⟨rfl, _⟩ | ⟨g, c, rfl, hg, hblk⟩
  · exact absurd rfl hnil
  · have HBK : Hid (InBlk g n f w1) := by rw [Nat.mul_one] at hblk; exact hblk
    clear hown hown' hgrow hnil hblk
    go_wp2
    go_ret
    exact ⟨⟨g, c, rfl, hg, HBK.out⟩, HB.out⟩
end Go.Proofs.YtokbhkcpkilcmaaDoor
