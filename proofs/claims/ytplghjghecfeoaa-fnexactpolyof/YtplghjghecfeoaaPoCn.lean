/-
  Lists of Cnums: rows, and the laws' conversions, comparisons and marks.
-/
import Derived.Test.YtplghjghecfeoaaPoTf
import Derived.Laws.AppendOwn
namespace Go.Proofs.Ytplghjghecfeoaa
open Go.RowKit Go.Deep

attribute [local go_sem] lrun_store_float lrun_store_complex
/-- Cnums that can be read. -/
def CnAt (a : Option Addr) (n : Nat) (c : Nat → Nat × Nat) (w : World) : Prop := n = 0 ∨ ∃ g, a = some ⟨g, 0, none⟩ ∧ ∀ i, i < n → w.cell? ⟨g, i * 2, none⟩ = some (.float .f64 (c i).1) ∧ w.cell? ⟨g, i * 2 + 1, none⟩ = some (.float .f64 (c i).2)
theorem CnAt.below {a : Option Addr} {n : Nat} {c : Nat → Nat × Nat} {w w' : World} (h : CnAt a n c w) (hb : Below w.heap.size w w') : CnAt a n c w' := by
  rcases h with h | ⟨b, h1, h2⟩
  · exact Or.inl h
  · exact Or.inr ⟨b, h1, fun i hi => ⟨(hb.cell (World.block_lt_of_cell? _ _ (h2 i hi).1)).trans (h2 i hi).1, (hb.cell (World.block_lt_of_cell? _ _ (h2 i hi).2)).trans (h2 i hi).2⟩⟩
theorem CnAt.at_ {a : Option Addr} {n i : Nat} {c : Nat → Nat × Nat} {w : World} (h : CnAt a n c w) (hi : i < n) : ∃ g, a = some ⟨g, 0, none⟩ ∧ w.cell? ⟨g, i * 2, none⟩ = some (.float .f64 (c i).1) ∧ w.cell? ⟨g, i * 2 + 1, none⟩ = some (.float .f64 (c i).2) := by
  rcases h with h | ⟨g, h1, h2⟩
  · omega
  · exact ⟨g, h1, h2 i hi⟩
/-- The first n, as cells. -/
def cnl (c : Nat → Nat × Nat) : Nat → List Value
  | 0 => []
  | n + 1 => cnl c n ++ [.float .f64 (c n).1, .float .f64 (c n).2]
theorem cnl_len (c : Nat → Nat × Nat) : ∀ n, (cnl c n).length = n * 2
  | 0 => rfl
  | n + 1 => by show (cnl c n ++ _).length = _; rw [List.length_append, cnl_len c n]; simp; omega
theorem cnl_at (c : Nat → Nat × Nat) : ∀ n i, i < n → (cnl c n)[i * 2]? = some (.float .f64 (c i).1) ∧ (cnl c n)[i * 2 + 1]? = some (.float .f64 (c i).2)
  | 0, i, h => absurd h (by omega)
  | n + 1, i, h => by
    show (cnl c n ++ _)[i * 2]? = _ ∧ (cnl c n ++ _)[i * 2 + 1]? = _
    by_cases e : i = n
    · subst e
      rw [List.getElem?_append_right (by rw [cnl_len]; omega), List.getElem?_append_right (by rw [cnl_len]; omega), cnl_len]
      have e1 : i * 2 - i * 2 = 0 := by omega
      have e2 : i * 2 + 1 - i * 2 = 1 := by omega
      rw [e1, e2]
      exact ⟨rfl, rfl⟩
    · have := cnl_at c n i (by omega)
      rw [List.getElem?_append_left (by rw [cnl_len]; omega), List.getElem?_append_left (by rw [cnl_len]; omega)]
      exact this
abbrev OwnC (B : Nat) (v : Value) (n : Nat) (c : Nat → Nat × Nat) (W : World) : Prop := W.ownsRow B 25 2 v n (cnl c n)
theorem OwnC.row {B : Nat} {v : Value} {n : Nat} {c : Nat → Nat × Nat} {W : World} (h : OwnC B v n c W) : (v = .slice none 0 0 ∧ n = 0) ∨ ∃ g cap F, v = .slice (some ⟨g, 0, none⟩) n cap ∧ B ≤ g ∧ n ≤ cap ∧ cap ≤ maxLen ∧ W.rowIs g 25 (cap * 2) F ∧ ∀ i, i < n → F (i * 2) = .float .f64 (c i).1 ∧ F (i * 2 + 1) = .float .f64 (c i).2 := by
  obtain ⟨h1, h2⟩ := h
  rcases h2 with h2 | ⟨g, cap, cur, e1, e2, e3, e4, e5, e6, e7⟩
  · exact Or.inl h2
  · refine Or.inr ⟨g, cap, fun i => cur[i]?.getD undef, e1, e2, e4, e5, ?_, fun i hi => ?_⟩
    · refine ⟨cur, e3, e6, fun i hi => ?_⟩
      have : i < cur.size := by omega
      simp [this]
    · obtain ⟨hx, hy⟩ := cnl_at c n i hi
      rw [← e7, List.getElem?_take_of_lt (by omega)] at hx hy
      simp at hx hy
      simp [hx, hy]
theorem rowC_of {B : Nat} {g n cap : Nat} {F : Nat → Value} {c : Nat → Nat × Nat} {W : World} (h : W.rowIs g 25 (cap * 2) F) (hn : n ≤ cap) (hc : cap ≤ maxLen) (hB : B ≤ g) (hF : ∀ i, i < n → F (i * 2) = .float .f64 (c i).1 ∧ F (i * 2 + 1) = .float .f64 (c i).2) : OwnC B (.slice (some ⟨g, 0, none⟩) n cap) n c W := by
  obtain ⟨cur, h1, h2, h3⟩ := h
  refine ⟨cnl_len _ _, Or.inr ⟨g, cap, cur, rfl, hB, h1, hn, hc, h2, ?_⟩⟩
  apply List.ext_getElem?
  intro j
  by_cases hj : j < n * 2
  · rw [List.getElem?_take_of_lt hj]
    have h4 := h3 j (by omega)
    have hd : j = j / 2 * 2 ∨ j = j / 2 * 2 + 1 := by omega
    have hat := cnl_at c n (j / 2) (by omega)
    have hf := hF (j / 2) (by omega)
    rcases hd with e | e
    · rw [e] at h4 ⊢
      rw [hat.1]
      rw [hf.1] at h4
      simpa using h4
    · rw [e] at h4 ⊢
      have e2 : (j / 2 * 2 + 1) / 2 = j / 2 := by omega
      rw [hat.2]
      rw [hf.2] at h4
      simpa using h4
  · rw [List.getElem?_eq_none (by simp; omega), List.getElem?_eq_none (by rw [cnl_len]; omega)]
theorem OwnC.sl {B : Nat} {v : Value} {n : Nat} {c : Nat → Nat × Nat} {W : World} (h : OwnC B v n c W) : ∃ a k, v = .slice a n k ∧ CnAt a n c W := by
  rcases h.row with ⟨rfl, rfl⟩ | ⟨g, cap, F, rfl, _, hn, _, hr, hf⟩
  · exact ⟨none, 0, rfl, Or.inl rfl⟩
  · refine ⟨_, cap, rfl, Or.inr ⟨g, rfl, fun i hi => ⟨?_, ?_⟩⟩⟩
    · rw [hr.cell (by omega), (hf i hi).1]
    · rw [hr.cell (by omega), (hf i hi).2]
theorem cgrown_of_below {W W' : World} (hb : Below W.heap.size W W') (row : Option Nat) : W.grownBy W' row := ⟨hb.os, hb.tape, hb.output, hb.size, fun k hk _ => hb.block k hk⟩
theorem OwnC.below {B : Nat} {v : Value} {n : Nat} {c : Nat → Nat × Nat} {W W' : World} (h : OwnC B v n c W) (hb : Below W.heap.size W W') : OwnC B v n c W' := by
  refine World.ownsRow.kept h (cgrown_of_below hb none) ?_
  cases hv : v.ownBlock with
  | none => exact Or.inl rfl
  | some k => exact Or.inr (by simp)
theorem linfo_cn : (Try.prog.info? 25).map (fun i => (i.zero, i.size, i.bytes)) = some (some (.agg #[.float .f64 0, .float .f64 0]), 2, 16) := by kernel_rfl
theorem mk_Cn (n : Nat) (hn : n ≤ 1048576) (w : World) : (Instr.makeSlice 44 (.int .i64 (n : Int)) (.int .i64 (n : Int))).run Try.prog w = .ok (.slice (some ⟨w.heap.size, 0, none⟩) n n) (w.alloc (.cells (madeCells #[.float .f64 0, .float .f64 0] (n * 2)) 25)) := by
  obtain ⟨i0, hi, hz0, hz1, hz2⟩ := info_parts linfo_cn
  have := run_make (P := Try.prog) w 44 25 i0 _ Try.underlying44 hi hz0 .i64 .i64 n n (by omega) (Int.le_refl _) (by rw [hz2]; omega) (by omega)
  rw [hz1] at this
  simp only [Int.toNat_natCast] at this
  exact this
theorem made_cn (w : World) (n : Nat) : (w.alloc (.cells (madeCells #[.float .f64 0, .float .f64 0] (n * 2)) 25)).rowIs w.heap.size 25 (n * 2) (fun _ => .float .f64 0) := by
  refine ⟨_, blk_alloc_new _ _, size_madeCells _ _, fun i hi => ?_⟩
  have h5 : i % 2 = 0 ∨ i % 2 = 1 := by omega
  rcases h5 with e | e <;> simp [madeCells, hi, e]
/-- The first i are there. -/
def CnPart (g N i : Nat) (c : Nat → Nat × Nat) (w : World) : Prop := ∃ F, w.rowIs g 25 (N * 2) F ∧ ∀ j, j < i → F (j * 2) = .float .f64 (c j).1 ∧ F (j * 2 + 1) = .float .f64 (c j).2
theorem CnPart.put {g N i : Nat} {c : Nat → Nat × Nat} {w : World} (h : CnPart g N i c w) : CnPart g N (i + 1) c ((w.setCell ⟨g, i * 2, none⟩ (.float .f64 (c i).1)).setCell ⟨g, i * 2 + 1, none⟩ (.float .f64 (c i).2)) := by
  obtain ⟨F, h1, h2⟩ := h
  refine ⟨_, (h1.set (i * 2) _).set (i * 2 + 1) _, fun j hj => ?_⟩
  by_cases e : j = i
  · subst e
    simp
  · have a1 : ¬ j * 2 = i * 2 + 1 := by omega
    have a2 : ¬ j * 2 = i * 2 := by omega
    have a3 : ¬ j * 2 + 1 = i * 2 + 1 := by omega
    have a4 : ¬ j * 2 + 1 = i * 2 := by omega
    rw [if_neg a1, if_neg a2, if_neg a3, if_neg a4]
    exact h2 j (by omega)
theorem CnPart.at_ {g N i : Nat} {c : Nat → Nat × Nat} {w : World} (h : CnPart g N i c w) (hi : i < N) : (∃ a b, w.cell? ⟨g, i * 2, none⟩ = some a ∧ w.cell? ⟨g, i * 2 + 1, none⟩ = some b) ∧ (w.frozen? ⟨g, i * 2, none⟩ = false ∧ w.frozen? ⟨g, i * 2 + 1, none⟩ = false) ∧ g < w.heap.size := by
  obtain ⟨F, h1, _⟩ := h
  exact ⟨⟨_, _, h1.cell (by omega), h1.cell (by omega)⟩, ⟨h1.frozen _, h1.frozen _⟩, h1.lt⟩
theorem CnPart.below {g N i : Nat} {c : Nat → Nat × Nat} {w w' : World} (h : CnPart g N i c w) (hb : Below w.heap.size w w') : CnPart g N i c w' := by obtain ⟨F, h1, h2⟩ := h; exact ⟨F, wrow_below h1 hb, h2⟩
set_option maxRecDepth 100000 in
set_option maxHeartbeats 2000000 in
theorem toCns_own (a : Option Addr) (n cap : Nat) (f h : Nat → Nat) (w : World) (hh : CnIn a n f h w) (hn : n ≤ 1048576) :
    Calls Try.prog 27 #[.slice a n cap] w fun e w' => e = .returned (.slice (some ⟨w.heap.size, 0, none⟩) n n) ∧ OwnC w.heap.size (.slice (some ⟨w.heap.size, 0, none⟩) n n) n (fun i => (f i, h i)) w' ∧ Below w.heap.size w w' := by
  have hmk := mk_Cn n hn
  have H := Lib.hid hh
  have HST : Hid (CnPart w.heap.size n 0 (fun i => (f i, h i)) (w.alloc (.cells (madeCells #[.float .f64 0, .float .f64 0] (n * 2)) 25))) := ⟨_, made_cn w n, fun j hj => absurd hj (by omega)⟩
  clear hh
  go_enter Try.func27, Try.ntmps27
  go_wp2_with fail
  clear hmk
  go_loopw [4] (fun iv wr => ∃ (i : Nat), i ≤ n ∧ iv = .int .i64 i ∧ Hid (CnPart w.heap.size n i (fun i => (f i, h i)) wr) ∧ Hid (Below w.heap.size w wr)) (fun iv _ => n - (intOf iv).toNat)
  case atStart => exact ⟨0, Nat.zero_le _, rfl, HST, (Below.refl _ _).alloc (Nat.le_refl _) _⟩
  case round =>
    obtain ⟨i, hi, rfl, hP, hB⟩ := hrel
    clear HST
    by_cases hlt : i < n
    · have hltz : (i : Int) < (n : Int) := by omega
      have hi00 : (0 : Int) ≤ (i : Int) := by omega
      rcases H.out.below hB.out with h0 | ⟨b, o, rfl, hc⟩
      · omega
      obtain ⟨c0, c1⟩ := hc i hlt
      clear hc
      go_wp2_with fail
      refine (toCnum_any _ _ _).mono ?_
      rintro e w1 ⟨rfl, hb⟩
      have hP1 := hP.out.below hb
      have HB1 : Hid (Below w.heap.size w w1) := hB.out.trans (hb.mono hB.out.size)
      have HP2 := Lib.hid hP1.put
      obtain ⟨⟨x0, x1, y0, y1⟩, ⟨z0, z1⟩, hz⟩ := hP1.at_ hlt
      clear hP1 hb hP hB c0 c1
      go_wp2_with fail
      go_roundw
      case rel => exact ⟨i + 1, by omega, by go_num, HP2, (HB1.out.setCell (p := ⟨w.heap.size, _, none⟩) (Nat.le_refl _) _).setCell (p := ⟨w.heap.size, _, none⟩) (Nat.le_refl _) _⟩
      case measure => simp [intOf]; omega
    · obtain rfl : i = n := by omega
      go_wp2_with fail
      go_ret
      obtain ⟨F, q1, q2⟩ := hP.out
      exact ⟨rfl, rowC_of q1 (Nat.le_refl _) (by unfold maxLen; omega) (Nat.le_refl _) q2, hB.out⟩
end Go.Proofs.Ytplghjghecfeoaa
