/-
  The program's product by one factor.
-/
import Derived.Test.YtplghjghecfeoaaPoMath
import Derived.Laws.CopyOwn
import Derived.Deep.WholeRow
namespace Go.Proofs.Ytplghjghecfeoaa
open Go.RowKit Go.Deep

attribute [local go_sem] lrun_store_float lrun_store_complex
theorem linfo_c128 : (Try.prog.info? 51).map (fun i => (i.zero, i.size, i.bytes)) = some (some (.complex .f64 0 0), 1, 16) := by kernel_rfl
abbrev cxV (p : Nat × Nat) : Value := .complex .f64 p.1 p.2
/-- Complex numbers in a row of their own. -/
def CxRow (g n : Nat) (c : Nat → Nat × Nat) (w : World) : Prop := ∃ M, n ≤ M ∧ ∃ F, w.rowIs g 51 M F ∧ ∀ i, i < n → F i = cxV (c i)
theorem CxRow.cell {g n i : Nat} {c : Nat → Nat × Nat} {w : World} (h : CxRow g n c w) (hi : i < n) : w.cell? ⟨g, i, none⟩ = some (cxV (c i)) := by
  obtain ⟨M, h1, F, h2, h3⟩ := h
  rw [h2.cell (i := i) (by omega), h3 i hi]
theorem CxRow.lt {g n : Nat} {c : Nat → Nat × Nat} {w : World} (h : CxRow g n c w) : g < w.heap.size := by obtain ⟨M, h1, F, h2, h3⟩ := h; exact h2.lt
theorem CxRow.below {g n : Nat} {c : Nat → Nat × Nat} {w w' : World} (h : CxRow g n c w) (hb : Below w.heap.size w w') : CxRow g n c w' := by obtain ⟨M, h1, F, h2, h3⟩ := h; exact ⟨M, h1, F, wrow_below h2 hb, h3⟩
theorem rowIs_congr' {W : World} {g : Nat} {t : TypeId} {n n' : Nat} {F G : Nat → Value} (h : W.rowIs g t n F) (hn : n = n') (hF : ∀ j, j < n' → F j = G j) : W.rowIs g t n' G := by subst hn; exact h.congr hF
theorem size_c128 : (Try.prog.info? 51).map (·.size) = some 1 := by kernel_rfl
theorem made_list (z : Value) (n : Nat) : (madeCells #[z] n).toList = List.replicate n z := by
  apply List.ext_getElem?
  intro i
  by_cases hi : i < n
  · simp [madeCells, hi, Nat.mod_one]
  · rw [List.getElem?_eq_none (by rw [Array.length_toList, size_madeCells]; omega), List.getElem?_eq_none (by simp; omega)]
/-- The coefs, as values. -/
def cxs (c : Nat → Nat × Nat) (n : Nat) : List Value := (List.range n).map (fun i => cxV (c i))
theorem cxs_len (c : Nat → Nat × Nat) (n : Nat) : (cxs c n).length = n := by simp [cxs]
theorem cxs_at {c : Nat → Nat × Nat} {n i : Nat} (h : i < n) : (cxs c n)[i]? = some (cxV (c i)) := by simp [cxs, h]
theorem ccopy_eq (W : World) (g N c : Nat) (f : Nat → Nat × Nat) (h : ∀ i, i < N → W.cell? ⟨g, i, none⟩ = some (cxV (f i))) :
    (Builtin.copy_ #[59, 59] 3 #[.slice (some ⟨W.heap.size, 1, none⟩) N N, .slice (some ⟨g, 0, none⟩) N c]).run Try.prog (W.alloc (.cells (madeCells #[.complex .f64 0 0] (N + 1)) 51)) = .ok (goInt (N : Int)) (W.alloc (.cells (Value.complex .f64 0 0 :: cxs f N).toArray 51)) := by
  have hl : (cxs f N).length = Nat.min N N := by rw [cxs_len]; exact (Nat.min_self N).symm
  rw [run_copy_row (P := Try.prog) (W.alloc (.cells (madeCells #[.complex .f64 0 0] (N + 1)) 51)) 59 59 3 51 W.heap.size 1 N N ⟨g, 0, none⟩ N c (madeCells #[.complex .f64 0 0] (N + 1)) 51 (cxs f N) Try.underlying59 size_c128 (blk_alloc_new _ _) hl ?_ (by rw [cxs_len, size_madeCells]; omega) ?_]
  · have e : ((madeCells #[.complex .f64 0 0] (N + 1)).toList.take 1 ++ cxs f N ++ (madeCells #[.complex .f64 0 0] (N + 1)).toList.drop (1 + (cxs f N).length)) = Value.complex .f64 0 0 :: cxs f N := by
      rw [cxs_len, List.drop_eq_nil_of_le (by rw [Array.length_toList, size_madeCells]; omega), made_list]
      simp [List.take_replicate]
    rw [e, World.setRow_alloc_new, cxs_len]
  · intro j v hj
    have hjn : j < N := by
      have := (List.getElem?_eq_some_iff.1 hj).1
      rw [cxs_len] at this; exact this
    rw [cxs_at hjn] at hj
    rw [Addr.add_lit, Nat.zero_add, World.cell?_alloc_lt _ _ _ (World.block_lt_of_cell? _ _ (h j hjn)), h j hjn, hj]
  · intro v hv
    unfold cxs at hv
    obtain ⟨j, _, rfl⟩ := List.mem_map.1 hv
    rfl
set_option maxRecDepth 100000 in
set_option maxHeartbeats 4000000 in
theorem timesF_any (g m c : Nat) (r s : Nat → Nat) (w : World) (h : CxRow g (m + 1) (Fl.pf r s m) w) (hr : Fl.rights r s (m + 1)) (hm : m + 1 ≤ 15) :
    Calls Try.prog 46 #[.slice (some ⟨g, 0, none⟩) (m + 1) c, .complex .f64 (r m) (s m)] w fun e w' => e = .returned (.slice (some ⟨w.heap.size, 0, none⟩) (m + 2) (m + 2)) ∧ CxRow w.heap.size (m + 2) (Fl.pf r s (m + 1)) w' ∧ Below w.heap.size w w' := by
  obtain ⟨N, hN⟩ : ∃ N, N = m + 1 := ⟨_, rfl⟩
  have hmk := run_make_row' (P := Try.prog) 59 51 (.complex .f64 0 0) 16 Try.underlying59 linfo_c128 rfl .i64 .i64 (N + 1) (by omega) (by omega)
  have HST := Lib.hid (fun k => Fl.pf_step k hr hm)
  have HLL := Lib.hid (Fl.low_last m hr)
  have H := Lib.hid h
  have HGL := Lib.hid h.lt
  have HN := Lib.hid hN
  have hN15 : N ≤ 15 := by omega
  have hN1 : ¬ N = 0 := by omega
  rw [← hN]
  have e2 : m + 2 = N + 1 := by omega
  rw [e2]
  clear h hr hm hN e2
  have hmk' : ∀ wx, (Instr.makeSlice 59 (.int .i64 ((N : Int) + 1)) (.int .i64 ((N : Int) + 1))).run Try.prog wx = .ok (.slice (some ⟨wx.heap.size, 0, none⟩) (N + 1) (N + 1)) (wx.alloc (.cells (madeCells #[.complex .f64 0 0] (N + 1)) 51)) := fun wx => hmk wx
  have hcp := ccopy_eq w g N c (Fl.pf r s m) (fun i hi => H.out.cell (by have := HN.out; omega))
  clear hmk
  have HR0 : Hid (∀ V, V = w.alloc (.cells (Value.complex .f64 0 0 :: cxs (Fl.pf r s m) N).toArray 51) → V.rowIs w.heap.size 51 (N + 1) (fun j => cxV (Fl.low r s m j)) ∧ Below w.heap.size w V) := fun V hV => by
    rw [hV]
    refine ⟨rowIs_congr' (rowL_alloc w (Value.complex .f64 0 0 :: cxs (Fl.pf r s m) N) _) (by simp [cxs_len]) (fun j hj => ?_), bel_alloc _ _⟩
    unfold rowL Fl.low
    cases j with
    | zero => rfl
    | succ j =>
      rw [if_neg (by omega)]
      have : (cxs (Fl.pf r s m) N)[j]? = some (cxV (Fl.pf r s m j)) := cxs_at (by omega)
      simp [this]
  obtain ⟨W2, hW2⟩ : ∃ W2, W2 = w.alloc (.cells (Value.complex .f64 0 0 :: cxs (Fl.pf r s m) N).toArray 51) := ⟨_, rfl⟩
  have HRB := Lib.hid (HR0.out W2 hW2)
  rw [← hW2] at hcp
  clear HR0 hW2
  go_enter Try.func46, Try.ntmps46
  go_wp2_with fail
  clear hmk' hcp
  go_loopw [18] (fun iv wr => ∃ k : Nat, k ≤ N ∧ iv = .int .i64 k ∧ Hid (wr.rowIs w.heap.size 51 (N + 1) (fun j => cxV (if j < k then Fl.pf r s (m + 1) j else Fl.low r s m j)) ∧ Below w.heap.size w wr)) (fun iv _ => N - (intOf iv).toNat)
  case atStart => exact ⟨0, Nat.zero_le _, rfl, HRB.out.1.congr (fun j _ => by rw [if_neg (by omega)]), HRB.out.2⟩
  case round =>
    obtain ⟨k, hk, rfl, HQ⟩ := hrel
    clear HRB
    by_cases hlt : k < N
    · have hltz : (k : Int) < (N : Int) := by omega
      have hltz1 : (k : Int) < (N : Int) + 1 := by omega
      have hk00 : (0 : Int) ≤ (k : Int) := by omega
      have hst := HST.out k
      have ho : Fl.own r s m k = Fl.pf r s m k := Fl.own_in (by have := HN.out; omega)
      obtain ⟨q, hmul⟩ := hst.mul
      have hbt := hst.bits
      rw [ho] at hmul hbt
      have q1 := fun (wx : World) => run_complex_mul (P := Try.prog) (w := wx) 51 (Fl.pf r s m k).1 (Fl.pf r s m k).2 (r m) (s m) _ _ hmul.bits
      have q2 := fun (wx : World) => run_complex_sum (P := Try.prog) (w := wx) .sub (Or.inr rfl) 51 .f64 _ _ _ _ _ _ hbt
      have c0 : wr.cell? ⟨g, k, none⟩ = some (.complex .f64 (Fl.pf r s m k).1 (Fl.pf r s m k).2) := (HQ.out.2.cell (p := ⟨g, k, none⟩) HGL.out).trans (H.out.cell (by have := HN.out; omega))
      have c1 : wr.cell? ⟨w.heap.size, k, none⟩ = some (.complex .f64 (Fl.low r s m k).1 (Fl.low r s m k).2) := by
        have := HQ.out.1.cell (i := k) (by omega)
        rw [if_neg (by omega)] at this
        exact this
      have z1 := HQ.out.1.frozen k
      have l1 := HQ.out.1.lt
      clear hst ho hmul hbt
      go_wp2_with fail
      go_roundw
      case rel =>
        refine ⟨k + 1, by omega, by go_num, (HQ.out.1.set k _).congr (fun j hj => ?_), HQ.out.2.setCell (p := ⟨w.heap.size, k, none⟩) (Nat.le_refl _) _⟩
        by_cases e : j = k
        · subst e; rw [if_pos rfl, if_pos (by omega)]
        · rw [if_neg e]
          by_cases e2 : j < k
          · rw [if_pos e2, if_pos (by omega)]
          · rw [if_neg e2, if_neg (by omega)]
      case measure => simp [intOf]; omega
    · obtain rfl : k = N := by omega
      go_wp2_with fail
      go_ret
      refine ⟨rfl, ⟨k + 1, Nat.le_refl _, _, HQ.out.1, fun j hj => ?_⟩, HQ.out.2⟩
      have hkm := HN.out
      by_cases e : j < k
      · rw [if_pos e, hkm]
      · rw [if_neg e]
        have e3 : j = m + 1 := by omega
        rw [e3, HLL.out, hkm]
end Go.Proofs.Ytplghjghecfeoaa
