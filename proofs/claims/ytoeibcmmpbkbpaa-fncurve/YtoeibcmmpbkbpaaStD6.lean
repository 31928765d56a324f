/-
  The draw of a store.
-/
import Derived.Test.YtoeibcmmpbkbpaaStD3
namespace Go.Proofs.Ytoeibcmmpbkbpaa
open Go.RowKit Go.Deep

/-- What a drawn store looks like. -/
def DtEnd (w : World) (e : Ending) (W : World) : Prop := ∃ ca cn ck ra rn rk v c r, e = .returned (.agg #[.slice ca cn ck, .slice ra rn rk, .int .i64 v]) ∧ (cn ≤ 31 ∧ rn ≤ 4) ∧ (PrsAt ca cn c W ∧ PrsAt ra rn r W) ∧ Below w.heap.size w W
set_option maxRecDepth 100000 in
set_option maxHeartbeats 4000000 in
theorem drawStore_any (a : Option Addr) (len cap : Nat) (w : World) (h : Bytes a len w) (hl : len ≤ 1048576) :
    Calls Try.prog 6 #[.slice a len cap] w fun e w' => DtEnd w e w' := by
  obtain ⟨W0, hW0⟩ : ∃ W0, W0 = w.alloc (.cells #[.slice none 0 0, .slice none 0 0, .int .i64 0] 26) := ⟨_, rfl⟩
  have hb0 : Below w.heap.size w W0 := by rw [hW0]; exact (Below.refl _ _).alloc (Nat.le_refl _) _
  have hr0 : W0.rowIs w.heap.size 26 3 (d3 (.slice none 0 0) (.slice none 0 0) (.int .i64 0)) := by rw [hW0]; exact drow3 w _ _ _ _
  have H := Lib.hid (h.below hb0)
  have HW0 := Lib.hid hW0
  have HB0 := Lib.hid hb0
  have HR0 := Lib.hid hr0
  clear h hW0 hb0 hr0
  go_enter Try.func6, Try.ntmps6
  go_wp2_with fail
  rw [← HW0.out]
  refine (source_any a len cap _ H.out (by omega)).mono ?_
  rintro e W1 ⟨rfl, hsrc, hb1⟩
  obtain ⟨sb, hsb⟩ : ∃ sb, sb = W0.heap.size := ⟨_, rfl⟩
  rw [← hsb] at hsrc ⊢
  have HB1 : Hid (Below w.heap.size w W1) := HB0.out.trans (hb1.mono HB0.out.size)
  have HR1 : Hid (W1.rowIs w.heap.size 26 3 (d3 (.slice none 0 0) (.slice none 0 0) (.int .i64 0))) := HR0.out.of_block (hb1.block _ HR0.out.lt)
  have HN1 : Hid (w.heap.size < sb ∧ sb < W1.heap.size) := ⟨by rw [hsb]; exact HR0.out.lt, hsrc.lt⟩
  have HS1 := Lib.hid hsrc
  clear hsb hb1 hsrc
  go_wp2_with fail
  refine (store_any sb _ HS1.out).mono ?_
  rintro e W2 ⟨ca, cn, ck, ra, rn, rk, v, c, r, rfl, hbd, ⟨hpc, hpr⟩, hdr⟩
  have hn := HN1.out
  have hres : W2.rowIs w.heap.size 26 3 (d3 (.slice none 0 0) (.slice none 0 0) (.int .i64 0)) := HR1.out.of_block (hdr.2.2.2.2.2 _ HR1.out.lt (by omega))
  have hbel : Below w.heap.size w W2 := HB1.out.trans (hdr.2.below (by omega) HB1.out.size)
  have HE : Hid (DtEnd w (.returned (.agg #[.slice ca cn ck, .slice ra rn rk, .int .i64 v])) (((W2.setCell ⟨w.heap.size, 0, none⟩ (.slice ca cn ck)).setCell ⟨w.heap.size, 1, none⟩ (.slice ra rn rk)).setCell ⟨w.heap.size, 2, none⟩ (.int .i64 v))) := by
    have HQ : ∀ k, k ≠ w.heap.size → (((W2.setCell ⟨w.heap.size, 0, none⟩ (.slice ca cn ck)).setCell ⟨w.heap.size, 1, none⟩ (.slice ra rn rk)).setCell ⟨w.heap.size, 2, none⟩ (.int .i64 v)).heap[k]? = W2.heap[k]? := fun k hk => ((Below.heap_setCell _ _ _ _ hk).trans (Below.heap_setCell _ _ _ _ hk)).trans (Below.heap_setCell _ _ _ _ hk)
    exact ⟨ca, cn, ck, ra, rn, rk, v, c, r, rfl, hbd, ⟨(hpc.same (fun k hk _ => HQ k (by omega))).at_, (hpr.same (fun k hk _ => HQ k (by omega))).at_⟩, ((hbel.setCell (Nat.le_refl _) _).setCell (Nat.le_refl _) _).setCell (Nat.le_refl _) _⟩
  obtain ⟨⟨y0, y1, y2⟩, q0, q1, q2⟩ := d3_cells hres
  clear hn hres hbel hpc hpr hdr hbd
  go_wp2_with fail
  refine bodyPost_ret (v := .agg #[.slice ca cn ck, .slice ra rn rk, .int .i64 v]) ?_ rfl HE.out
  simp [results, Try.results6, go_sem, y0, y1, y2]
end Go.Proofs.Ytoeibcmmpbkbpaa
