/-
  The contract of the program's answer of no step.
-/
import Derived.Test.YtokbhkcpkilcmaaDoorSwI3
namespace Go.Proofs.YtokbhkcpkilcmaaDoor
open Go.RowKit Go.Deep

set_option maxRecDepth 100000 in
set_option maxHeartbeats 4000000 in
theorem still_any (b n cap : Nat) (rs : Nat → Sw.Rc) (w : World) (h : ∀ i, i < n → RcCells b (i * 6) (rs i) w) (hn : 1 ≤ n) (hn2 : n ≤ 40) :
    Calls Tryd.prog 55 #[.slice (some ⟨b, 0, none⟩) n cap] w fun e w' => (∃ gl gf gt c, e = .returned (.agg #[.slice (some ⟨gl, 0, none⟩) n c, .slice (some ⟨gf, 0, none⟩) n n, .slice (some ⟨gt, 0, none⟩) n n, .int .i64 0, .int .i64 0]) ∧ OutL w.heap.size n gl gf gt rs (fun _ => 0) (fun _ => 0) w') ∧ Below w.heap.size w w' := by
  have hmk := run_make_row' (P := Tryd.prog) 23 2 (.int .i64 0) 8 Tryd.underlying23 info_i64 rfl .i64 .i64 n (by omega) (by omega)
  have H := Lib.hid h
  have hbw : b < w.heap.size := (h 0 (by omega)).lt
  clear h
  go_enter Tryd.func55, Tryd.ntmps55
  go_wp2_with fail
  go_region_with (go_at_call 64; refine (clone_any b n cap rs _ ?_ (by omega) (by omega)).mono ?_; (intro i hi; exact (H.out i hi).block (by first | exact blk_alloc_lt _ _ _ hbw | exact (blk_alloc_lt _ _ _ (by simp; omega)).trans (blk_alloc_lt _ _ _ hbw) | exact ((blk_alloc_lt _ _ _ (by simp; omega)).trans (blk_alloc_lt _ _ _ (by simp; omega))).trans (blk_alloc_lt _ _ _ hbw))); rintro e w1 ⟨⟨g, c, rfl, hg, hblk⟩, hb⟩; have hs : RoSlot w w1 := (by first | exact (RoSlot.start w).drew.next hb | exact ((RoSlot.start w).alloc _).drew.next hb | exact (((RoSlot.start w).alloc _).alloc _).drew.next hb); have HS := Lib.hid hs; obtain ⟨⟨q0, q1, q2, q3, q4⟩, ⟨f0, f1, f2, f3, f4⟩⟩ := hs.kept; have hz := hs.lt; clear hs; have HG := Lib.hid hg; have HBK := Lib.hid hblk; have HBL := Lib.hid hb; clear hg hblk hb)
  · have hF := Lib.hid (still_e1 HS.out (by have := HG.out; simp at this; omega) HBK.out  c).1
    go_wp2_with fail
    exact bodyPost_ret (v := .agg #[.slice (some ⟨g, 0, none⟩) n c, .slice (some ⟨w1.heap.size, 0, none⟩) n n, .slice (some ⟨w1.heap.size + 1, 0, none⟩) n n, .int .i64 0, .int .i64 0]) (by
      obtain ⟨⟨x0, x1, x2, x3, x4⟩, _⟩ := hF.out
      simp only [results, Tryd.results55]
      simp [go_sem, x0, x1, x2, x3, x4]) rfl ⟨⟨g, _, _, c, rfl, hF.out.2.1⟩, hF.out.2.2⟩
  · have hF := Lib.hid (still_e1 HS.out (by have := HG.out; simp at this; omega) HBK.out  c).2
    go_wp2_with fail
    exact bodyPost_ret (v := .agg #[.slice (some ⟨g, 0, none⟩) n c, .slice (some ⟨w1.heap.size + 1, 0, none⟩) n n, .slice (some ⟨w1.heap.size, 0, none⟩) n n, .int .i64 0, .int .i64 0]) (by
      obtain ⟨⟨x0, x1, x2, x3, x4⟩, _⟩ := hF.out
      simp only [results, Tryd.results55]
      simp [go_sem, x0, x1, x2, x3, x4]) rfl ⟨⟨g, _, _, c, rfl, hF.out.2.1⟩, hF.out.2.2⟩
  · have hF := Lib.hid (still_e2 HS.out (by have := HG.out; simp at this; omega) HBK.out ⟨HBL.out.os, HBL.out.tape, HBL.out.output, HBL.out.size, HBL.out.block⟩ c).1
    go_wp2_with fail
    exact bodyPost_ret (v := .agg #[.slice (some ⟨g, 0, none⟩) n c, .slice (some ⟨w.heap.size + 1, 0, none⟩) n n, .slice (some ⟨w1.heap.size, 0, none⟩) n n, .int .i64 0, .int .i64 0]) (by
      obtain ⟨⟨x0, x1, x2, x3, x4⟩, _⟩ := hF.out
      simp only [results, Tryd.results55]
      simp [go_sem, x0, x1, x2, x3, x4]) rfl ⟨⟨g, _, _, c, rfl, hF.out.2.1⟩, hF.out.2.2⟩
  · have hF := Lib.hid (still_e3 HS.out (by have := HG.out; simp at this; omega) HBK.out ⟨HBL.out.os, HBL.out.tape, HBL.out.output, HBL.out.size, HBL.out.block⟩ c).1
    go_wp2_with fail
    exact bodyPost_ret (v := .agg #[.slice (some ⟨g, 0, none⟩) n c, .slice (some ⟨w.heap.size + 1, 0, none⟩) n n, .slice (some ⟨w.heap.size + 1 + 1, 0, none⟩) n n, .int .i64 0, .int .i64 0]) (by
      obtain ⟨⟨x0, x1, x2, x3, x4⟩, _⟩ := hF.out
      simp only [results, Tryd.results55]
      simp [go_sem, x0, x1, x2, x3, x4]) rfl ⟨⟨g, _, _, c, rfl, hF.out.2.1⟩, hF.out.2.2⟩
  · have hF := Lib.hid (still_e2 HS.out (by have := HG.out; simp at this; omega) HBK.out ⟨HBL.out.os, HBL.out.tape, HBL.out.output, HBL.out.size, HBL.out.block⟩ c).2
    go_wp2_with fail
    exact bodyPost_ret (v := .agg #[.slice (some ⟨g, 0, none⟩) n c, .slice (some ⟨w1.heap.size, 0, none⟩) n n, .slice (some ⟨w.heap.size + 1, 0, none⟩) n n, .int .i64 0, .int .i64 0]) (by
      obtain ⟨⟨x0, x1, x2, x3, x4⟩, _⟩ := hF.out
      simp only [results, Tryd.results55]
      simp [go_sem, x0, x1, x2, x3, x4]) rfl ⟨⟨g, _, _, c, rfl, hF.out.2.1⟩, hF.out.2.2⟩
  · have hF := Lib.hid (still_e3 HS.out (by have := HG.out; simp at this; omega) HBK.out ⟨HBL.out.os, HBL.out.tape, HBL.out.output, HBL.out.size, HBL.out.block⟩ c).2
    go_wp2_with fail
    exact bodyPost_ret (v := .agg #[.slice (some ⟨g, 0, none⟩) n c, .slice (some ⟨w.heap.size + 1 + 1, 0, none⟩) n n, .slice (some ⟨w.heap.size + 1, 0, none⟩) n n, .int .i64 0, .int .i64 0]) (by
      obtain ⟨⟨x0, x1, x2, x3, x4⟩, _⟩ := hF.out
      simp only [results, Tryd.results55]
      simp [go_sem, x0, x1, x2, x3, x4]) rfl ⟨⟨g, _, _, c, rfl, hF.out.2.1⟩, hF.out.2.2⟩
end Go.Proofs.YtokbhkcpkilcmaaDoor
