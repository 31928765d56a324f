/-
  The contract of the program's RiverRun where the run goes well.
-/
import Derived.Test.YtdpghhmcibiplaaDoorRvR3
import Derived.Test.YtdpghhmcibiplaaDoorRvI7
namespace Go.Proofs.YtdpghhmcibiplaaDoor
open Go.RowKit Go.Deep

set_option maxRecDepth 100000 in
set_option maxHeartbeats 2000000 in
theorem implRun_ok (lb n cn : Nat) (ra : Option Addr) (M cr : Nat) (rs : Nat → Rv.Rc) (q : Nat → Rv.Rain) (t : Rv.RSt) (w : World) (h : ∀ i, i < n → RcCells lb (i * 5) (rs i) w) (h2 : RainsAt ra M q w) (hM : M ≤ 60) (hr : Rv.Right n rs) (ht : Rv.runs n rs q M = some t) :
    Calls Tryd.prog 38 #[.slice (some ⟨lb, 0, none⟩) n cn, .slice ra M cr] w fun e w' => (∃ gl gf gt c, e = .returned (vRo n gl gf gt c n n t.sea 0) ∧ (w.heap.size ≤ gl ∧ w.heap.size ≤ gt) ∧ RcBlk gl n t.rs w' ∧ InBlk gt n t.tk w') ∧ Below w.heap.size w w' := by
  have hn1 : 1 ≤ n := hr.1.1
  have hn2 : n ≤ 40 := hr.1.2
  have hz : ¬ (400 : Int) < (n : Int) := by omega
  have hz2 : ¬ (60 : Int) < (M : Int) := by omega
  have hlb : lb < w.heap.size := (h 0 (by omega)).lt
  have H := Lib.hid h
  have H2 := Lib.hid h2
  have HR := Lib.hid hr
  have HT := Lib.hid ht
  clear h h2 hr ht
  go_enter Tryd.func38, Tryd.ntmps38
  go_wp2_with fail
  refine (runR_ok lb n cn ra M cr rs q t _ (fun i hi => (H.out i hi).block (blk_alloc_lt _ _ _ hlb)) (H2.out.below ((Below.refl _ _).alloc (Nat.le_refl _) _)) hM HR.out HT.out).mono ?_
  rintro e w1 ⟨⟨gl, gf, gt, c, rfl, hg, hL, hK⟩, hb⟩
  have HS1 : Hid (RoSlot w w1) := (RoSlot.start w).next hb
  have HL := Lib.hid hL
  have HK := Lib.hid hK
  have hg2 : w.heap.size + 1 ≤ gl ∧ w.heap.size + 1 ≤ gt := by simpa using hg
  have HG := Lib.hid hg2
  clear hb hL hK hg hg2
  go_wp2_with fail
  refine (tell_ok _ _ _ t.sea 0 _ ⟨_, _, _, rfl⟩ ⟨_, _, _, rfl⟩ ⟨_, _, _, rfl⟩).mono ?_
  rintro e w2 ⟨rfl, hb⟩
  have hs : RoSlot w w2 := HS1.out.next hb
  have HL2 := Lib.hid (HL.out.block (hb.block _ HL.out.lt))
  have HK2 := Lib.hid (HK.out.block (hb.block _ HK.out.lt))
  obtain ⟨⟨q0, q1, q2, q3, q4⟩, ⟨f0, f1, f2, f3, f4⟩⟩ := hs.kept
  have hz1 := hs.lt
  have hF := Lib.hid (hs.fin (.slice (some ⟨gl, 0, none⟩) n c) (.slice (some ⟨gf, 0, none⟩) n n) (.slice (some ⟨gt, 0, none⟩) n n) (.int .i64 t.sea) (.int .i64 0))
  clear hs hb HL HK
  go_wp2_with fail
  exact bodyPost_ret (v := vRo n gl gf gt c n n t.sea 0) (by
    obtain ⟨⟨x0, x1, x2, x3, x4⟩, _⟩ := hF.out
    simp only [results, Tryd.results38]
    simp [go_sem, x0, x1, x2, x3, x4]) rfl ⟨⟨gl, gf, gt, c, rfl, (by have := HG.out; omega), HL2.out.block (putRo_block _ _ _ _ _ _ _ _ (by have := HG.out; omega)), HK2.out.block (putRo_block _ _ _ _ _ _ _ _ (by have := HG.out; omega))⟩, hF.out.2⟩
end Go.Proofs.YtdpghhmcibiplaaDoor
