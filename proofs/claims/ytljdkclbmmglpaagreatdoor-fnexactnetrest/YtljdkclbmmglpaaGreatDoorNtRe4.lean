/-
  The program's NetRest.
-/
import Derived.Test.YtljdkclbmmglpaaGreatDoorNtFl2
import Derived.Test.YtljdkclbmmglpaaGreatDoorNtFl3
import Derived.Test.YtljdkclbmmglpaaGreatDoorNtRe2
import Derived.Test.YtljdkclbmmglpaaGreatDoorNtRe3
namespace Go.Proofs.YtljdkclbmmglpaaGreatDoor
open Go.RowKit Go.Deep

set_option maxRecDepth 100000 in
set_option maxHeartbeats 4000000 in
theorem rest1_any (n : Nt.Net) (la : Option Addr) (lk : Nat) (fa : Option Addr) (fk : Nat) (wa : Option Addr) (wk : Nat) (ha : Option Addr) (hn hk : Nat) (hf : Nat → Int) (gn gh : Nat) (w : World) (h : NtAt n la fa wa w) (hs : NtSmall n) (hh : IsAt ha (hn * 2) hf w) (hb0 : NBd hf) (hm : hn ≤ 1048576) (hg : NEt w) (r1 : w.rowIs gn 27 4 (rowN (ntL n la lk fa fk wa wk))) (r2 : w.rowIs gh 29 1 (rowN [.slice ha hn hk])) :
    Calls Tryz.prog 40 #[.pointer (some ⟨gn, 0, none⟩), .pointer (some ⟨gh, 0, none⟩)] w fun e w' => Reck w.heap.size (Nt.reCode n hn hf) (Nt.nn n) (Nt.cells2 (Nt.rev n hf)) e w' ∧ Below w.heap.size w w' := by
  obtain ⟨⟨c0, c1, c2, c3⟩, _⟩ := rowN4 r1
  have d0 := r2.cell (i := 0) (by omega)
  simp only [rowN, List.getD_cons_zero] at d0
  have HX := Lib.hid (netRest_any n la lk fa fk wa wk ha hn hk hf w h hs hh hb0 hm hg)
  clear r1 r2 h hs hh hb0 hm hg
  go_enter Tryz.func40, Tryz.ntmps40
  go_wp2_with fail
  refine HX.out.mono ?_
  rintro e w1 ⟨hR, hb⟩
  rcases hR with ⟨hc, g, k, rfl, hg, hk⟩ | ⟨hc, s, rfl⟩
  · have HR : Hid (Reck w.heap.size (Nt.reCode n hn hf) (Nt.nn n) (Nt.cells2 (Nt.rev n hf)) (.returned (.slice (some ⟨g, 0, none⟩) (Nt.nn n) k)) w1) := Or.inl ⟨hc, g, k, rfl, hg, hk⟩
    have HB := Lib.hid hb
    clear hc hk hg hb
    go_wp2_with fail
    go_ret
    exact ⟨HR.out, HB.out⟩
  · have HR : Hid (Reck w.heap.size (Nt.reCode n hn hf) (Nt.nn n) (Nt.cells2 (Nt.rev n hf)) (thrown s (Nt.reCode n hn hf)) w1) := Or.inr ⟨hc, s, rfl⟩
    have HB := Lib.hid hb
    clear hc hb
    go_wp2_with fail
    exact ⟨rfl, HR.out, HB.out⟩
set_option maxRecDepth 100000 in
set_option maxHeartbeats 4000000 in
theorem implNetRest_any (n : Nt.Net) (la : Option Addr) (lk : Nat) (fa : Option Addr) (fk : Nat) (wa : Option Addr) (wk : Nat) (ha : Option Addr) (hn hk : Nat) (hf : Nat → Int) (w : World) (h : NtAt n la fa wa w) (hs : NtSmall n) (hh : IsAt ha (hn * 2) hf w) (hb0 : NBd hf) (hm : hn ≤ 1048576) (hg : NEt w) :
    Calls Tryz.prog 12 #[ntV n la lk fa fk wa wk, .slice ha hn hk] w fun e w' => AnsF w.heap.size (Nt.reCode n hn hf) (Nt.nn n) (Nt.cells2 (Nt.rev n hf)) e w' ∧ Below w.heap.size w w' := by
  have hmf : ∀ (fn : Fn) (first cap : Array Value) (w : World), (Instr.makeFunc fn first cap).run Tryz.prog w = .ok (.func fn first cap) w := fun _ _ _ _ => rfl
  obtain ⟨W, hW⟩ : ∃ W, W = ((w.alloc (.cells #[.int .i64 n.nodes, .slice la n.ln lk, .slice fa n.fn fk, .slice wa n.wn wk] 27)).alloc (.cells #[.slice ha hn hk] 29)).alloc (.cells #[.slice none 0 0, .int .i64 0, .int .i64 0] 31) := ⟨_, rfl⟩
  have B0 : Below w.heap.size w W := by rw [hW]; exact (((Below.refl _ _).alloc (Nat.le_refl _) _).alloc (by simp) _).alloc (by simp; omega) _
  have R1 : W.rowIs w.heap.size 27 4 (rowN (ntL n la lk fa fk wa wk)) := by rw [hW]; exact nrow_below (nrow_below (rowN_alloc w _ _) (nbel_alloc _ _)) (nbel_alloc _ _)
  have R2 : W.rowIs (w.heap.size + 1) 29 1 (rowN [.slice ha hn hk]) := by rw [hW]; exact nrow_below (rowN_alloc' (by simp) _ _) (nbel_alloc _ _)
  have R3 : Hid (W.rowIs (w.heap.size + 1 + 1) 31 3 (rowN (noL none 0 0 0 0))) := by rw [hW]; exact rowN_alloc' (by simp) _ _
  have HCT := Lib.hid (catchNetRest_any #[.pointer (some ⟨w.heap.size, 0, none⟩), .pointer (some ⟨w.heap.size + 1, 0, none⟩)] (Nt.reCode n hn hf) (Nt.nn n) (Nt.cells2 (Nt.rev n hf)) W (hg.below B0) (fun V hV => rest1_any n la lk fa fk wa wk ha hn hk hf _ _ V ((h.below B0).below hV) hs ((hh.below B0).below hV) hb0 hm ((hg.below B0).below hV) (nrow_below R1 hV) (nrow_below R2 hV)))
  have HB0 := Lib.hid B0
  have HW := Lib.hid hW
  have hWs : W.heap.size = w.heap.size + 3 := by rw [hW]; simp
  have HWS := Lib.hid hWs
  clear hW h hs hh hb0 hm hg B0 R1 R2 hWs
  go_enter Tryz.func12, Tryz.ntmps12
  go_wp2_with fail
  rw [← HW.out]
  refine HCT.out.mono ?_
  rintro e w1 ⟨hT, hb⟩
  have B1 : Hid (Below w.heap.size w w1) := HB0.out.trans (hb.mono HB0.out.size)
  have R4 := Lib.hid (nrow_below R3.out hb)
  clear hb HCT
  obtain ⟨⟨o0, o1, o2⟩, z0, z1, z2⟩ := rowN3 R4.out
  have l0 := R4.out.lt
  rcases hT with ⟨hc, g, k, rfl, hg, hk⟩ | ⟨hc, rfl⟩
  · have hne : g ≠ w.heap.size + 1 + 1 := by have := HWS.out; omega
    have HNE := Lib.hid hne
    have HK := Lib.hid hk
    have HC := Lib.hid hc
    have HG := Lib.hid hg
    clear hne hk hc hg
    go_wp2_with fail
    obtain ⟨⟨x0, x1, x2⟩, _⟩ := rowN3 (rowN_put (rowN_put (rowN_put R4.out 0 (.slice (some ⟨g, 0, none⟩) (Nt.nn n) k) (by simp)) 1 (.int .i64 0) (by simp)) 2 (.int .i64 0) (by simp))
    refine bodyPost_ret (v := noV (some ⟨g, 0, none⟩) (Nt.nn n) k 0 0) (by simp [results, Tryz.results12, go_sem, x0, x1, x2]) rfl ⟨⟨_, k, by rw [HC.out, if_pos rfl], ?_⟩, ?_⟩
    · rw [HC.out, if_pos rfl]
      refine Or.inr ⟨g, rfl, Nat.le_trans HB0.out.size HG.out, HK.out.block ?_⟩
      exact (Below.heap_setCell _ ⟨w.heap.size + 1 + 1, 2, none⟩ _ _ HNE.out).trans ((Below.heap_setCell _ ⟨w.heap.size + 1 + 1, 1, none⟩ _ _ HNE.out).trans (Below.heap_setCell _ ⟨w.heap.size + 1 + 1, 0, none⟩ _ _ HNE.out))
    · exact ((B1.out.setCell (p := ⟨w.heap.size + 1 + 1, 0, none⟩) (by show w.heap.size ≤ w.heap.size + 1 + 1; omega) _).setCell (p := ⟨w.heap.size + 1 + 1, 1, none⟩) (by show w.heap.size ≤ w.heap.size + 1 + 1; omega) _).setCell (p := ⟨w.heap.size + 1 + 1, 2, none⟩) (by show w.heap.size ≤ w.heap.size + 1 + 1; omega) _
  · have HC := Lib.hid hc
    clear hc
    go_wp2_with fail
    obtain ⟨⟨x0, x1, x2⟩, _⟩ := rowN3 (rowN_put (rowN_put (rowN_put R4.out 0 (.slice none 0 0) (by simp)) 1 (.int .i64 0) (by simp)) 2 (.int .i64 (Nt.reCode n hn hf)) (by simp))
    exact bodyPost_ret (v := noV none 0 0 0 (Nt.reCode n hn hf)) (by simp [results, Tryz.results12, go_sem, x0, x1, x2]) rfl ⟨AnsF.bad HC.out, ((B1.out.setCell (p := ⟨w.heap.size + 1 + 1, 0, none⟩) (by show w.heap.size ≤ w.heap.size + 1 + 1; omega) _).setCell (p := ⟨w.heap.size + 1 + 1, 1, none⟩) (by show w.heap.size ≤ w.heap.size + 1 + 1; omega) _).setCell (p := ⟨w.heap.size + 1 + 1, 2, none⟩) (by show w.heap.size ≤ w.heap.size + 1 + 1; omega) _⟩
end Go.Proofs.YtljdkclbmmglpaaGreatDoor
