/-
  The laws' comparisons and marks of answers of nets.
-/
import Derived.Test.YtojlclnlompobaaGreatDoorNtEx2
import Derived.Test.YtojlclnlompobaaGreatDoorNtFl3
namespace Go.Proofs.YtojlclnlompobaaGreatDoor
open Go.RowKit Go.Deep

set_option maxRecDepth 100000 in
set_option maxHeartbeats 4000000 in
theorem eqNetOut_same (a b : Option Addr) (N c c' : Nat) (at_ code : Int) (f : Nat → Int) (w : World) (h1 : IsAt a (N * 2) f w) (h2 : IsAt b (N * 2) f w) (hn : N ≤ 1048576) :
    Calls Tryz.prog 9 #[noV a N c at_ code, noV b N c' at_ code] w fun e w' => e = .returned (.bool true) ∧ Below w.heap.size w w' := by
  obtain ⟨W, hW⟩ : ∃ W, W = (w.alloc (.cells #[.slice a N c, .int .i64 at_, .int .i64 code] 30)).alloc (.cells #[.slice b N c', .int .i64 at_, .int .i64 code] 30) := ⟨_, rfl⟩
  have hB : Below w.heap.size w W := by rw [hW]; exact ((Below.refl _ _).alloc (Nat.le_refl _) _).alloc (by simp) _
  have RA : W.rowIs w.heap.size 30 3 (rowN (noL a N c at_ code)) := by rw [hW]; exact nrow_below (rowN_alloc w _ _) (nbel_alloc _ _)
  have RO : W.rowIs (w.heap.size + 1) 30 3 (rowN (noL b N c' at_ code)) := by rw [hW]; exact rowN_alloc' (by simp) _ _
  have n1 : (at_ != at_) = false := by simp
  have n2 : (code != code) = false := by simp
  have HW := Lib.hid hW
  have HB := Lib.hid hB
  have H1 := Lib.hid (h1.below hB)
  have H2 := Lib.hid (h2.below hB)
  have HRA := Lib.hid RA
  have HRO := Lib.hid RO
  clear hW hB h1 h2 RA RO
  go_enter Tryz.func9, Tryz.ntmps9
  go_wp2_with fail
  rw [← HW.out]
  refine (neqFracS_same a b N c c' f _ H1.out H2.out hn).mono ?_
  rintro e w1 ⟨rfl, hb1⟩
  obtain ⟨⟨x0, x1, x2⟩, _⟩ := rowN3 (nrow_below HRA.out hb1)
  obtain ⟨⟨y0, y1, y2⟩, _⟩ := rowN3 (nrow_below HRO.out hb1)
  have HB1 : Hid (Below w.heap.size w w1) := HB.out.trans (hb1.mono HB.out.size)
  clear hb1 HRA HRO
  go_wp2_with fail
  go_ret
  exact ⟨rfl, HB1.out⟩
set_option maxRecDepth 100000 in
set_option maxHeartbeats 4000000 in
theorem markNetOut_any (a : Option Addr) (B N c : Nat) (at_ code : Int) (f : Nat → Int) (w : World) (h : LsOwn 46 2 B N a c f w) (hn : N ≤ 1048576) :
    Calls Tryz.prog 12 #[noV a N c at_ code, .int .i64 1] w fun e w' => e = .returned (.int .i64 ((1 + N * 2 : Nat) : Int)) ∧ LsOwn 46 2 B N a c (mk1 1) w' ∧ ((∀ k, k < w.heap.size → a ≠ some ⟨k, 0, none⟩ → w'.heap[k]? = w.heap[k]?) ∧ w'.os = w.os ∧ w'.tape = w.tape ∧ w'.output = w.output ∧ w.heap.size ≤ w'.heap.size) := by
  have HB := Lib.hid (nbel_alloc w (.cells #[.slice a N c, .int .i64 at_, .int .i64 code] 30))
  have HL := Lib.hid (h.below HB.out)
  rcases h with ⟨rfl, rfl, rfl⟩ | ⟨g, rfl, h1, h2⟩
  · go_enter Tryz.func12, Tryz.ntmps12
    go_wp2_with fail
    refine (nmarkFracS_nil 1 _).mono ?_
    rintro e w1 ⟨rfl, rfl⟩
    go_wp2_with fail
    go_ret
    exact ⟨rfl, Or.inl ⟨rfl, rfl, rfl⟩, fun k hk _ => HB.out.block k hk, HB.out.os, HB.out.tape, HB.out.output, HB.out.size⟩
  · have H2 := Lib.hid (h2.below HB.out)
    have hn2 : N * 2 ≤ 2097152 := by omega
    clear h2
    go_enter Tryz.func12, Tryz.ntmps12
    go_wp2_with fail
    refine (nmarkFracS_any g N c 1 f _ H2.out hn (by omega)).mono ?_
    rintro e w1 ⟨rfl, hm, ho⟩
    have HM := Lib.hid hm
    have HO := Lib.hid ho
    clear hm ho
    go_wp2_with fail
    go_ret
    have b0 := HB.out
    have o := HO.out
    exact ⟨rfl, Or.inr ⟨g, rfl, h1, HM.out⟩, fun k hk hne => (o.block k (by have := b0.size; omega) (fun e => hne (by rw [e]))).trans (b0.block k hk), o.os.trans b0.os, o.tape.trans b0.tape, o.output.trans b0.output, Nat.le_trans b0.size o.size⟩
set_option maxRecDepth 100000 in
set_option maxHeartbeats 4000000 in
theorem heldNetOut_any (a : Option Addr) (B N c : Nat) (at_ code : Int) (w : World) (h : LsOwn 46 2 B N a c (mk1 1) w) (hn : N ≤ 1048576) :
    Calls Tryz.prog 13 #[noV a N c at_ code, .int .i64 1] w fun e w' => e = .returned (.int .i64 ((1 + N * 2 : Nat) : Int)) ∧ Below w.heap.size w w' := by
  have HB := Lib.hid (nbel_alloc w (.cells #[.slice a N c, .int .i64 at_, .int .i64 code] 30))
  have HL := Lib.hid (h.below HB.out)
  have hz : ¬ ((1 + N * 2 : Nat) : Int) < 0 := by omega
  have hz1 : ¬ (1 : Int) < 0 := by omega
  rcases h with ⟨rfl, rfl, rfl⟩ | ⟨g, rfl, h1, h2⟩
  · go_enter Tryz.func13, Tryz.ntmps13
    go_wp2_with fail
    refine (nheldFracS_nil 1 _).mono ?_
    rintro e w1 ⟨rfl, rfl⟩
    go_wp2_with fail
    go_ret
    exact ⟨rfl, HB.out⟩
  · have H2 := Lib.hid (h2.below HB.out)
    obtain ⟨Q, hQ⟩ : ∃ Q : Nat, Q = 1 + N * 2 := ⟨_, rfl⟩
    have HQ := Lib.hid hQ
    rw [← hQ] at hz ⊢
    clear h2 hQ
    go_enter Tryz.func13, Tryz.ntmps13
    go_wp2_with fail
    refine (nheldFracS_any g N c 1 _ H2.out hn (by omega)).mono ?_
    rintro e w1 ⟨rfl, rfl⟩
    rw [← HQ.out]
    go_wp2_with fail
    go_ret
    exact ⟨rfl, HB.out⟩
end Go.Proofs.YtojlclnlompobaaGreatDoor
