/-
  The program's catch of what is thrown.
-/
import Derived.Test.YtkaokfmaecdkiaaGreatDoorNtAs
import Derived.Defers
import Derived.Recover
namespace Go.Proofs.YtkaokfmaecdkiaaGreatDoor
open Go.RowKit Go.Extern.Stop Go.Stop Go.Extern

theorem assert_nil (w : World) : (Instr.typeAssert .nilIface 20 99 true).run Tryz.prog w = .ok (.tuple #[.nilIface, .bool false]) w := by kernel_rfl
set_option maxRecDepth 100000 in
set_option maxHeartbeats 4000000 in
theorem catch_idle (p : Addr) (w : World) :
    CallsD Tryz.prog 59 #[.pointer (some p)] .returning w fun e u' w' => e = .returned (.tuple #[]) ∧ u' = .returning ∧ w' = w := by
  refine callsD_of_wpS Tryz.func59 rfl fun c₀ cs hu => ?_
  apply wpS_seq
  apply wpS_region
  simp [wpOpsS, go_sem, recoverD, hu, Tryz.ntmps59, Exit.thenS, assert_nil]
  apply wpS_seq
  apply wpS_region
  simp [wpOpsS, go_sem, Exit.thenS]
  refine wpS_cond (t := false) (by simp [Act.eval, Array.replicate]) ?_
  simp only [Bool.false_eq_true, if_false]
  refine wpS_of_wp (wp_skip ?_)
  cases c₀
  simp_all [bodyPostS, results, Tryz.results59]
set_option maxRecDepth 100000 in
set_option maxHeartbeats 4000000 in
theorem catch_thrown (p : Nat) (s : ByteArray) (c : Int) (w : World) (hr : w.rowIs p 31 3 (rowN (noL none 0 0 0 0))) (hg : NEt w) :
    CallsD Tryz.prog 59 #[.pointer (some ⟨p, 0, none⟩)] (.panicking [{ v := errV s c, recovered := false }]) w fun e u' w' => e = .returned (.tuple #[]) ∧ u' = .panicking [{ v := errV s c, recovered := true }] ∧ (w'.rowIs p 31 3 (rowN (noL none 0 0 0 c)) ∧ Below p w w') := by
  have yE := fun (v : Value) (xT : TypeId) (wx : World) => run_typeAssert_hasB (P := Tryz.prog) (t := 105) Tryz.underlying99 (by kernel_rfl) v xT wx
  refine callsD_of_wpS Tryz.func59 rfl fun c₀ cs hu => ?_
  apply wpS_seq
  apply wpS_region
  simp [wpOpsS, go_sem, recoverD, hu, Tryz.ntmps59, Exit.thenS, yE]
  apply wpS_seq
  apply wpS_region
  simp [wpOpsS, go_sem, Exit.thenS]
  refine wpS_cond (t := true) (by simp [Act.eval, Array.replicate]) ?_
  simp only [if_true]
  apply wpS_region
  simp [wpOpsS, go_sem]
  refine (tellNet_bad none 0 0 s c w hg).mono ?_
  rintro e w1 ⟨rfl, hb⟩
  have R1 := nrow_below hr hb
  obtain ⟨⟨o0, o1, o2⟩, z0, z1, z2⟩ := rowN3 R1
  have l0 := R1.lt
  have RZ := rowN_put (rowN_put (rowN_put R1 0 (.slice none 0 0) (by simp)) 1 (.int .i64 0) (by simp)) 2 (.int .i64 c) (by simp)
  simp [go_sem, o0, o1, o2, z0, z1, z2, bodyPostS, results, Tryz.results59]
  exact ⟨RZ, (((hb.mono (Nat.le_of_lt hr.lt)).setCell (p := ⟨p, 0, none⟩) (Nat.le_refl _) _).setCell (p := ⟨p, 1, none⟩) (Nat.le_refl _) _).setCell (p := ⟨p, 2, none⟩) (Nat.le_refl _) _⟩
/-- What a reckoning comes to: a list of its own, or a refusal that is thrown. -/
def Reck (B : Nat) (code : Int) (N : Nat) (f : Nat → Int) (e : Ending) (w : World) : Prop := (code = 0 ∧ ∃ g k, e = .returned (.slice (some ⟨g, 0, none⟩) N k) ∧ B ≤ g ∧ IsBlk 35 g (N * 2) f w) ∨ (code ≠ 0 ∧ ∃ s, e = thrown s code)
/-- What is told of it. -/
def Told (B : Nat) (code : Int) (N : Nat) (f : Nat → Int) (e : Ending) (w : World) : Prop := (code = 0 ∧ ∃ g k, e = .returned (noV (some ⟨g, 0, none⟩) N k 0 0) ∧ B ≤ g ∧ IsBlk 35 g (N * 2) f w) ∨ (code ≠ 0 ∧ e = .returned (noV none 0 0 0 code))
set_option maxRecDepth 100000 in
set_option maxHeartbeats 4000000 in
theorem catchNetRest_any (caps : Array Value) (code : Int) (N : Nat) (f : Nat → Int) (w : World) (hg : NEt w)
    (H : ∀ W, Below w.heap.size w W → Calls Tryz.prog 35 caps W fun e w' => Reck W.heap.size code N f e w' ∧ Below W.heap.size W w') :
    Calls Tryz.prog 30 #[.func (.func 35) #[] caps] w fun e w' => Told w.heap.size code N f e w' ∧ Below w.heap.size w w' := by
  have hmf : ∀ (fn : Fn) (first cap : Array Value) (w : World), (Instr.makeFunc fn first cap).run Tryz.prog w = .ok (.func fn first cap) w := fun _ _ _ _ => rfl
  obtain ⟨W, hW⟩ : ∃ W, W = w.alloc (.cells #[.slice none 0 0, .int .i64 0, .int .i64 0] 31) := ⟨_, rfl⟩
  have B0 : Hid (Below w.heap.size w W) := by rw [hW]; exact nbel_alloc _ _
  have R0 : Hid (W.rowIs w.heap.size 31 3 (rowN (noL none 0 0 0 0))) := by rw [hW]; exact rowN_alloc w _ _
  have G0 : Hid (NEt W) := by rw [hW]; exact hg.below (nbel_alloc _ _)
  have HH := Lib.hid H
  have HW := Lib.hid hW
  clear hW H hg
  go_enter_defers Tryz.func30, Tryz.ntmps30
  go_wp2_with fail
  rw [← HW.out]
  refine (HH.out _ B0.out).mono ?_
  rintro e w1 ⟨hR, hb⟩
  have B1 : Hid (Below w.heap.size w w1) := B0.out.trans (hb.mono B0.out.size)
  have R1 := Lib.hid (nrow_below R0.out hb)
  have G1 := Lib.hid (G0.out.below hb)
  have Z0 := Lib.hid B0.out.size
  clear hb B0 R0 G0
  rcases hR with ⟨hc, g, k, rfl, hg, hk⟩ | ⟨hc, s, rfl⟩
  · have HK := Lib.hid hk
    have hWs : W.heap.size = w.heap.size + 1 := by rw [HW.out]; simp
    have HG : Hid (w.heap.size ≤ g ∧ g ≠ w.heap.size) := ⟨Nat.le_trans Z0.out hg, by omega⟩
    clear hWs
    have HC := Lib.hid hc
    clear hk hg hc
    go_wp2_with fail
    refine (tellNet_ok _ _ _ _).mono ?_
    rintro e w2 ⟨rfl, hb⟩
    have B2 : Hid (Below w.heap.size w w2) := B1.out.trans (hb.mono B1.out.size)
    have R2 := nrow_below R1.out hb
    have K2 := Lib.hid (HK.out.below hb)
    obtain ⟨⟨o0, o1, o2⟩, z0, z1, z2⟩ := rowN3 R2
    have l0 := R2.lt
    have RZ := Lib.hid (rowN_put (rowN_put (rowN_put R2 0 (.slice (some ⟨g, 0, none⟩) N k) (by simp)) 1 (.int .i64 0) (by simp)) 2 (.int .i64 0) (by simp))
    clear hb R2 R1 B1 HK
    go_wp2_with fail
    refine leaves_cons (f := 59) (args := #[.pointer (some ⟨w.heap.size, 0, none⟩)]) (by simp) (by simp [go_sem]) ?_
    refine (catch_idle ⟨w.heap.size, 0, none⟩ _).mono ?_
    rintro e u' w'' ⟨rfl, rfl, rfl⟩
    obtain ⟨⟨x0, x1, x2⟩, _⟩ := rowN3 RZ.out
    have hne := HG.out.2
    simp [Leaves, settle, results, Tryz.results30, go_sem, x0, x1, x2]
    refine ⟨Or.inl ⟨HC.out, g, k, rfl, HG.out.1, K2.out.block ?_⟩, ?_⟩
    · exact (Below.heap_setCell _ ⟨w.heap.size, 2, none⟩ _ _ hne).trans ((Below.heap_setCell _ ⟨w.heap.size, 1, none⟩ _ _ hne).trans (Below.heap_setCell _ ⟨w.heap.size, 0, none⟩ _ _ hne))
    · exact ((B2.out.setCell (p := ⟨w.heap.size, 0, none⟩) (Nat.le_refl _) _).setCell (p := ⟨w.heap.size, 1, none⟩) (Nat.le_refl _) _).setCell (p := ⟨w.heap.size, 2, none⟩) (Nat.le_refl _) _
  · have HC := Lib.hid hc
    clear hc
    go_wp2_with fail
    refine leaves_cons (f := 59) (args := #[.pointer (some ⟨w.heap.size, 0, none⟩)]) (by simp) (by simp [go_sem]) ?_
    refine (catch_thrown w.heap.size s code _ R1.out G1.out).mono ?_
    rintro e u' w'' ⟨rfl, rfl, hr, hb⟩
    obtain ⟨⟨x0, x1, x2⟩, _⟩ := rowN3 hr
    simp [Leaves, settle, results, Tryz.results30, go_sem, x0, x1, x2]
    exact ⟨Or.inr ⟨HC.out, rfl⟩, B1.out.trans hb⟩
set_option maxRecDepth 100000 in
set_option maxHeartbeats 4000000 in
theorem catchNetSolve_any (caps : Array Value) (code : Int) (N : Nat) (f : Nat → Int) (w : World) (hg : NEt w)
    (H : ∀ W, Below w.heap.size w W → Calls Tryz.prog 31 caps W fun e w' => Reck W.heap.size code N f e w' ∧ Below W.heap.size W w') :
    Calls Tryz.prog 30 #[.func (.func 31) #[] caps] w fun e w' => Told w.heap.size code N f e w' ∧ Below w.heap.size w w' := by
  have hmf : ∀ (fn : Fn) (first cap : Array Value) (w : World), (Instr.makeFunc fn first cap).run Tryz.prog w = .ok (.func fn first cap) w := fun _ _ _ _ => rfl
  obtain ⟨W, hW⟩ : ∃ W, W = w.alloc (.cells #[.slice none 0 0, .int .i64 0, .int .i64 0] 31) := ⟨_, rfl⟩
  have B0 : Hid (Below w.heap.size w W) := by rw [hW]; exact nbel_alloc _ _
  have R0 : Hid (W.rowIs w.heap.size 31 3 (rowN (noL none 0 0 0 0))) := by rw [hW]; exact rowN_alloc w _ _
  have G0 : Hid (NEt W) := by rw [hW]; exact hg.below (nbel_alloc _ _)
  have HH := Lib.hid H
  have HW := Lib.hid hW
  clear hW H hg
  go_enter_defers Tryz.func30, Tryz.ntmps30
  go_wp2_with fail
  rw [← HW.out]
  refine (HH.out _ B0.out).mono ?_
  rintro e w1 ⟨hR, hb⟩
  have B1 : Hid (Below w.heap.size w w1) := B0.out.trans (hb.mono B0.out.size)
  have R1 := Lib.hid (nrow_below R0.out hb)
  have G1 := Lib.hid (G0.out.below hb)
  have Z0 := Lib.hid B0.out.size
  clear hb B0 R0 G0
  rcases hR with ⟨hc, g, k, rfl, hg, hk⟩ | ⟨hc, s, rfl⟩
  · have HK := Lib.hid hk
    have hWs : W.heap.size = w.heap.size + 1 := by rw [HW.out]; simp
    have HG : Hid (w.heap.size ≤ g ∧ g ≠ w.heap.size) := ⟨Nat.le_trans Z0.out hg, by omega⟩
    clear hWs
    have HC := Lib.hid hc
    clear hk hg hc
    go_wp2_with fail
    refine (tellNet_ok _ _ _ _).mono ?_
    rintro e w2 ⟨rfl, hb⟩
    have B2 : Hid (Below w.heap.size w w2) := B1.out.trans (hb.mono B1.out.size)
    have R2 := nrow_below R1.out hb
    have K2 := Lib.hid (HK.out.below hb)
    obtain ⟨⟨o0, o1, o2⟩, z0, z1, z2⟩ := rowN3 R2
    have l0 := R2.lt
    have RZ := Lib.hid (rowN_put (rowN_put (rowN_put R2 0 (.slice (some ⟨g, 0, none⟩) N k) (by simp)) 1 (.int .i64 0) (by simp)) 2 (.int .i64 0) (by simp))
    clear hb R2 R1 B1 HK
    go_wp2_with fail
    refine leaves_cons (f := 59) (args := #[.pointer (some ⟨w.heap.size, 0, none⟩)]) (by simp) (by simp [go_sem]) ?_
    refine (catch_idle ⟨w.heap.size, 0, none⟩ _).mono ?_
    rintro e u' w'' ⟨rfl, rfl, rfl⟩
    obtain ⟨⟨x0, x1, x2⟩, _⟩ := rowN3 RZ.out
    have hne := HG.out.2
    simp [Leaves, settle, results, Tryz.results30, go_sem, x0, x1, x2]
    refine ⟨Or.inl ⟨HC.out, g, k, rfl, HG.out.1, K2.out.block ?_⟩, ?_⟩
    · exact (Below.heap_setCell _ ⟨w.heap.size, 2, none⟩ _ _ hne).trans ((Below.heap_setCell _ ⟨w.heap.size, 1, none⟩ _ _ hne).trans (Below.heap_setCell _ ⟨w.heap.size, 0, none⟩ _ _ hne))
    · exact ((B2.out.setCell (p := ⟨w.heap.size, 0, none⟩) (Nat.le_refl _) _).setCell (p := ⟨w.heap.size, 1, none⟩) (Nat.le_refl _) _).setCell (p := ⟨w.heap.size, 2, none⟩) (Nat.le_refl _) _
  · have HC := Lib.hid hc
    clear hc
    go_wp2_with fail
    refine leaves_cons (f := 59) (args := #[.pointer (some ⟨w.heap.size, 0, none⟩)]) (by simp) (by simp [go_sem]) ?_
    refine (catch_thrown w.heap.size s code _ R1.out G1.out).mono ?_
    rintro e u' w'' ⟨rfl, rfl, hr, hb⟩
    obtain ⟨⟨x0, x1, x2⟩, _⟩ := rowN3 hr
    simp [Leaves, settle, results, Tryz.results30, go_sem, x0, x1, x2]
    exact ⟨Or.inr ⟨HC.out, rfl⟩, B1.out.trans hb⟩
end Go.Proofs.YtkaokfmaecdkiaaGreatDoor
