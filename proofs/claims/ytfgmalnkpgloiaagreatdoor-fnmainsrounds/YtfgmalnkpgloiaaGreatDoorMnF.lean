/-
  How the head falls: the program's kinds behind an interface.
-/
import Derived.Test.YtfgmalnkpgloiaaGreatDoorMnK
import Derived.Test.YtfgmalnkpgloiaaGreatDoorMnRm
namespace Go.Proofs.YtfgmalnkpgloiaaGreatDoor
open Go.RowKit Go.Deep
theorem mag_any (x : Int) (w : World) (h1 : -100000 ≤ x) (h2 : x ≤ 100000) : Calls Tryz.prog 85 #[.int .i64 x] w fun e w' => e = .returned (.int .i64 (x.natAbs : Int)) ∧ w' = w := by
  by_cases hx : x < 0
  · have HE : Hid ((x.natAbs : Int) = -x) := by show _ = _; omega
    go_enter Tryz.func85, Tryz.ntmps85
    go_wp2_with fail
    go_ret
    exact ⟨by rw [HE.out]; rfl, rfl⟩
  · have HE : Hid ((x.natAbs : Int) = x) := by show _ = _; omega
    go_enter Tryz.func85, Tryz.ntmps85
    go_wp2_with fail
    go_ret
    exact ⟨by rw [HE.out]; rfl, rfl⟩
theorem fall_nums {d q : Int} (hd0 : 0 ≤ d) (hd1 : d ≤ 101000) (h1 : -100000 ≤ q) (h2 : q ≤ 100000) : (-10100000000 ≤ d * q ∧ d * q ≤ 10100000000) ∧ (-1010000000000000 ≤ d * q * (q.natAbs : Int) ∧ d * q * (q.natAbs : Int) ≤ 1010000000000000) := by
  have a1 := Mn.mul_bd (A := 101000) (B := 100000) (by omega : -101000 ≤ d) hd1 h1 h2 (by omega)
  have a2 := Mn.mul_bd (A := 10100000000) (B := 100000) (by omega : -10100000000 ≤ d * q) (by omega) (by omega : (-100000 : Int) ≤ (q.natAbs : Int)) (by omega) (by omega)
  exact ⟨by omega, by omega⟩
set_option maxRecDepth 100000 in
set_option maxHeartbeats 2000000 in
theorem fallD (d q : Int) (w : World) (hd0 : 0 ≤ d) (hd1 : d ≤ 101000) (h1 : -100000 ≤ q) (h2 : q ≤ 100000) : Calls Tryz.prog 139 #[.agg #[.int .i64 d], .int .i64 q] w fun e w' => e = .returned (.int .i64 (d * q * (q.natAbs : Int))) ∧ Below w.heap.size w w' := by
  have hn := fall_nums hd0 hd1 h1 h2
  have HQ1 : Hid (IntKind.i64.wrap (d * q) = d * q) := mwrap_id (by omega) (by omega)
  have HQ2 : Hid (IntKind.i64.wrap (d * q * (q.natAbs : Int)) = d * q * (q.natAbs : Int)) := mwrap_id (by omega) (by omega)
  have H1 := Lib.hid h1
  have H2 := Lib.hid h2
  have RW0 := Lib.hid (rowN_alloc w [.int .i64 d] 155)
  have BW0 := Lib.hid (nbel_alloc w (.cells #[.int .i64 d] 155))
  clear hn hd0 hd1 h1 h2
  go_enter Tryz.func139, Tryz.ntmps139
  go_wp2_with fail
  obtain ⟨W0, hW0⟩ : ∃ W0, W0 = w.alloc (.cells #[.int .i64 d] 155) := ⟨_, rfl⟩
  have RW1 : Hid (W0.rowIs w.heap.size 155 1 (rowN [.int .i64 d])) := by rw [hW0]; exact RW0.out
  have BW : Hid (Below w.heap.size w W0) := by rw [hW0]; exact BW0.out
  rw [← hW0]
  obtain ⟨X, hX⟩ : ∃ X, X = w.heap.size := ⟨_, rfl⟩
  have RW : Hid (W0.rowIs X 155 1 (rowN [.int .i64 d])) := by rw [hX]; exact RW1.out
  rw [← hX]
  clear hW0 RW0 BW0 RW1 hX
  refine wp_region_held_drew (S := fun V => Below W0.heap.size W0 V) (by kernel_rfl) (Below.refl _ _).drew (fun hHeld => ?_)
  obtain ⟨Z, hZ⟩ : ∃ Z, Z = W0.drew := ⟨_, rfl⟩
  rw [← hZ] at hHeld ⊢
  clear hZ
  refine take_do (i := 0) (v := (.pointer (some ⟨X, 0, none⟩))) rfl (by kernel_rfl) (by kernel_rfl) (by kernel_rfl) (fun _ _ _ h => h) (by rfl) ?_ (by assumption) ?_
  · intro w hSw
    skip
    go_simp
  simp only [Act.put, List.setIfInBounds_toArray, List.set_cons_zero, List.set_cons_succ]
  refine take_do (i := 1) (v := (.int .i64 d)) rfl (by kernel_rfl) (by kernel_rfl) (by kernel_rfl) (fun _ _ _ h => h) (by rfl) ?_ (by assumption) ?_
  · intro w hSw
    have o : w.cell? ⟨X, 0, none⟩ = some (.int .i64 d) := (nrow_below RW.out hSw).cell (i := 0) (by omega)
    go_simp
  simp only [Act.put, List.setIfInBounds_toArray, List.set_cons_zero, List.set_cons_succ]
  refine take_do (i := 2) (v := (.int .i64 q)) rfl (by kernel_rfl) (by kernel_rfl) (by kernel_rfl) (fun _ _ _ h => h) (by rfl) ?_ (by assumption) ?_
  · intro w hSw
    skip
    go_simp
  simp only [Act.put, List.setIfInBounds_toArray, List.set_cons_zero, List.set_cons_succ]
  refine take_do (i := 3) (v := (.int .i64 (d * q))) rfl (by kernel_rfl) (by kernel_rfl) (by kernel_rfl) (fun _ _ _ h => h) (by rfl) ?_ (by assumption) ?_
  · intro w hSw
    have hq := HQ1.out
    go_simp
  simp only [Act.put, List.setIfInBounds_toArray, List.set_cons_zero, List.set_cons_succ]
  refine take_do (i := 4) (v := (.int .i64 q)) rfl (by kernel_rfl) (by kernel_rfl) (by kernel_rfl) (fun _ _ _ h => h) (by rfl) ?_ (by assumption) ?_
  · intro w hSw
    skip
    go_simp
  simp only [Act.put, List.setIfInBounds_toArray, List.set_cons_zero, List.set_cons_succ]
  refine take_call (i := 5) rfl (by kernel_rfl) (fun K2 hK => ?_)
  go_simp
  refine (mag_any q _ H1.out H2.out).mono ?_
  rintro e w5 ⟨rfl, rfl⟩
  go_wp2_with fail
  refine hK.out _ _ hHeld (fun hHeld2 => ?_)
  clear hK hHeld
  have hHeld := hHeld2
  clear hHeld2
  refine take_do (i := 6) (v := (.int .i64 (d * q * (q.natAbs : Int)))) rfl (by kernel_rfl) (by kernel_rfl) (by kernel_rfl) (fun _ _ _ h => h) (by rfl) ?_ (by assumption) ?_
  · intro w hSw
    have hq := HQ2.out
    go_simp
  simp only [Act.put, List.setIfInBounds_toArray, List.set_cons_zero, List.set_cons_succ]
  refine take_do (i := 7) (v := (.int .i64 (d * q * (q.natAbs : Int)))) rfl (by kernel_rfl) (by kernel_rfl) (by kernel_rfl) (fun _ _ _ h => h) (by rfl) ?_ (by assumption) ?_
  · intro w hSw
    skip
    go_simp
  simp only [Act.put, List.setIfInBounds_toArray, List.set_cons_zero, List.set_cons_succ]
  refine wpAnyH_done (by kernel_rfl) ?_ _
  have B3 := Lib.hid hHeld
  clear hHeld
  go_wp2_with fail
  go_ret
  exact ⟨rfl, BW.out.trans (B3.out.mono BW.out.size)⟩
set_option maxRecDepth 100000 in
set_option maxHeartbeats 2000000 in
theorem fallP (d l q : Int) (w : World) (hd0 : 0 ≤ d) (hd1 : d ≤ 101000) (hl0 : 0 ≤ l) (hl1 : l ≤ 100000) (h1 : -100000 ≤ q) (h2 : q ≤ 100000) : Calls Tryz.prog 143 #[.agg #[.int .i64 d, .int .i64 l], .int .i64 q] w fun e w' => e = .returned (.int .i64 (d * q * (q.natAbs : Int) - l)) ∧ Below w.heap.size w w' := by
  have hn := fall_nums hd0 hd1 h1 h2
  have HQ2 : Hid (IntKind.i64.wrap (d * q * (q.natAbs : Int) - l) = d * q * (q.natAbs : Int) - l) := mwrap_id (by omega) (by omega)
  have H1 := Lib.hid h1
  have H2 := Lib.hid h2
  replace hd0 := Lib.hid hd0
  replace hd1 := Lib.hid hd1
  have RW0 := Lib.hid (rowN_alloc w [.int .i64 d, .int .i64 l] 159)
  have BW0 := Lib.hid (nbel_alloc w (.cells #[.int .i64 d, .int .i64 l] 159))
  clear hn h1 h2 hl0 hl1
  go_enter Tryz.func143, Tryz.ntmps143
  go_wp2_with fail
  obtain ⟨W0, hW0⟩ : ∃ W0, W0 = w.alloc (.cells #[.int .i64 d, .int .i64 l] 159) := ⟨_, rfl⟩
  have RW1 : Hid (W0.rowIs w.heap.size 159 2 (rowN [.int .i64 d, .int .i64 l])) := by rw [hW0]; exact RW0.out
  have BW : Hid (Below w.heap.size w W0) := by rw [hW0]; exact BW0.out
  rw [← hW0]
  obtain ⟨X, hX⟩ : ∃ X, X = w.heap.size := ⟨_, rfl⟩
  have RW : Hid (W0.rowIs X 159 2 (rowN [.int .i64 d, .int .i64 l])) := by rw [hX]; exact RW1.out
  rw [← hX]
  clear hW0 RW0 BW0 RW1 hX
  refine wp_region_held_drew (S := fun V => Below W0.heap.size W0 V) (by kernel_rfl) (Below.refl _ _).drew (fun hHeld => ?_)
  obtain ⟨Z, hZ⟩ : ∃ Z, Z = W0.drew := ⟨_, rfl⟩
  rw [← hZ] at hHeld ⊢
  clear hZ
  refine take_do (i := 0) (v := (.pointer (some ⟨X, 0, none⟩))) rfl (by kernel_rfl) (by kernel_rfl) (by kernel_rfl) (fun _ _ _ h => h) (by rfl) ?_ (by assumption) ?_
  · intro w hSw
    skip
    go_simp
  simp only [Act.put, List.setIfInBounds_toArray, List.set_cons_zero, List.set_cons_succ]
  refine take_do (i := 1) (v := (.pointer (some ⟨X, 0, none⟩))) rfl (by kernel_rfl) (by kernel_rfl) (by kernel_rfl) (fun _ _ _ h => h) (by rfl) ?_ (by assumption) ?_
  · intro w hSw
    skip
    go_simp
  simp only [Act.put, List.setIfInBounds_toArray, List.set_cons_zero, List.set_cons_succ]
  refine take_do (i := 2) (v := (.agg #[.int .i64 d])) rfl (by kernel_rfl) (by kernel_rfl) (by kernel_rfl) (fun _ _ _ h => h) (by rfl) ?_ (by assumption) ?_
  · intro w hSw
    have o : w.cell? ⟨X, 0, none⟩ = some (.int .i64 d) := (nrow_below RW.out hSw).cell (i := 0) (by omega)
    go_simp
  simp only [Act.put, List.setIfInBounds_toArray, List.set_cons_zero, List.set_cons_succ]
  refine take_do (i := 3) (v := (.int .i64 q)) rfl (by kernel_rfl) (by kernel_rfl) (by kernel_rfl) (fun _ _ _ h => h) (by rfl) ?_ (by assumption) ?_
  · intro w hSw
    skip
    go_simp
  simp only [Act.put, List.setIfInBounds_toArray, List.set_cons_zero, List.set_cons_succ]
  refine take_do (i := 5) (v := (.pointer (some ⟨X, 1, none⟩))) rfl (by kernel_rfl) (by kernel_rfl) (by kernel_rfl) (fun _ _ _ h => h) (by rfl) ?_ (by assumption) ?_
  · intro w hSw
    skip
    go_simp
  simp only [Act.put, List.setIfInBounds_toArray, List.set_cons_zero, List.set_cons_succ]
  refine take_do (i := 6) (v := (.int .i64 l)) rfl (by kernel_rfl) (by kernel_rfl) (by kernel_rfl) (fun _ _ _ h => h) (by rfl) ?_ (by assumption) ?_
  · intro w hSw
    have o : w.cell? ⟨X, 1, none⟩ = some (.int .i64 l) := (nrow_below RW.out hSw).cell (i := 1) (by omega)
    go_simp
  simp only [Act.put, List.setIfInBounds_toArray, List.set_cons_zero, List.set_cons_succ]
  refine take_call (i := 4) rfl (by kernel_rfl) (fun K2 hK => ?_)
  go_simp
  refine (fallD d q _ hd0.out hd1.out H1.out H2.out).mono ?_
  rintro e w5 ⟨rfl, hb⟩
  go_wp2_with fail
  refine hK.out _ _ (hHeld.trans (hb.mono hHeld.size)) (fun hHeld2 => ?_)
  clear hK hHeld hb
  have hHeld := hHeld2
  clear hHeld2
  refine take_do (i := 7) (v := (.int .i64 (d * q * (q.natAbs : Int) - l))) rfl (by kernel_rfl) (by kernel_rfl) (by kernel_rfl) (fun _ _ _ h => h) (by rfl) ?_ (by assumption) ?_
  · intro w hSw
    have hq := HQ2.out
    go_simp
  simp only [Act.put, List.setIfInBounds_toArray, List.set_cons_zero, List.set_cons_succ]
  refine take_do (i := 8) (v := (.int .i64 (d * q * (q.natAbs : Int) - l))) rfl (by kernel_rfl) (by kernel_rfl) (by kernel_rfl) (fun _ _ _ h => h) (by rfl) ?_ (by assumption) ?_
  · intro w hSw
    skip
    go_simp
  simp only [Act.put, List.setIfInBounds_toArray, List.set_cons_zero, List.set_cons_succ]
  refine wpAnyH_done (by kernel_rfl) ?_ _
  have B3 := Lib.hid hHeld
  clear hHeld
  go_wp2_with fail
  go_ret
  exact ⟨rfl, BW.out.trans (B3.out.mono BW.out.size)⟩
abbrev fallN : String := "loop.example/g00068/impl.fall"
theorem fm2 (k : Nat) (d l : Value) (w : World) : (Go.method (k + 4) 159 (.agg #[d, l]) fallN).run Tryz.prog w = .ok (143, .agg #[d, l]) w := by kernel_rfl
theorem fm3 (k : Nat) (d : Value) (w : World) : (Go.method (k + 4) 157 (.agg #[d]) fallN).run Tryz.prog w = .ok (139, .agg #[d]) w := by kernel_rfl
theorem fm4 (k : Nat) (d : Value) (w : World) : (Go.method (k + 4) 155 (.agg #[d]) fallN).run Tryz.prog w = .ok (139, .agg #[d]) w := by kernel_rfl
theorem fm5 (k : Nat) (d : Value) (w : World) : (Go.method (k + 4) 160 (.agg #[d]) fallN).run Tryz.prog w = .ok (139, .agg #[d]) w := by kernel_rfl
theorem fm6 (k : Nat) (d l : Value) (w : World) : (Go.method (k + 4) 162 (.agg #[d, l]) fallN).run Tryz.prog w = .ok (139, .agg #[d]) w := by kernel_rfl
/-- What an invocation of fall comes to. -/
theorem fall_of (m : Mn.Mains) (i : Nat) (h : Mn.PipeOk m i) (q : Int) (h1 : -100000 ≤ q) (h2 : q ≤ 100000) : ∃ (T : TypeId) (v : Value) (f : FuncId) (r : Value), kv m i = .iface T v ∧ (∀ k w, (Go.method (k + 4) T v fallN).run Tryz.prog w = .ok (f, r) w) ∧ (∀ args w, (callFunc f args).run Tryz.prog w = .ok (.enter f args) w) ∧ ∀ w, Calls Tryz.prog f #[r, .int .i64 q] w fun e w' => e = .returned (.int .i64 (Mn.fall m i q)) ∧ Below w.heap.size w w' := by
  have eD := enters_of Tryz.func139 (by kernel_rfl) rfl
  have eP := enters_of Tryz.func143 (by kernel_rfl) rfl
  have k16 : m.P (i * 5) = 1 ∨ m.P (i * 5) = 2 ∨ m.P (i * 5) = 3 ∨ m.P (i * 5) = 4 ∨ m.P (i * 5) = 5 ∨ m.P (i * 5) = 6 := by have := h.k1; have := h.k2; omega
  have d0 := h.d0
  have d1 := h.d1
  have m0 := h.m0
  have m1 := h.m1
  unfold kv Mn.fall Mn.dragOf
  rcases k16 with e | e | e | e | e | e <;> rw [e] <;> simp only [kvN]
  · exact ⟨_, _, _, _, rfl, fun k w => fm4 k _ w, eD, fun w => by simpa using fallD _ q w d0 (by omega) h1 h2⟩
  · exact ⟨_, _, _, _, rfl, fun k w => fm2 k _ _ w, eP, fun w => by simpa using fallP _ _ q w d0 (by omega) m0 m1 h1 h2⟩
  · exact ⟨_, _, _, _, rfl, fun k w => fm3 k _ w, eD, fun w => by simpa using fallD _ q w d0 (by omega) h1 h2⟩
  · exact ⟨_, _, _, _, rfl, fun k w => fm4 k _ w, eD, fun w => by simpa using fallD _ q w (by omega) (by omega) h1 h2⟩
  · exact ⟨_, _, _, _, rfl, fun k w => fm5 k _ w, eD, fun w => by simpa using fallD 0 q w (by omega) (by omega) h1 h2⟩
  · exact ⟨_, _, _, _, rfl, fun k w => fm6 k _ _ w, eD, fun w => by simpa using fallD _ q w d0 (by omega) h1 h2⟩
end Go.Proofs.YtfgmalnkpgloiaaGreatDoor
