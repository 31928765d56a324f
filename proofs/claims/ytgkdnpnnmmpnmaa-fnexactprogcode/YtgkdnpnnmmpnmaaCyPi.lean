/-
  The code of a program: the ops of a block.
-/
import Derived.Test.YtgkdnpnnmmpnmaaCyOp
import Derived.Test.YtgkdnpnnmmpnmaaCyPd
namespace Go.Proofs.Ytgkdnpnnmmpnmaa
open Go.RowKit Go.Deep

/-- A fresh list of ops. -/
def OpsAt (m : List Pc.Op) (e : Ending) (W : World) : Prop := ∃ g, e = .returned (.slice (some ⟨g, 0, none⟩) m.length m.length) ∧ ∀ j u, (opV m)[j]? = some u → W.cell? ((⟨g, 0, none⟩ : Addr).add j) = some u
set_option maxRecDepth 100000 in
set_option maxHeartbeats 4000000 in
theorem loadOf_any (x : Int) (w : World) : Calls Try.prog 36 #[.int .i64 x] w fun e w' => e = .returned (.agg #[.int .i64 7, .int .i64 x, .int .i64 0]) ∧ Below w.heap.size w w' := by
  go_enter Try.func36, Try.ntmps36
  go_wp2_with fail
  exact bodyPost_ret (v := .agg #[.int .i64 7, .int .i64 x, .int .i64 0]) (by simp [results, Try.results36, go_sem]) rfl ⟨rfl, nbel_alloc _ _⟩
set_option maxRecDepth 100000 in
set_option maxHeartbeats 8000000 in
theorem opsOf_any (i : Nat) (b : Pg.Bk) (w : World) (hk : 1 ≤ b.kind ∧ b.kind ≤ 7) : Calls Try.prog 35 #[.int .i64 (i : Nat), bkV b] w fun e w' => OpsAt (Pc.opsB i b) e w' ∧ Below w.heap.size w w' := by
  obtain ⟨W, hW⟩ : ∃ W, W = w.alloc (.cells #[.int .i64 b.kind, .string b.name, .int .i64 b.a, .int .i64 b.b] 59) := ⟨_, rfl⟩
  have R0 : Hid (W.rowIs w.heap.size 59 4 (rowN [.int .i64 b.kind, .string b.name, .int .i64 b.a, .int .i64 b.b])) := by show World.rowIs _ _ _ _ _; rw [hW]; exact rowN_alloc w [.int .i64 b.kind, .string b.name, .int .i64 b.a, .int .i64 b.b] _
  have B0 : Hid (Below w.heap.size w W) := by show Below _ _ _; rw [hW]; exact nbel_alloc _ _
  have HW := Lib.hid hW
  have hkc : b.kind = 1 ∨ b.kind = 2 ∨ b.kind = 3 ∨ b.kind = 4 ∨ b.kind = 5 ∨ b.kind = 6 ∨ b.kind = 7 := by omega
  clear hW hk
  obtain ⟨⟨x0, x1, x2, x3⟩, _⟩ := rowN4 R0.out
  rw [HW.out] at x0 x1 x2 x3
  rcases hkc with hk | hk | hk | hk | hk | hk | hk
  · have HB : Hid (Pc.opsB i b = [(1, 0, 0)]) := opsB_1 hk
    have q1 : (b.kind == 1) = true := by rw [hk]; rfl
    clear hk
    go_enter Try.func35, Try.ntmps35
    go_wp2_with fail
    go_ret
    exact ⟨by rw [HB.out]; exact ⟨_, rfl, ops_new' _ [(1, 0, 0)] _ _ (by simp)⟩, (nbel_alloc _ _).alloc (by simp) _⟩
  · have HB : Hid (Pc.opsB i b = [(7, b.a, 0), (7, b.b, 0), (2, 0, 0)]) := opsB_2 hk
    have q1 : (b.kind == 1) = false := by rw [hk]; rfl
    have q2 : (b.kind == 2) = true := by rw [hk]; rfl
    clear hk
    go_enter Try.func35, Try.ntmps35
    go_wp2_with fail
    rw [← HW.out]
    clear HW x0 x1 x2 x3
    obtain ⟨W1, hW1⟩ : ∃ W1, W1 = W := ⟨_, rfl⟩
    have B1 : Hid (Below w.heap.size w W1) := by show Below _ _ _; rw [hW1]; exact B0.out
    rw [← hW1] at R0 ⊢
    clear hW1
    refine wp_region_held_drew (S := fun V => Below W1.heap.size W1 V) (by kernel_rfl) (Below.refl _ _).drew (fun hHeld => ?_)
    obtain ⟨Z, hZ⟩ : ∃ Z, Z = W1.drew := ⟨_, rfl⟩
    rw [← hZ] at hHeld ⊢
    clear hZ
    refine take_do (i := 0) (v := (.pointer (some ⟨w.heap.size, 2, none⟩))) rfl (by kernel_rfl) (by kernel_rfl) (by kernel_rfl) (fun _ _ _ h => h) (by rfl) ?_ (by assumption) ?_
    · intro w hSw
      go_simp
    simp only [Act.put, List.setIfInBounds_toArray, List.set_cons_zero, List.set_cons_succ]
    refine take_do (i := 1) (v := (.int .i64 b.a)) rfl (by kernel_rfl) (by kernel_rfl) (by kernel_rfl) (fun _ _ _ h => h) (by rfl) ?_ (by assumption) ?_
    · intro w hSw
      obtain ⟨⟨a0, a1, a2, a3⟩, _⟩ := rowN4 (nrow_below R0.out hSw)
      go_simp
    simp only [Act.put, List.setIfInBounds_toArray, List.set_cons_zero, List.set_cons_succ]
    refine take_do (i := 3) (v := (.pointer (some ⟨w.heap.size, 3, none⟩))) rfl (by kernel_rfl) (by kernel_rfl) (by kernel_rfl) (fun _ _ _ h => h) (by rfl) ?_ (by assumption) ?_
    · intro w hSw
      go_simp
    simp only [Act.put, List.setIfInBounds_toArray, List.set_cons_zero, List.set_cons_succ]
    refine take_do (i := 4) (v := (.int .i64 b.b)) rfl (by kernel_rfl) (by kernel_rfl) (by kernel_rfl) (fun _ _ _ h => h) (by rfl) ?_ (by assumption) ?_
    · intro w hSw
      obtain ⟨⟨a0, a1, a2, a3⟩, _⟩ := rowN4 (nrow_below R0.out hSw)
      go_simp
    simp only [Act.put, List.setIfInBounds_toArray, List.set_cons_zero, List.set_cons_succ]
    refine take_do (i := 6) (v := (.agg #[.int .i64 2, .int .i64 0, .int .i64 0])) rfl (by kernel_rfl) (by kernel_rfl) (by kernel_rfl) (fun _ _ _ h => h) (by rfl) ?_ (by assumption) ?_
    · intro w hSw
      go_simp
    simp only [Act.put, List.setIfInBounds_toArray, List.set_cons_zero, List.set_cons_succ]
    refine take_call (i := 2) rfl (by kernel_rfl) (fun K2 hK => ?_)
    go_simp
    refine (loadOf_any b.a _).mono ?_
    rintro e w12 ⟨rfl, hb⟩
    go_wp2_with fail
    refine hK.out _ _ (hHeld.trans (hb.mono hHeld.size)) (fun hHeld2 => ?_)
    clear hK hHeld hb
    have hHeld := hHeld2
    clear hHeld2
    refine take_call (i := 5) rfl (by kernel_rfl) (fun K2 hK => ?_)
    go_simp
    refine (loadOf_any b.b _).mono ?_
    rintro e w15 ⟨rfl, hb⟩
    go_wp2_with fail
    refine hK.out _ _ (hHeld.trans (hb.mono hHeld.size)) (fun hHeld2 => ?_)
    clear hK hHeld hb
    have hHeld := hHeld2
    clear hHeld2
    refine take_call (i := 7) rfl (by kernel_rfl) (fun K2 hK => ?_)
    go_simp
    refine hK.out _ _ (hHeld.alloc hHeld.size _) (fun hHeld2 => ?_)
    clear hK
    refine take_do (i := 8) (v := (.slice (some ⟨w15.heap.size, 0, none⟩) 3 3)) rfl (by kernel_rfl) (by kernel_rfl) (by kernel_rfl) (fun _ _ _ h => h) (by rfl) ?_ (by assumption) ?_
    · intro w hSw
      go_simp
    simp only [Act.put, List.setIfInBounds_toArray, List.set_cons_zero, List.set_cons_succ]
    refine wpAnyH_done (by kernel_rfl) ?_ _
    go_wp2_with fail
    go_ret
    exact ⟨by rw [HB.out]; exact ⟨_, rfl, ops_new w15 [(7, b.a, 0), (7, b.b, 0), (2, 0, 0)] _⟩, B1.out.trans (hHeld2.mono B1.out.size)⟩
  · have HB : Hid (Pc.opsB i b = [(7, b.a, 0), (7, b.b, 0), (3, 0, 0)]) := opsB_3 hk
    have q1 : (b.kind == 1) = false := by rw [hk]; rfl
    have q2 : (b.kind == 2) = false := by rw [hk]; rfl
    have q3 : (b.kind == 3) = true := by rw [hk]; rfl
    clear hk
    go_enter Try.func35, Try.ntmps35
    go_wp2_with fail
    rw [← HW.out]
    clear HW x0 x1 x2 x3
    obtain ⟨W1, hW1⟩ : ∃ W1, W1 = W := ⟨_, rfl⟩
    have B1 : Hid (Below w.heap.size w W1) := by show Below _ _ _; rw [hW1]; exact B0.out
    rw [← hW1] at R0 ⊢
    clear hW1
    refine wp_region_held_drew (S := fun V => Below W1.heap.size W1 V) (by kernel_rfl) (Below.refl _ _).drew (fun hHeld => ?_)
    obtain ⟨Z, hZ⟩ : ∃ Z, Z = W1.drew := ⟨_, rfl⟩
    rw [← hZ] at hHeld ⊢
    clear hZ
    refine take_do (i := 0) (v := (.pointer (some ⟨w.heap.size, 2, none⟩))) rfl (by kernel_rfl) (by kernel_rfl) (by kernel_rfl) (fun _ _ _ h => h) (by rfl) ?_ (by assumption) ?_
    · intro w hSw
      go_simp
    simp only [Act.put, List.setIfInBounds_toArray, List.set_cons_zero, List.set_cons_succ]
    refine take_do (i := 1) (v := (.int .i64 b.a)) rfl (by kernel_rfl) (by kernel_rfl) (by kernel_rfl) (fun _ _ _ h => h) (by rfl) ?_ (by assumption) ?_
    · intro w hSw
      obtain ⟨⟨a0, a1, a2, a3⟩, _⟩ := rowN4 (nrow_below R0.out hSw)
      go_simp
    simp only [Act.put, List.setIfInBounds_toArray, List.set_cons_zero, List.set_cons_succ]
    refine take_do (i := 3) (v := (.pointer (some ⟨w.heap.size, 3, none⟩))) rfl (by kernel_rfl) (by kernel_rfl) (by kernel_rfl) (fun _ _ _ h => h) (by rfl) ?_ (by assumption) ?_
    · intro w hSw
      go_simp
    simp only [Act.put, List.setIfInBounds_toArray, List.set_cons_zero, List.set_cons_succ]
    refine take_do (i := 4) (v := (.int .i64 b.b)) rfl (by kernel_rfl) (by kernel_rfl) (by kernel_rfl) (fun _ _ _ h => h) (by rfl) ?_ (by assumption) ?_
    · intro w hSw
      obtain ⟨⟨a0, a1, a2, a3⟩, _⟩ := rowN4 (nrow_below R0.out hSw)
      go_simp
    simp only [Act.put, List.setIfInBounds_toArray, List.set_cons_zero, List.set_cons_succ]
    refine take_do (i := 6) (v := (.agg #[.int .i64 3, .int .i64 0, .int .i64 0])) rfl (by kernel_rfl) (by kernel_rfl) (by kernel_rfl) (fun _ _ _ h => h) (by rfl) ?_ (by assumption) ?_
    · intro w hSw
      go_simp
    simp only [Act.put, List.setIfInBounds_toArray, List.set_cons_zero, List.set_cons_succ]
    refine take_call (i := 2) rfl (by kernel_rfl) (fun K2 hK => ?_)
    go_simp
    refine (loadOf_any b.a _).mono ?_
    rintro e w12 ⟨rfl, hb⟩
    go_wp2_with fail
    refine hK.out _ _ (hHeld.trans (hb.mono hHeld.size)) (fun hHeld2 => ?_)
    clear hK hHeld hb
    have hHeld := hHeld2
    clear hHeld2
    refine take_call (i := 5) rfl (by kernel_rfl) (fun K2 hK => ?_)
    go_simp
    refine (loadOf_any b.b _).mono ?_
    rintro e w15 ⟨rfl, hb⟩
    go_wp2_with fail
    refine hK.out _ _ (hHeld.trans (hb.mono hHeld.size)) (fun hHeld2 => ?_)
    clear hK hHeld hb
    have hHeld := hHeld2
    clear hHeld2
    refine take_call (i := 7) rfl (by kernel_rfl) (fun K2 hK => ?_)
    go_simp
    refine hK.out _ _ (hHeld.alloc hHeld.size _) (fun hHeld2 => ?_)
    clear hK
    refine take_do (i := 8) (v := (.slice (some ⟨w15.heap.size, 0, none⟩) 3 3)) rfl (by kernel_rfl) (by kernel_rfl) (by kernel_rfl) (fun _ _ _ h => h) (by rfl) ?_ (by assumption) ?_
    · intro w hSw
      go_simp
    simp only [Act.put, List.setIfInBounds_toArray, List.set_cons_zero, List.set_cons_succ]
    refine wpAnyH_done (by kernel_rfl) ?_ _
    go_wp2_with fail
    go_ret
    exact ⟨by rw [HB.out]; exact ⟨_, rfl, ops_new w15 [(7, b.a, 0), (7, b.b, 0), (3, 0, 0)] _⟩, B1.out.trans (hHeld2.mono B1.out.size)⟩
  · have HB : Hid (Pc.opsB i b = [(7, b.a, 0), (4, 0, 0)]) := opsB_4 hk
    have q1 : (b.kind == 1) = false := by rw [hk]; rfl
    have q2 : (b.kind == 2) = false := by rw [hk]; rfl
    have q3 : (b.kind == 3) = false := by rw [hk]; rfl
    have q4 : (b.kind == 4) = true := by rw [hk]; rfl
    clear hk
    go_enter Try.func35, Try.ntmps35
    go_wp2_with fail
    rw [← HW.out]
    clear HW x0 x1 x2 x3
    refine (loadOf_any b.a _).mono ?_
    rintro e w1 ⟨rfl, hb⟩
    have B1 : Hid (Below w.heap.size w w1) := B0.out.trans (hb.mono B0.out.size)
    clear hb
    go_wp2_with fail
    go_ret
    exact ⟨by rw [HB.out]; exact ⟨_, rfl, ops_new w1 [(7, b.a, 0), (4, 0, 0)] _⟩, B1.out.alloc B1.out.size _⟩
  · have HB : Hid (Pc.opsB i b = [(5, b.a, 0)]) := opsB_5 hk
    have q1 : (b.kind == 1) = false := by rw [hk]; rfl
    have q2 : (b.kind == 2) = false := by rw [hk]; rfl
    have q3 : (b.kind == 3) = false := by rw [hk]; rfl
    have q4 : (b.kind == 4) = false := by rw [hk]; rfl
    have q5 : (b.kind == 5) = true := by rw [hk]; rfl
    clear hk
    go_enter Try.func35, Try.ntmps35
    go_wp2_with fail
    go_ret
    exact ⟨by rw [HB.out]; exact ⟨_, rfl, ops_new' _ [(5, b.a, 0)] _ _ (by simp)⟩, (nbel_alloc _ _).alloc (by simp) _⟩
  · have HB : Hid (Pc.opsB i b = [(5, (i : Int), 0), (7, b.a, 0), (3, 0, 0), (7, b.b, 0), (4, 0, 0), (2, 0, 0)]) := opsB_6 hk
    have q1 : (b.kind == 1) = false := by rw [hk]; rfl
    have q2 : (b.kind == 2) = false := by rw [hk]; rfl
    have q3 : (b.kind == 3) = false := by rw [hk]; rfl
    have q4 : (b.kind == 4) = false := by rw [hk]; rfl
    have q5 : (b.kind == 5) = false := by rw [hk]; rfl
    have q6 : (b.kind == 6) = true := by rw [hk]; rfl
    clear hk
    go_enter Try.func35, Try.ntmps35
    go_wp2_with fail
    obtain ⟨W1, hW1⟩ : ∃ W1, W1 = W.alloc (.cells #[.int .i64 5, .int .i64 i, .int .i64 0] 61) := ⟨_, rfl⟩
    have hb1 : Below W.heap.size W W1 := by rw [hW1]; exact nbel_alloc _ _
    have B1 : Hid (Below w.heap.size w W1) := B0.out.trans (hb1.mono B0.out.size)
    have R1 := Lib.hid (nrow_below R0.out hb1)
    have Q1 : Hid (W1.rowIs (w.heap.size + 1) 61 3 (rowN [.int .i64 5, .int .i64 i, .int .i64 0])) := by show World.rowIs _ _ _ _ _; rw [hW1]; exact rowN_alloc' (by rw [HW.out]; simp) [.int .i64 5, .int .i64 i, .int .i64 0] _
    rw [HW.out] at hW1
    rw [← hW1]
    clear hW1 hb1 HW x0 x1 x2 x3 R0
    have R0 := R1
    clear R1
    refine wp_region_held_drew (S := fun V => Below W1.heap.size W1 V) (by kernel_rfl) (Below.refl _ _).drew (fun hHeld => ?_)
    obtain ⟨Z, hZ⟩ : ∃ Z, Z = W1.drew := ⟨_, rfl⟩
    rw [← hZ] at hHeld ⊢
    clear hZ
    refine take_do (i := 0) (v := (.agg #[.int .i64 5, .int .i64 i, .int .i64 0])) rfl (by kernel_rfl) (by kernel_rfl) (by kernel_rfl) (fun _ _ _ h => h) (by rfl) ?_ (by assumption) ?_
    · intro w hSw
      obtain ⟨⟨a0, a1, a2⟩, _⟩ := rowN3 (nrow_below Q1.out hSw)
      go_simp
    simp only [Act.put, List.setIfInBounds_toArray, List.set_cons_zero, List.set_cons_succ]
    refine take_do (i := 1) (v := (.pointer (some ⟨w.heap.size, 2, none⟩))) rfl (by kernel_rfl) (by kernel_rfl) (by kernel_rfl) (fun _ _ _ h => h) (by rfl) ?_ (by assumption) ?_
    · intro w hSw
      go_simp
    simp only [Act.put, List.setIfInBounds_toArray, List.set_cons_zero, List.set_cons_succ]
    refine take_do (i := 2) (v := (.int .i64 b.a)) rfl (by kernel_rfl) (by kernel_rfl) (by kernel_rfl) (fun _ _ _ h => h) (by rfl) ?_ (by assumption) ?_
    · intro w hSw
      obtain ⟨⟨a0, a1, a2, a3⟩, _⟩ := rowN4 (nrow_below R0.out hSw)
      go_simp
    simp only [Act.put, List.setIfInBounds_toArray, List.set_cons_zero, List.set_cons_succ]
    refine take_do (i := 4) (v := (.agg #[.int .i64 3, .int .i64 0, .int .i64 0])) rfl (by kernel_rfl) (by kernel_rfl) (by kernel_rfl) (fun _ _ _ h => h) (by rfl) ?_ (by assumption) ?_
    · intro w hSw
      go_simp
    simp only [Act.put, List.setIfInBounds_toArray, List.set_cons_zero, List.set_cons_succ]
    refine take_do (i := 5) (v := (.pointer (some ⟨w.heap.size, 3, none⟩))) rfl (by kernel_rfl) (by kernel_rfl) (by kernel_rfl) (fun _ _ _ h => h) (by rfl) ?_ (by assumption) ?_
    · intro w hSw
      go_simp
    simp only [Act.put, List.setIfInBounds_toArray, List.set_cons_zero, List.set_cons_succ]
    refine take_do (i := 6) (v := (.int .i64 b.b)) rfl (by kernel_rfl) (by kernel_rfl) (by kernel_rfl) (fun _ _ _ h => h) (by rfl) ?_ (by assumption) ?_
    · intro w hSw
      obtain ⟨⟨a0, a1, a2, a3⟩, _⟩ := rowN4 (nrow_below R0.out hSw)
      go_simp
    simp only [Act.put, List.setIfInBounds_toArray, List.set_cons_zero, List.set_cons_succ]
    refine take_do (i := 8) (v := (.agg #[.int .i64 4, .int .i64 0, .int .i64 0])) rfl (by kernel_rfl) (by kernel_rfl) (by kernel_rfl) (fun _ _ _ h => h) (by rfl) ?_ (by assumption) ?_
    · intro w hSw
      go_simp
    simp only [Act.put, List.setIfInBounds_toArray, List.set_cons_zero, List.set_cons_succ]
    refine take_do (i := 9) (v := (.agg #[.int .i64 2, .int .i64 0, .int .i64 0])) rfl (by kernel_rfl) (by kernel_rfl) (by kernel_rfl) (fun _ _ _ h => h) (by rfl) ?_ (by assumption) ?_
    · intro w hSw
      go_simp
    simp only [Act.put, List.setIfInBounds_toArray, List.set_cons_zero, List.set_cons_succ]
    refine take_call (i := 3) rfl (by kernel_rfl) (fun K2 hK => ?_)
    go_simp
    refine (loadOf_any b.a _).mono ?_
    rintro e w13 ⟨rfl, hb⟩
    go_wp2_with fail
    refine hK.out _ _ (hHeld.trans (hb.mono hHeld.size)) (fun hHeld2 => ?_)
    clear hK hHeld hb
    have hHeld := hHeld2
    clear hHeld2
    refine take_call (i := 7) rfl (by kernel_rfl) (fun K2 hK => ?_)
    go_simp
    refine (loadOf_any b.b _).mono ?_
    rintro e w17 ⟨rfl, hb⟩
    go_wp2_with fail
    refine hK.out _ _ (hHeld.trans (hb.mono hHeld.size)) (fun hHeld2 => ?_)
    clear hK hHeld hb
    have hHeld := hHeld2
    clear hHeld2
    refine take_call (i := 10) rfl (by kernel_rfl) (fun K2 hK => ?_)
    go_simp
    refine hK.out _ _ (hHeld.alloc hHeld.size _) (fun hHeld2 => ?_)
    clear hK
    refine take_do (i := 11) (v := (.slice (some ⟨w17.heap.size, 0, none⟩) 6 6)) rfl (by kernel_rfl) (by kernel_rfl) (by kernel_rfl) (fun _ _ _ h => h) (by rfl) ?_ (by assumption) ?_
    · intro w hSw
      go_simp
    simp only [Act.put, List.setIfInBounds_toArray, List.set_cons_zero, List.set_cons_succ]
    refine wpAnyH_done (by kernel_rfl) ?_ _
    go_wp2_with fail
    go_ret
    exact ⟨by rw [HB.out]; exact ⟨_, rfl, ops_new w17 [(5, (i : Int), 0), (7, b.a, 0), (3, 0, 0), (7, b.b, 0), (4, 0, 0), (2, 0, 0)] _⟩, B1.out.trans (hHeld2.mono B1.out.size)⟩
  · have HB : Hid (Pc.opsB i b = [(7, b.a, 0), (8, (i : Int), b.b)]) := opsB_7 hk
    have q1 : (b.kind == 1) = false := by rw [hk]; rfl
    have q2 : (b.kind == 2) = false := by rw [hk]; rfl
    have q3 : (b.kind == 3) = false := by rw [hk]; rfl
    have q4 : (b.kind == 4) = false := by rw [hk]; rfl
    have q5 : (b.kind == 5) = false := by rw [hk]; rfl
    have q6 : (b.kind == 6) = false := by rw [hk]; rfl
    clear hk
    go_enter Try.func35, Try.ntmps35
    go_wp2_with fail
    rw [← HW.out]
    clear HW x0 x1 x2 x3
    obtain ⟨W1, hW1⟩ : ∃ W1, W1 = W := ⟨_, rfl⟩
    have B1 : Hid (Below w.heap.size w W1) := by show Below _ _ _; rw [hW1]; exact B0.out
    rw [← hW1] at R0 ⊢
    clear hW1
    refine wp_region_held_drew (S := fun V => Below W1.heap.size W1 V) (by kernel_rfl) (Below.refl _ _).drew (fun hHeld => ?_)
    obtain ⟨Z, hZ⟩ : ∃ Z, Z = W1.drew := ⟨_, rfl⟩
    rw [← hZ] at hHeld ⊢
    clear hZ
    refine take_do (i := 0) (v := (.pointer (some ⟨w.heap.size, 2, none⟩))) rfl (by kernel_rfl) (by kernel_rfl) (by kernel_rfl) (fun _ _ _ h => h) (by rfl) ?_ (by assumption) ?_
    · intro w hSw
      go_simp
    simp only [Act.put, List.setIfInBounds_toArray, List.set_cons_zero, List.set_cons_succ]
    refine take_do (i := 1) (v := (.int .i64 b.a)) rfl (by kernel_rfl) (by kernel_rfl) (by kernel_rfl) (fun _ _ _ h => h) (by rfl) ?_ (by assumption) ?_
    · intro w hSw
      obtain ⟨⟨a0, a1, a2, a3⟩, _⟩ := rowN4 (nrow_below R0.out hSw)
      go_simp
    simp only [Act.put, List.setIfInBounds_toArray, List.set_cons_zero, List.set_cons_succ]
    refine take_do (i := 3) (v := (.int .i64 i)) rfl (by kernel_rfl) (by kernel_rfl) (by kernel_rfl) (fun _ _ _ h => h) (by rfl) ?_ (by assumption) ?_
    · intro w hSw
      go_simp
    simp only [Act.put, List.setIfInBounds_toArray, List.set_cons_zero, List.set_cons_succ]
    refine take_do (i := 4) (v := (.pointer (some ⟨w.heap.size, 3, none⟩))) rfl (by kernel_rfl) (by kernel_rfl) (by kernel_rfl) (fun _ _ _ h => h) (by rfl) ?_ (by assumption) ?_
    · intro w hSw
      go_simp
    simp only [Act.put, List.setIfInBounds_toArray, List.set_cons_zero, List.set_cons_succ]
    refine take_do (i := 5) (v := (.int .i64 b.b)) rfl (by kernel_rfl) (by kernel_rfl) (by kernel_rfl) (fun _ _ _ h => h) (by rfl) ?_ (by assumption) ?_
    · intro w hSw
      obtain ⟨⟨a0, a1, a2, a3⟩, _⟩ := rowN4 (nrow_below R0.out hSw)
      go_simp
    simp only [Act.put, List.setIfInBounds_toArray, List.set_cons_zero, List.set_cons_succ]
    refine take_do (i := 6) (v := (.agg #[.int .i64 8, .int .i64 i, .int .i64 b.b])) rfl (by kernel_rfl) (by kernel_rfl) (by kernel_rfl) (fun _ _ _ h => h) (by rfl) ?_ (by assumption) ?_
    · intro w hSw
      go_simp
    simp only [Act.put, List.setIfInBounds_toArray, List.set_cons_zero, List.set_cons_succ]
    refine take_call (i := 2) rfl (by kernel_rfl) (fun K2 hK => ?_)
    go_simp
    refine (loadOf_any b.a _).mono ?_
    rintro e w12 ⟨rfl, hb⟩
    go_wp2_with fail
    refine hK.out _ _ (hHeld.trans (hb.mono hHeld.size)) (fun hHeld2 => ?_)
    clear hK hHeld hb
    have hHeld := hHeld2
    clear hHeld2
    refine take_call (i := 7) rfl (by kernel_rfl) (fun K2 hK => ?_)
    go_simp
    refine hK.out _ _ (hHeld.alloc hHeld.size _) (fun hHeld2 => ?_)
    clear hK
    refine take_do (i := 8) (v := (.slice (some ⟨w12.heap.size, 0, none⟩) 2 2)) rfl (by kernel_rfl) (by kernel_rfl) (by kernel_rfl) (fun _ _ _ h => h) (by rfl) ?_ (by assumption) ?_
    · intro w hSw
      go_simp
    simp only [Act.put, List.setIfInBounds_toArray, List.set_cons_zero, List.set_cons_succ]
    refine wpAnyH_done (by kernel_rfl) ?_ _
    go_wp2_with fail
    go_ret
    exact ⟨by rw [HB.out]; exact ⟨_, rfl, ops_new w12 [(7, b.a, 0), (8, (i : Int), b.b)] _⟩, B1.out.trans (hHeld2.mono B1.out.size)⟩
end Go.Proofs.Ytgkdnpnnmmpnmaa
