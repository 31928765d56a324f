/-
  The marks of a list of frames found again.
-/
import Derived.Test.YtgkgpdionhfkmaaDoorMarkS
namespace Go.Proofs.YtgkgpdionhfkmaaDoor
open Go.RowKit Go.Deep

theorem keepOne {w W W' : World} {p : Addr} {y : Value} (hb : Below W.heap.size W W') (h : W.cell? p = some y ∧ Hid (Below w.heap.size w W)) : W'.cell? p = some y ∧ Hid (Below w.heap.size w W') :=
  ⟨(hb.cell (World.block_lt_of_cell? _ _ h.1)).trans h.1, h.2.out.trans (hb.mono h.2.out.size)⟩

set_option linter.unusedSimpArgs false in
set_option maxRecDepth 100000 in
set_option maxHeartbeats 2000000 in
theorem heldFrameS_any (g n cap k : Nat) (f : Nat → Value) (w : World) (h : w.rowIs g 27 (cap * 4) f) (hm : Marked k n f) (hn : n ≤ cap) (hn2 : n ≤ 1048576) (hk : k ≤ 1048576) :
    Calls Tryd.prog 31 #[.slice (some ⟨g, 0, none⟩) n cap, .int .i64 k] w fun e w' => e = .returned (.int .i64 ((k + n * 4 : Nat) : Int)) ∧ Below w.heap.size w w' := by
  have H := Lib.hid h
  have HM := Lib.hid hm
  clear h hm
  go_enter Tryd.func31, Tryd.ntmps31
  go_wp2_with fail
  go_loopw [1, 5] (fun kv iv wr => ∃ (i : Nat), i ≤ n ∧ kv = .int .i64 ((k + i * 4 : Nat) : Int) ∧ iv = .int .i64 i ∧ Hid (Below w.heap.size w wr)) (fun _ iv _ => n - (intOf iv).toNat)
  case atStart => exact ⟨0, Nat.zero_le _, by simp, rfl, Below.refl _ _⟩
  case round =>
    obtain ⟨i, hi, rfl, rfl, hB⟩ := hrel
    by_cases hlt : i < n
    · have hltz : (i : Int) < (n : Int) := by omega
      have hR : wr.rowIs g 27 (cap * 4) f := H.out.of_block (hB.out.block g H.out.lt)
      have c0 := hR.cell (i := i * 4) (by omega)
      have c1 := hR.cell (i := i * 4 + 1) (by omega)
      have c2 := hR.cell (i := i * 4 + 2) (by omega)
      have c3 := hR.cell (i := i * 4 + 3) (by omega)
      obtain ⟨m0, m1, m2, m3⟩ := HM.out i hlt
      rw [m0] at c0
      rw [m1] at c1
      rw [m2] at c2
      rw [m3] at c3
      clear hR m0 m1 m2 m3
      obtain ⟨K, hK⟩ : ∃ K : Nat, K = k + i * 4 := ⟨_, rfl⟩
      rw [← hK] at c0 c1 c2 c3 ⊢
      have hK2 : K ≤ 6291456 := by omega
      have HKE : Hid (K = k + i * 4) := hK
      have e1 : ((K + 1 : Nat) : Int) = (K : Int) + 1 := by omega
      have e2 : ((K + 2 : Nat) : Int) = (K : Int) + 1 + 1 := by omega
      have e3 : ((K + 3 : Nat) : Int) = (K : Int) + 1 + 1 + 1 := by omega
      have HT := Lib.hid (fun wx => markText_any (K + 3) (by omega) wx)
      rw [e3] at HT
      rw [e1] at c1
      rw [e2] at c2
      clear hK e1 e2 e3
      go_wp2_with fail
      clear c0 c1 c2
      refine wp_region_held_drew (S := (fun w' => w'.cell? ⟨g, i * 4 + 3, none⟩ = some (.string (markB (K + 3))) ∧ Hid (Below w.heap.size w w'))) (by kernel_rfl) (keepOne (Below.refl _ _).drew ⟨c3, hB⟩) (fun hHeld => ?_)
      clear c3 hB
      refine take_do (i := 0) (v := (.slice (some ⟨g, 0, none⟩) n cap)) rfl (by kernel_rfl) (by kernel_rfl) (by kernel_rfl) (fun _ _ _ h => h) (by rfl) ?_ (by assumption) ?_
      · intro w hSw
        go_simp
      simp only [Act.put, List.setIfInBounds_toArray, List.set_cons_zero, List.set_cons_succ]
      refine take_do (i := 1) (v := (.int .i64 i)) rfl (by kernel_rfl) (by kernel_rfl) (by kernel_rfl) (fun _ _ _ h => h) (by rfl) ?_ (by assumption) ?_
      · intro w hSw
        go_simp
      simp only [Act.put, List.setIfInBounds_toArray, List.set_cons_zero, List.set_cons_succ]
      refine take_do (i := 2) (v := (.pointer (some ⟨g, i * 4, none⟩))) rfl (by kernel_rfl) (by kernel_rfl) (by kernel_rfl) (fun _ _ _ h => h) (by rfl) ?_ (by assumption) ?_
      · intro w hSw
        go_simp
      simp only [Act.put, List.setIfInBounds_toArray, List.set_cons_zero, List.set_cons_succ]
      refine take_do (i := 3) (v := (.pointer (some ⟨g, i * 4 + 3, none⟩))) rfl (by kernel_rfl) (by kernel_rfl) (by kernel_rfl) (fun _ _ _ h => h) (by rfl) ?_ (by assumption) ?_
      · intro w hSw
        go_simp
      simp only [Act.put, List.setIfInBounds_toArray, List.set_cons_zero, List.set_cons_succ]
      refine take_do (i := 4) (v := (.string (markB (K + 3)))) rfl (by kernel_rfl) (by kernel_rfl) (by kernel_rfl) (fun _ _ _ h => h) (by rfl) ?_ (by assumption) ?_
      · intro w hSw
        go_simp
      simp only [Act.put, List.setIfInBounds_toArray, List.set_cons_zero, List.set_cons_succ]
      refine take_do (i := 5) (v := (.int .i64 ((K : Int) + 1 + 1 + 1))) rfl (by kernel_rfl) (by kernel_rfl) (by kernel_rfl) (fun _ _ _ h => h) (by rfl) ?_ (by assumption) ?_
      · intro w hSw
        go_simp
      simp only [Act.put, List.setIfInBounds_toArray, List.set_cons_zero, List.set_cons_succ]
      refine take_call (i := 6) rfl (by kernel_rfl) (fun K2 hK => ?_)
      go_simp
      refine (HT.out _).mono ?_
      rintro e w' ⟨rfl, hb⟩
      go_wp2_with fail
      refine hK.out _ _ (keepOne hb hHeld) (fun hHeld2 => ?_)
      clear hK hHeld hb
      have hHeld := hHeld2
      clear hHeld2
      refine take_do (i := 7) (v := (.bool false)) rfl (by kernel_rfl) (by kernel_rfl) (by kernel_rfl) (fun _ _ _ h => h) (by rfl) ?_ (by assumption) ?_
      · intro w hSw
        go_simp
      simp only [Act.put, List.setIfInBounds_toArray, List.set_cons_zero, List.set_cons_succ]
      refine wpAnyH_done (by kernel_rfl) ?_ _
      go_wp2_with fail
      go_roundw
      case rel =>
        refine ⟨i + 1, by omega, ?_, by go_num, hHeld.2⟩
        have := HKE.out
        congr 1; omega
      case measure => simp [intOf]; omega
    · obtain rfl : i = n := by omega
      go_wp2_with fail
      go_ret
      exact ⟨rfl, hB.out⟩
end Go.Proofs.YtgkgpdionhfkmaaDoor
