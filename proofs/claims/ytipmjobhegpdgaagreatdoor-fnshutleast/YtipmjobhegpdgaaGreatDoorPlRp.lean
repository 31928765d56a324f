/-
  The library's repetition of a list of one number.
-/
import Derived.Test.YtipmjobhegpdgaaGreatDoorPlMath
import Derived.Test.YtipmjobhegpdgaaGreatDoorReg
import Derived.Laws.CopyRow
import Derived.Deep.RegionHeld3
namespace Go.Proofs.YtipmjobhegpdgaaGreatDoor
open Go.RowKit Go.Deep

/-- The upper half of a product with one. -/
def hi1 (y : Int) : Int :=
  IntKind.u64.wrap (IntKind.u64.wrap (IntKind.u64.wrap (IntKind.u64.wrap (bits BinOp.and IntKind.u64 1 4294967295 * bits BinOp.and IntKind.u64 y 4294967295) / 4294967296) / 4294967296) +
    IntKind.u64.wrap (bits BinOp.and IntKind.u64 (IntKind.u64.wrap (IntKind.u64.wrap (bits BinOp.and IntKind.u64 1 4294967295 * bits BinOp.and IntKind.u64 y 4294967295) / 4294967296)) 4294967295 + IntKind.u64.wrap (bits BinOp.and IntKind.u64 1 4294967295 * (y / 4294967296))) / 4294967296)
theorem hi1_zero : ∀ y : Fin 41, hi1 (y.val : Int) = 0 := by decide +kernel
set_option maxRecDepth 100000 in
set_option maxHeartbeats 1000000 in
theorem mul64_any (y : Nat) (hy : y ≤ 40) (w : World) :
    Calls Tryz.prog 103 #[.int .u64 1, .int .u64 (y : Nat)] w fun e w' => e = .returned (.tuple #[.int .u64 0, .int .u64 (y : Nat)]) ∧ w' = w := by
  have h0 := Lib.hid (hi1_zero ⟨y, by omega⟩)
  go_enter Tryz.func103, Tryz.ntmps103
  go_wp2_with fail
  refine bodyPost_ret (v := .tuple #[.int .u64 (hi1 (y : Int)), .int .u64 (y : Nat)]) (by simp [results, Tryz.results103, go_sem, hi1]) rfl ⟨by rw [h0.out], rfl⟩
set_option maxRecDepth 100000 in
set_option maxHeartbeats 1000000 in
theorem mul_any (y : Nat) (hy : y ≤ 40) (w : World) :
    Calls Tryz.prog 91 #[.int .u64 1, .int .u64 (y : Nat)] w fun e w' => e = .returned (.tuple #[.int .u64 0, .int .u64 (y : Nat)]) ∧ w' = w := by
  go_enter Tryz.func91, Tryz.ntmps91
  go_wp2_with fail
  refine (mul64_any y hy _).mono ?_
  rintro e w1 ⟨rfl, rfl⟩
  go_wp2_with fail
  refine bodyPost_ret (v := .tuple #[.int .u64 0, .int .u64 (y : Nat)]) (by simp [results, Tryz.results91, go_sem]) rfl ⟨rfl, rfl⟩
theorem rinfo_i64 : (Tryz.prog.info? 2).map (fun i => (i.zero, i.size, i.bytes)) = some (some (.int .i64 0), 1, 8) := by kernel_rfl
theorem rsize_i64 : (Tryz.prog.info? 2).map (·.size) = some 1 := by kernel_rfl
theorem wrap64_in {z : Int} (h1 : -9223372036854775808 ≤ z) (h2 : z ≤ 9223372036854775807) : IntKind.i64.wrap z = z := by
  simp [IntKind.wrap, IntKind.bits, IntKind.signed]
  omega
/-- A row of cells is filled further. -/
theorem fill_row {w : World} {g n k d : Nat} {x : Value} {T : TypeId} {F : Nat → Value} (h : w.rowIs g T n F) (hF : ∀ j, j < k → F j = x) (hk : k + d ≤ n) (hx : x.oneCell' = true) (a : Addr) (hsrc : ∀ j, j < d → w.cell? (a.add j) = some x) (sLen sCap dLen dCap : Nat) (hm : d = Nat.min sLen dLen) :
    ∃ w', (Builtin.copy_ #[23, 23] 3 #[.slice (some ⟨g, k, none⟩) dLen dCap, .slice (some a) sLen sCap]).run Tryz.prog w = .ok (goInt d) w' ∧ (∃ F', w'.rowIs g T n F' ∧ ∀ j, j < k + d → F' j = x) ∧ Only g w w' := by
  obtain ⟨cur, h1, h2, h3⟩ := h
  have hc := run_copy_row (P := Tryz.prog) w 23 23 3 2 g k dLen dCap a sLen sCap cur T (List.replicate d x) Tryz.underlying23 rsize_i64 h1 (by simp [hm]) (fun j v hv => by
    rw [List.getElem?_replicate] at hv
    split at hv
    · rename_i hj; rw [← Option.some.inj hv]; exact hsrc j hj
    · cases hv) (by simp; omega) (fun v hv => by rw [List.eq_of_mem_replicate hv]; exact hx)
  rw [List.length_replicate] at hc
  refine ⟨_, hc, ⟨fun j => if j < k + d then x else F j, ⟨_, setRow_heap w g cur _ T (0, 0) h1, by simp; omega, fun i hi => ?_⟩, fun j hj => by simp [hj]⟩, ?_⟩
  · have hl : (cur.toList.take k).length = k := by simp; omega
    have hcur : cur.toList[i]? = some (F i) := by rw [Array.getElem?_toList]; exact h3 i hi
    rw [List.getElem?_toArray, List.append_assoc]
    by_cases hik : i < k
    · rw [List.getElem?_append_left (by omega), List.getElem?_take_of_lt hik, hcur, hF i hik]
      simp [show i < k + d by omega]
    · rw [List.getElem?_append_right (by omega), hl]
      by_cases hid : i < k + d
      · rw [List.getElem?_append_left (by simp; omega), List.getElem?_replicate]
        simp [hid, show i - k < d by omega]
      · rw [List.getElem?_append_right (by simp; omega), List.length_replicate, List.getElem?_drop, show k + d + (i - k - d) = i by omega, hcur]
        simp [hid]
  · exact ⟨rfl, rfl, rfl, by simp, fun q _ hq => setRow_other w g q _ hq⟩
set_option maxRecDepth 100000 in
set_option maxHeartbeats 1000000 in
theorem repeat_any (n : Nat) (hn : n ≤ 40) (h0 : 1 ≤ n) (b : Nat) (w : World) (hc : w.cell? ⟨b, 0, none⟩ = some (.int .i64 (-1))) :
    Calls Tryz.prog 78 #[.slice (some ⟨b, 0, none⟩) 1 1, .int .i64 (n : Nat)] w fun e w' => (∃ g, e = .returned (.slice (some ⟨g, 0, none⟩) n n) ∧ w.heap.size ≤ g ∧ ∃ F, w'.rowIs g 2 n F ∧ ∀ j, j < n → F j = .int .i64 (-1)) ∧ Below w.heap.size w w' := by
  have hmk := run_make_row' (P := Tryz.prog) 23 2 (.int .i64 0) 8 Tryz.underlying23 rinfo_i64 rfl .i64 .i64 n (by omega) (by omega)
  have hbw := World.block_lt_of_cell? _ _ hc
  have hR0 := World.rowIs_made w (.int .i64 0) n 2
  obtain ⟨W1, hcp, hF1, hO1⟩ := fill_row (k := 0) (d := 1) (x := .int .i64 (-1)) hR0 (fun j hj => absurd hj (by omega)) (by omega) rfl ⟨b, 0, none⟩ (fun j hj => by
    obtain rfl : j = 0 := by omega
    have := ((nbel_alloc w (.cells (madeCells #[.int .i64 0] n) 2)).cell (p := ⟨b, 0, none⟩) hbw).trans hc
    simpa [Addr.add] using this) 1 1 n n (by simp [Nat.min_def]; omega)
  have HF1 := Lib.hid hF1
  have HO1 := Lib.hid hO1
  clear hF1 hO1 hR0 hc hbw
  go_enter Tryz.func78, Tryz.ntmps78
  go_wp2_with fail
  refine (mul_any n hn _).mono ?_
  rintro e w1 ⟨rfl, rfl⟩
  go_wp2_with fail
  clear hmk hcp
  go_loopw [8] (fun kv wr => ∃ (k : Nat), 1 ≤ k ∧ k ≤ n ∧ kv = .int .i64 k ∧ Hid (∃ F, wr.rowIs w1.heap.size 2 n F ∧ ∀ j, j < k → F j = .int .i64 (-1)) ∧ Hid (Below w1.heap.size w1 wr)) (fun kv _ => n - (intOf kv).toNat)
  case atStart => exact ⟨1, Nat.le_refl _, h0, rfl, HF1.out, (nbel_alloc w1 _).trans ((HO1.out.below (Nat.le_refl _) (by simp)).mono (Nat.le_refl _))⟩
  case round =>
    obtain ⟨k, h1k, hk, rfl, hF, hB⟩ := hrel
    by_cases hlt : k < n
    · have hltz : (k : Int) < (n : Int) := by omega
      have hnek : ¬ n = k := by omega
      obtain ⟨W0, hW0⟩ : ∃ W0, W0 = wr := ⟨_, rfl⟩
      rw [← hW0] at hF hB ⊢
      clear hW0
      obtain ⟨g, hg⟩ : ∃ g, g = w1.heap.size := ⟨_, rfl⟩
      rw [← hg] at hF ⊢
      have HG := Lib.hid hg
      clear hg HF1 HO1
      go_wp2_with fail
      refine wp_region_held_drew (S := fun V => Below w1.heap.size w1 V) (by kernel_rfl) hB.out.drew (fun hHeld => ?_)
      obtain ⟨Z, hZ⟩ : ∃ Z, Z = W0.drew := ⟨_, rfl⟩
      have HFZ : Hid (∃ F, Z.rowIs g 2 n F ∧ ∀ j, j < k → F j = .int .i64 (-1)) := by
        rw [hZ]; obtain ⟨F, h1, h2⟩ := hF.out; exact ⟨F, h1.of_block rfl, h2⟩
      rw [← hZ] at hHeld ⊢
      clear hZ hF hB
      refine take_do (i := 0) (v := (.int .i64 (k : Nat))) rfl (by kernel_rfl) (by kernel_rfl) (by kernel_rfl) (fun _ _ _ h => h) (by rfl) ?_ (by assumption) ?_
      · intro w hSw
        skip
        go_simp
      simp only [Act.put, List.setIfInBounds_toArray, List.set_cons_zero, List.set_cons_succ]
      refine take_do (i := 1) (v := (.slice (some ⟨g, 0, none⟩) n n)) rfl (by kernel_rfl) (by kernel_rfl) (by kernel_rfl) (fun _ _ _ h => h) (by rfl) ?_ (by assumption) ?_
      · intro w hSw
        skip
        go_simp
      simp only [Act.put, List.setIfInBounds_toArray, List.set_cons_zero, List.set_cons_succ]
      refine take_do (i := 2) (v := (.int .i64 (k : Nat))) rfl (by kernel_rfl) (by kernel_rfl) (by kernel_rfl) (fun _ _ _ h => h) (by rfl) ?_ (by assumption) ?_
      · intro w hSw
        skip
        go_simp
      simp only [Act.put, List.setIfInBounds_toArray, List.set_cons_zero, List.set_cons_succ]
      refine take_do (i := 3) (v := (.slice (some ⟨g, k, none⟩) (n - k) (n - k))) rfl (by kernel_rfl) (by kernel_rfl) (by kernel_rfl) (fun _ _ _ h => h) (by rfl) ?_ (by assumption) ?_
      · intro w hSw
        skip
        go_simp
      simp only [Act.put, List.setIfInBounds_toArray, List.set_cons_zero, List.set_cons_succ]
      refine take_do (i := 4) (v := (.slice (some ⟨g, 0, none⟩) n n)) rfl (by kernel_rfl) (by kernel_rfl) (by kernel_rfl) (fun _ _ _ h => h) (by rfl) ?_ (by assumption) ?_
      · intro w hSw
        skip
        go_simp
      simp only [Act.put, List.setIfInBounds_toArray, List.set_cons_zero, List.set_cons_succ]
      refine take_do (i := 5) (v := (.int .i64 (k : Nat))) rfl (by kernel_rfl) (by kernel_rfl) (by kernel_rfl) (fun _ _ _ h => h) (by rfl) ?_ (by assumption) ?_
      · intro w hSw
        skip
        go_simp
      simp only [Act.put, List.setIfInBounds_toArray, List.set_cons_zero, List.set_cons_succ]
      refine take_do (i := 6) (v := (.slice (some ⟨g, 0, none⟩) k n)) rfl (by kernel_rfl) (by kernel_rfl) (by kernel_rfl) (fun _ _ _ h => h) (by rfl) ?_ (by assumption) ?_
      · intro w hSw
        skip
        go_simp
      simp only [Act.put, List.setIfInBounds_toArray, List.set_cons_zero, List.set_cons_succ]
      obtain ⟨d, hd⟩ : ∃ d : Nat, d = Nat.min k (n - k) := ⟨_, rfl⟩
      have hd1 : d ≤ k := by rw [hd]; exact Nat.min_le_left _ _
      have hd2 : d ≤ n - k := by rw [hd]; exact Nat.min_le_right _ _
      have hd3 : 1 ≤ d := by rw [hd]; exact Nat.le_min.2 ⟨h1k, by omega⟩
      obtain ⟨F, hF1, hF2⟩ := HFZ.out
      obtain ⟨V, hcp, hFV, hOV⟩ := fill_row (k := k) (d := d) (x := .int .i64 (-1)) hF1 hF2 (by omega) rfl ⟨g, 0, none⟩ (fun j hj => by
        have := hF1.cell (i := j) (by omega)
        rw [hF2 j (by omega)] at this
        by_cases e : j = 0
        · subst e; simpa [Addr.add] using this
        · simpa [Addr.add, e] using this) k n (n - k) (n - k) hd
      have HFV := Lib.hid hFV
      have HBV : Hid (Below w1.heap.size w1 V) := hHeld.trans ((hOV.below (B := w1.heap.size) (by have := HG.out; omega) hHeld.size).mono (Nat.le_refl _))
      clear hFV hOV hF1 hF2 HFZ hd
      refine take_call (i := 7) rfl (by kernel_rfl) (fun K2 hK => ?_)
      go_simp
      refine hK.out _ _ HBV.out (fun hHeld2 => ?_)
      clear hK hHeld hcp
      have hHeld := hHeld2
      clear hHeld2
      refine take_do (i := 8) (v := (.int .i64 ((k + d : Nat) : Int))) rfl (by kernel_rfl) (by kernel_rfl) (by kernel_rfl) (fun _ _ _ h => h) (by rfl) ?_ (by assumption) ?_
      · intro w hSw
        go_simp
        exact wrap64_in (by omega) (by omega)
      simp only [Act.put, List.setIfInBounds_toArray, List.set_cons_zero, List.set_cons_succ]
      refine take_do (i := 9) (v := (.int .i64 ((k + d : Nat) : Int))) rfl (by kernel_rfl) (by kernel_rfl) (by kernel_rfl) (fun _ _ _ h => h) (by rfl) ?_ (by assumption) ?_
      · intro w hSw
        go_simp
      simp only [Act.put, List.setIfInBounds_toArray, List.set_cons_zero, List.set_cons_succ]
      refine wpAnyH_done (by kernel_rfl) ?_ _
      clear hHeld
      go_wp2_with fail
      go_roundw
      case rel => exact ⟨k + d, by omega, by omega, rfl, HFV, by have := HBV.out; rw [← HG.out] at this; exact this⟩
      case measure => simp [intOf]; omega
    · obtain rfl : k = n := by omega
      go_wp2_with fail
      go_ret
      exact ⟨⟨_, rfl, Nat.le_refl _, hF.out⟩, hB.out⟩
end Go.Proofs.YtipmjobhegpdgaaGreatDoor
