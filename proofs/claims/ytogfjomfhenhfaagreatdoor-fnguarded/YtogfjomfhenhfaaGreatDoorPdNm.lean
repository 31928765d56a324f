/-
  The draw of a name.
-/
import Derived.Test.YtogfjomfhenhfaaGreatDoorDecW
import Derived.Test.YtogfjomfhenhfaaGreatDoorReg
import Derived.Test.YtogfjomfhenhfaaGreatDoorNtMem
namespace Go.Proofs.YtogfjomfhenhfaaGreatDoor
open Go.RowKit Go.Deep

theorem conv_byte (W : World) (g : Nat) (z : Int) (h0 : 0 ≤ z) (h1 : z < 256) (h : W.cell? ⟨g, 0, none⟩ = some (.int .u8 z)) :
    (convert 22 9 (.slice (some ⟨g, 0, none⟩) 1 1)).run Tryz.prog W = .ok (.string ⟨#[UInt8.ofNat z.toNat]⟩) W := by
  have := run_convert_bytes_back (P := Tryz.prog) W 22 9 5 ⟨g, 0, none⟩ 1 [UInt8.ofNat z.toNat] Tryz.underlying22 Tryz.underlying5 Tryz.underlying9 (by
    intro j hj
    obtain rfl : j = 0 := by simpa using hj
    simp only [List.getElem_cons_zero]
    have e : ((UInt8.ofNat z.toNat).toNat : Int) = z := by
      rw [UInt8.toNat_ofNat']
      omega
    rw [e]
    simpa [Addr.add] using h)
  simpa using this
theorem nmwrap {x : Int} (h1 : -9223372036854775808 ≤ x) (h2 : x ≤ 9223372036854775807) : IntKind.i64.wrap x = x := by simp [IntKind.wrap, IntKind.bits, IntKind.signed]; omega
theorem nmwrap8 {x : Int} (h1 : 0 ≤ x) (h2 : x ≤ 255) : IntKind.u8.wrap x = x := by simp [IntKind.wrap, IntKind.bits, IntKind.signed]; omega
theorem dec_str (m : Nat) (w : World) (hm : m ≤ 40) :
    Calls Tryz.prog 85 #[.int .i64 m] w fun e w' => (∃ t : ByteArray, e = .returned (.string t) ∧ t.size ≤ 50) ∧ Below w.heap.size w w' :=
  (specDec_any (m : Int) w (by omega) (by omega)).mono (fun e w' ⟨h1, h2⟩ => ⟨⟨_, h1, by
    have hl : (Lib.itoa (m : Int)).length ≤ m + 1 := by
      unfold Lib.itoa
      rw [if_neg (by omega)]
      exact M.dec_len m
    show (Lib.itoa (m : Int)).toArray.size ≤ 50
    simp
    omega⟩, h2⟩)
set_option maxRecDepth 100000 in
set_option maxHeartbeats 4000000 in
theorem l20Name_any (n : Nat) (w : World) (hn : n ≤ 1000) :
    Calls Tryz.prog 60 #[.int .i64 n] w fun e w' => (∃ s : ByteArray, e = .returned (.string s) ∧ s.size ≤ 64) ∧ Below w.heap.size w w' := by
  go_enter Tryz.func60, Tryz.ntmps60
  go_wp2_with fail
  refine wp_region_held_drew (S := fun V => Below w.heap.size w V) (by kernel_rfl) (Below.refl _ _).drew (fun hHeld => ?_)
  refine take_do (i := 0) (v := (.int .i64 n)) rfl (by kernel_rfl) (by kernel_rfl) (by kernel_rfl) (fun _ _ _ h => h) (by rfl) ?_ (by assumption) ?_
  · intro w hSw
    go_simp
  simp only [Act.put, List.setIfInBounds_toArray, List.set_cons_zero, List.set_cons_succ]
  refine take_do (i := 1) (v := (.int .i64 ((n % 26 : Nat) : Int))) rfl (by kernel_rfl) (by kernel_rfl) (by kernel_rfl) (fun _ _ _ h => h) (by rfl) ?_ (by assumption) ?_
  · intro w hSw
    go_simp
    exact Int.tmod_eq_emod_of_nonneg (by omega)
  simp only [Act.put, List.setIfInBounds_toArray, List.set_cons_zero, List.set_cons_succ]
  refine take_do (i := 2) (v := (.int .i64 (97 + (n : Int) % 26))) rfl (by kernel_rfl) (by kernel_rfl) (by kernel_rfl) (fun _ _ _ h => h) (by rfl) ?_ (by assumption) ?_
  · intro w hSw
    go_simp
    exact nmwrap (by omega) (by omega)
  simp only [Act.put, List.setIfInBounds_toArray, List.set_cons_zero, List.set_cons_succ]
  refine take_do (i := 3) (v := (.int .u8 (97 + (n : Int) % 26))) rfl (by kernel_rfl) (by kernel_rfl) (by kernel_rfl) (fun _ _ _ h => h) (by rfl) ?_ (by assumption) ?_
  · intro w hSw
    go_simp
    exact nmwrap8 (by omega) (by omega)
  simp only [Act.put, List.setIfInBounds_toArray, List.set_cons_zero, List.set_cons_succ]
  refine take_do (i := 6) (v := (.int .i64 n)) rfl (by kernel_rfl) (by kernel_rfl) (by kernel_rfl) (fun _ _ _ h => h) (by rfl) ?_ (by assumption) ?_
  · intro w hSw
    go_simp
  simp only [Act.put, List.setIfInBounds_toArray, List.set_cons_zero, List.set_cons_succ]
  refine take_do (i := 7) (v := (.int .i64 ((n / 26 : Nat) : Int))) rfl (by kernel_rfl) (by kernel_rfl) (by kernel_rfl) (fun _ _ _ h => h) (by rfl) ?_ (by assumption) ?_
  · intro w hSw
    go_simp
    exact nmwrap (by omega) (by omega)
  simp only [Act.put, List.setIfInBounds_toArray, List.set_cons_zero, List.set_cons_succ]
  refine wpAnyH_ready (rs := [4, 8]) (by kernel_rfl) (by simp) (AllReadyH.cons (at_drop (i := 4) rfl) (fun K2 hK => ?_) (AllReadyH.cons (at_drop (i := 8) rfl) (fun K2 hK => ?_) AllReadyH.nil))
  · go_simp
    obtain ⟨V1, hV1⟩ : ∃ V, V = (w.alloc (Obj.cells #[.int .u8 (97 + (n : Int) % 26)] 5)).drew := ⟨_, rfl⟩
    have c0 : V1.cell? ⟨w.heap.size, 0, none⟩ = some (.int .u8 (97 + (n : Int) % 26)) := by rw [hV1]; simp
    have hB1 : Below w.heap.size w V1 := by rw [hV1]; exact ((Below.refl w.heap.size w).alloc (Nat.le_refl _) _).drew
    have hlt : w.heap.size < V1.heap.size := by rw [hV1]; simp
    rw [← hV1]
    clear hV1
    refine hK.out _ _ hB1 (fun hHeld2 => ?_)
    clear hK hHeld hHeld2
    refine wpAnyH_ready (rs := [5, 8]) (by kernel_rfl) (by simp) (AllReadyH.cons (at_drop (i := 5) rfl) (fun K2 hK => ?_) (AllReadyH.cons (at_drop (i := 8) rfl) (fun K2 hK => ?_) AllReadyH.nil))
    · have hcv := conv_byte V1 w.heap.size (97 + (n : Int) % 26) (by omega) (by omega) c0
      go_simp
      refine hK.out _ _ hB1 (fun hHeld2 => ?_)
      clear hK hcv
      refine take_call (i := 8) rfl (by kernel_rfl) (fun K2 hK => ?_)
      go_simp
      refine (dec_str (n / 26) _ (by omega)).mono ?_
      rintro e V2 ⟨⟨t, rfl, ht⟩, hb⟩
      go_wp2_with fail
      refine hK.out _ _ (hB1.trans (hb.mono hB1.size)) (fun hHeld => ?_)
      clear hK hb hHeld2
      refine take_do (i := 9) (v := (.string (⟨#[UInt8.ofNat (97 + (n : Int) % 26).toNat]⟩ ++ t))) rfl (by kernel_rfl) (by kernel_rfl) (by kernel_rfl) (fun _ _ _ h => h) (by rfl) ?_ (by assumption) ?_
      · intro w hSw
        go_simp
        try omega
      simp only [Act.put, List.setIfInBounds_toArray, List.set_cons_zero, List.set_cons_succ]
      refine take_do (i := 10) (v := (.string (⟨#[UInt8.ofNat (97 + (n : Int) % 26).toNat]⟩ ++ t))) rfl (by kernel_rfl) (by kernel_rfl) (by kernel_rfl) (fun _ _ _ h => h) (by rfl) ?_ (by assumption) ?_
      · intro w hSw
        go_simp
      simp only [Act.put, List.setIfInBounds_toArray, List.set_cons_zero, List.set_cons_succ]
      refine wpAnyH_done (by kernel_rfl) ?_ _
      have HB1 := Lib.hid hHeld
      have HT := Lib.hid ht
      clear hHeld
      go_wp2_with fail
      go_ret
      exact ⟨⟨_, rfl, by rw [ByteArray.size_append, show (⟨#[UInt8.ofNat (97 + (n : Int) % 26).toNat]⟩ : ByteArray).size = 1 from rfl]; have := HT.out; omega⟩, HB1.out⟩
    · go_simp
      refine (dec_str (n / 26) _ (by omega)).mono ?_
      rintro e V2 ⟨⟨t, rfl, ht⟩, hb⟩
      have c1 := (hb.cell hlt).trans c0
      go_wp2_with fail
      refine hK.out _ _ (hB1.trans (hb.mono hB1.size)) (fun hHeld2 => ?_)
      clear hK hb
      refine take_call (i := 5) rfl (by kernel_rfl) (fun K2 hK => ?_)
      have hcv := conv_byte V2 w.heap.size (97 + (n : Int) % 26) (by omega) (by omega) c1
      go_simp
      refine hK.out _ _ hHeld2 (fun hHeld => ?_)
      clear hK hcv
      refine take_do (i := 9) (v := (.string (⟨#[UInt8.ofNat (97 + (n : Int) % 26).toNat]⟩ ++ t))) rfl (by kernel_rfl) (by kernel_rfl) (by kernel_rfl) (fun _ _ _ h => h) (by rfl) ?_ (by assumption) ?_
      · intro w hSw
        go_simp
        try omega
      simp only [Act.put, List.setIfInBounds_toArray, List.set_cons_zero, List.set_cons_succ]
      refine take_do (i := 10) (v := (.string (⟨#[UInt8.ofNat (97 + (n : Int) % 26).toNat]⟩ ++ t))) rfl (by kernel_rfl) (by kernel_rfl) (by kernel_rfl) (fun _ _ _ h => h) (by rfl) ?_ (by assumption) ?_
      · intro w hSw
        go_simp
      simp only [Act.put, List.setIfInBounds_toArray, List.set_cons_zero, List.set_cons_succ]
      refine wpAnyH_done (by kernel_rfl) ?_ _
      have HB1 := Lib.hid hHeld
      have HT := Lib.hid ht
      clear hHeld
      go_wp2_with fail
      go_ret
      exact ⟨⟨_, rfl, by rw [ByteArray.size_append, show (⟨#[UInt8.ofNat (97 + (n : Int) % 26).toNat]⟩ : ByteArray).size = 1 from rfl]; have := HT.out; omega⟩, HB1.out⟩
  · go_simp
    refine (dec_str (n / 26) _ (by omega)).mono ?_
    rintro e V0 ⟨⟨t, rfl, ht⟩, hb⟩
    have hB0 : Below w.heap.size w V0 := hHeld.trans (hb.mono hHeld.size)
    go_wp2_with fail
    refine hK.out _ _ hB0 (fun hHeld2 => ?_)
    clear hK hb hHeld
    refine take_call (i := 4) rfl (by kernel_rfl) (fun K2 hK => ?_)
    go_simp
    obtain ⟨V1, hV1⟩ : ∃ V, V = V0.alloc (Obj.cells #[.int .u8 (97 + (n : Int) % 26)] 5) := ⟨_, rfl⟩
    have c0 : V1.cell? ⟨V0.heap.size, 0, none⟩ = some (.int .u8 (97 + (n : Int) % 26)) := by rw [hV1]; simp
    have hB1 : Below w.heap.size w V1 := by rw [hV1]; exact hB0.alloc hB0.size _
    rw [← hV1]
    clear hV1
    refine hK.out _ _ hB1 (fun hHeld => ?_)
    clear hK hHeld2
    refine take_call (i := 5) rfl (by kernel_rfl) (fun K2 hK => ?_)
    have hcv := conv_byte V1 V0.heap.size (97 + (n : Int) % 26) (by omega) (by omega) c0
    go_simp
    refine hK.out _ _ hHeld (fun hHeld3 => ?_)
    clear hK hcv
    refine take_do (i := 9) (v := (.string (⟨#[UInt8.ofNat (97 + (n : Int) % 26).toNat]⟩ ++ t))) rfl (by kernel_rfl) (by kernel_rfl) (by kernel_rfl) (fun _ _ _ h => h) (by rfl) ?_ (by assumption) ?_
    · intro w hSw
      go_simp
      try omega
    simp only [Act.put, List.setIfInBounds_toArray, List.set_cons_zero, List.set_cons_succ]
    refine take_do (i := 10) (v := (.string (⟨#[UInt8.ofNat (97 + (n : Int) % 26).toNat]⟩ ++ t))) rfl (by kernel_rfl) (by kernel_rfl) (by kernel_rfl) (fun _ _ _ h => h) (by rfl) ?_ (by assumption) ?_
    · intro w hSw
      go_simp
    simp only [Act.put, List.setIfInBounds_toArray, List.set_cons_zero, List.set_cons_succ]
    refine wpAnyH_done (by kernel_rfl) ?_ _
    have HB1 := Lib.hid hHeld3
    have HT := Lib.hid ht
    clear hHeld3
    go_wp2_with fail
    go_ret
    exact ⟨⟨_, rfl, by rw [ByteArray.size_append, show (⟨#[UInt8.ofNat (97 + (n : Int) % 26).toNat]⟩ : ByteArray).size = 1 from rfl]; have := HT.out; omega⟩, HB1.out⟩
end Go.Proofs.YtogfjomfhenhfaaGreatDoor
