/-
  The program's test of homes.
-/
import Derived.Test.YtjfeipgeppegcaaNoMem
import Derived.Test.YtjfeipgeppegcaaPgI1
import Derived.Test.YtjfeipgeppegcaaReg
import Derived.Deep.QuietTactic
namespace Go.Proofs.Ytjfeipgeppegcaa
open Go.RowKit Go.Deep

set_option maxHeartbeats 400000 in
theorem nowithin_any (x m : Int) (w : World) :
    Calls Try.prog 38 #[.int .i64 x, .int .i64 m] w fun e w' => e = .returned (.bool (dB (0 ≤ x ∧ x ≤ m))) ∧ w' = w := by
  by_cases h1 : 0 ≤ x
  · by_cases h2 : x ≤ m
    · rw [dB_tt ⟨h1, h2⟩]
      go_enter Try.func38, Try.ntmps38
      go_wp2_with fail
      go_ret
      exact ⟨rfl, rfl⟩
    · rw [dB_ff (show ¬ (0 ≤ x ∧ x ≤ m) from fun h => h2 h.2)]
      go_enter Try.func38, Try.ntmps38
      go_wp2_with fail
      go_ret
      exact ⟨rfl, rfl⟩
  · rw [dB_ff (show ¬ (0 ≤ x ∧ x ≤ m) from fun h => h1 h.1)]
    go_enter Try.func38, Try.ntmps38
    go_wp2_with fail
    go_ret
    exact ⟨rfl, rfl⟩
set_option maxRecDepth 100000 in
set_option maxHeartbeats 2000000 in
theorem homeRight_any (x : No.Ho) (w : World) (hs : x.name.size ≤ 9223372036854775807) :
    Calls Try.prog 26 #[hoV x] w fun e w' => e = .returned (.bool (dB (No.HoOk x))) ∧ Below w.heap.size w w' := by
  obtain ⟨s, a⟩ := x
  obtain ⟨W, hW⟩ : ∃ W, W = w.alloc (.cells #[.string s, .int .i64 a] 46) := ⟨_, rfl⟩
  have HB : Hid (Below w.heap.size w W) := by show Below _ _ _; rw [hW]; exact nbel_alloc _ _
  have HR : Hid (W.rowIs w.heap.size 46 2 (rowN [.string s, .int .i64 a])) := by show W.rowIs _ _ _ _; rw [hW]; exact rowN_alloc w _ _
  have HW := Lib.hid hW
  clear hW
  have hs2 : s.size ≤ 9223372036854775807 := hs
  clear hs
  go_enter Try.func26, Try.ntmps26
  go_wp2_with fail
  rw [← HW.out]
  clear HW
  refine (isName_any s _ hs2).mono ?_
  rintro e w1 ⟨rfl, hb⟩
  have HB1 : Hid (Below w.heap.size w w1) := HB.out.trans (hb.mono HB.out.size)
  obtain ⟨⟨r0, r1⟩, _⟩ := rowN2 (nrow_below HR.out hb)
  clear hb HB HR
  by_cases c : Pg.NameOk s
  case neg =>
    have HE := Lib.hid (dB_ff (show ¬ No.HoOk ⟨s, a⟩ from fun h => c h.1))
    rw [dB_ff c]
    clear c
    go_wp2_with fail
    go_ret
    exact ⟨by rw [HE.out]; rfl, HB1.out⟩
  rw [dB_tt c]
  have HC := Lib.hid c
  clear c
  go_wp2_with fail
  refine (nowithin_any a 99 _).mono ?_
  rintro e w2 ⟨rfl, rfl⟩
  by_cases c : 0 ≤ a ∧ a ≤ 99
  · have HE := Lib.hid (dB_tt (show No.HoOk ⟨s, a⟩ from ⟨HC.out, c.1, c.2⟩))
    rw [dB_tt c]
    clear c
    go_wp2_with fail
    go_ret
    exact ⟨by rw [HE.out]; rfl, HB1.out⟩
  · have HE := Lib.hid (dB_ff (show ¬ No.HoOk ⟨s, a⟩ from fun h => c h.2))
    rw [dB_ff c]
    clear c
    go_wp2_with fail
    go_ret
    exact ⟨by rw [HE.out]; rfl, HB1.out⟩
set_option maxRecDepth 100000 in
set_option maxHeartbeats 2000000 in
theorem sharesName_any (x y : No.Ho) (w : World) :
    Calls Try.prog 28 #[hoV x, hoV y] w fun e w' => e = .returned (.bool (dB (x.name = y.name))) ∧ Below w.heap.size w w' := by
  obtain ⟨s, a⟩ := x
  obtain ⟨t, b⟩ := y
  by_cases c : s = t
  · subst c
    have HE := Lib.hid (dB_tt (show (⟨s, a⟩ : No.Ho).name = (⟨s, b⟩ : No.Ho).name from rfl))
    go_enter Try.func28, Try.ntmps28
    go_wp2_with fail
    go_ret
    exact ⟨by rw [HE.out]; simp, ((Below.refl _ _).alloc (Nat.le_refl _) _).alloc (by simp) _⟩
  · have HE := Lib.hid (dB_ff (show ¬ (⟨s, a⟩ : No.Ho).name = (⟨t, b⟩ : No.Ho).name from c))
    have hne := gstr_ne c
    clear c
    go_enter Try.func28, Try.ntmps28
    go_wp2_with fail
    go_ret
    exact ⟨by rw [HE.out]; try rfl, ((Below.refl _ _).alloc (Nat.le_refl _) _).alloc (by simp) _⟩
set_option maxRecDepth 100000 in
set_option maxHeartbeats 2000000 in
theorem hoindex_any (la : Option Addr) (n lk : Nat) (B : Nat → No.Ho) (x : No.Ho) (w : World) (h : HosAt la n B w) (hs : n ≤ 1048576) :
    Calls Try.prog 39 #[.slice la n lk, .func (.func 28) #[hoV x] #[]] w fun e w' => (∃ z : Int, e = .returned (.int .i64 z) ∧ (0 ≤ z ↔ ∃ i, i < n ∧ x.name = (B i).name)) ∧ Below w.heap.size w w' := by
  have H := Lib.hid h
  clear h
  go_enter Try.func39, Try.ntmps39
  go_wp2_with fail
  go_loopw [5, 8] (fun _ iv wr => ∃ (i : Nat), i ≤ n ∧ iv = .int .i64 i ∧ Hid (Below w.heap.size w wr) ∧ Hid (∀ j, j < i → x.name ≠ (B j).name)) (fun _ iv _ => n - (intOf iv).toNat)
  case atStart => exact ⟨0, Nat.zero_le _, rfl, Below.refl _ _, fun j hj => absurd hj (Nat.not_lt_zero _)⟩
  case round =>
    obtain ⟨i, hi, rfl, hB, hP⟩ := hrel
    by_cases hlt : i < n
    · have hltz : (i : Int) < (n : Int) := by omega
      obtain ⟨b, rfl, c0, c1⟩ := (H.out.below hB.out).at_ hlt
      go_wp2_with fail
      refine (sharesName_any x (B i) _).mono ?_
      rintro e w1 ⟨rfl, hb⟩
      have HB1 : Hid (Below w.heap.size w w1) := hB.out.trans (hb.mono hB.out.size)
      clear hb c0 c1
      by_cases c : x.name = (B i).name
      · rw [dB_tt c]
        have HC : Hid (∃ i, i < n ∧ x.name = (B i).name) := ⟨i, hlt, c⟩
        clear c
        go_wp2_with fail
        go_ret
        exact ⟨⟨_, rfl, ⟨fun _ => HC.out, fun _ => by omega⟩⟩, HB1.out⟩
      · rw [dB_ff c]
        have HC := Lib.hid c
        clear c
        go_wp2_with fail
        go_roundw
        case rel => exact ⟨i + 1, by omega, by go_num, HB1, fun j hj => by
          by_cases e : j = i
          · subst e; exact HC.out
          · exact hP.out j (by omega)⟩
        case measure => simp [intOf]; omega
    · obtain rfl : i = n := by omega
      go_wp2_with fail
      go_ret
      exact ⟨⟨_, rfl, ⟨fun x => absurd x (by omega), fun x => (by obtain ⟨j, hj, hk⟩ := x; exact absurd hk (hP.out j hj))⟩⟩, hB.out⟩
set_option maxRecDepth 100000 in
set_option maxHeartbeats 2000000 in
theorem hocontains_any (la : Option Addr) (n lk : Nat) (B : Nat → No.Ho) (x : No.Ho) (w : World) (h : HosAt la n B w) (hs : n ≤ 1048576) :
    Calls Try.prog 27 #[.slice la n lk, .func (.func 28) #[hoV x] #[]] w fun e w' => e = .returned (.bool (dB (∃ i, i < n ∧ x.name = (B i).name))) ∧ Below w.heap.size w w' := by
  have H := Lib.hid h
  clear h
  go_enter Try.func27, Try.ntmps27
  go_wp2_with fail
  refine (hoindex_any la n lk B x _ H.out hs).mono ?_
  rintro e w1 ⟨⟨z, rfl, hz⟩, hb⟩
  have HB := Lib.hid hb
  have HZ := Lib.hid hz
  clear hb hz
  by_cases c : 0 ≤ z
  · have HE := Lib.hid (dB_tt (HZ.out.1 c))
    go_wp2_with fail
    go_ret
    exact ⟨by rw [HE.out]; simp <;> omega, HB.out⟩
  · have HE := Lib.hid (dB_ff (fun x => c (HZ.out.2 x)))
    go_wp2_with fail
    go_ret
    exact ⟨by rw [HE.out]; simp <;> omega, HB.out⟩
/-- What stands in a round: the home's box. -/
structure HrS (g : Nat) (x : No.Ho) (w W : World) : Prop where
  row : W.rowIs g 46 2 (rowN [.string x.name, .int .i64 x.area])
  old : Below w.heap.size w W
theorem HrS.below {g : Nat} {x : No.Ho} {w W W' : World} (h : HrS g x w W) (hb : Below W.heap.size W W') : HrS g x w W' := ⟨nrow_below h.row hb, h.old.trans (hb.mono h.old.size)⟩
theorem No.right_not {n : Nat} {H : Nat → No.Ho} {i : Nat} (hi : i < n) (h : ¬ No.HoOk (H i)) : ¬ No.Right n H := fun k => h (k.2 i hi).1
theorem No.right_not2 {n : Nat} {H : Nat → No.Ho} {i : Nat} (hi : i < n) (h : ∃ k, k < i ∧ (H i).name = (H k).name) : ¬ No.Right n H := fun q => by
  obtain ⟨k, h1, h2⟩ := h
  exact (q.2 i hi).2 k h1 h2
set_option maxRecDepth 100000 in
set_option maxHeartbeats 8000000 in
theorem implHomes_any (la : Option Addr) (n lk : Nat) (B : Nat → No.Ho) (w : World) (h : HosAt la n B w) (hs : n ≤ 1048576) (hk : n ≤ lk) (hnm : HoNames 1048576 n B) :
    Calls Try.prog 9 #[.slice la n lk] w fun e w' => e = .returned (.bool (dB (No.Right n B))) ∧ Below w.heap.size w w' := by
  by_cases hbig : 60 < n
  · have HE := Lib.hid (dB_ff (show ¬ No.Right n B from fun k => by have := k.1; omega))
    have h1 : (60 : Int) < (n : Int) := by omega
    clear h hbig
    go_enter Try.func9, Try.ntmps9
    go_wp2_with fail
    go_ret
    exact ⟨by rw [HE.out]; rfl, Below.refl _ _⟩
  have h1 : ¬ (60 : Int) < (n : Int) := by omega
  have HN60 : Hid (n ≤ 60) := by show n ≤ 60; omega
  have H := Lib.hid h
  have HNM := Lib.hid hnm
  have hmf : ∀ (fn : Fn) (first cap : Array Value) (w : World), (Instr.makeFunc fn first cap).run Try.prog w = .ok (.func fn first cap) w := fun _ _ _ _ => rfl
  clear h hbig hnm
  go_enter Try.func9, Try.ntmps9
  go_wp2_with fail
  clear h1
  go_loopw [3, 4, 10] (fun _ _ iv wr => ∃ (i : Nat), i ≤ n ∧ iv = .int .i64 i ∧ Hid (Below w.heap.size w wr) ∧ Hid (∀ j, j < i → No.HoOk (B j) ∧ ∀ k, k < j → (B j).name ≠ (B k).name)) (fun _ _ iv _ => n - (intOf iv).toNat)
  case atStart => exact ⟨0, Nat.zero_le _, rfl, Below.refl _ _, fun j hj => absurd hj (Nat.not_lt_zero _)⟩
  case round =>
    obtain ⟨i, hi, rfl, hB, hP⟩ := hrel
    by_cases hlt : i < n
    · have hltz : (i : Int) < (n : Int) := by omega
      obtain ⟨b, e, c0, c1⟩ := (H.out.below hB.out).at_ hlt
      have hk2 : (i : Int) ≤ (lk : Int) := by omega
      have HLE : Hid (i ≤ n) := hi
      subst e
      obtain ⟨s, hsx⟩ : ∃ s, s = (B i).name := ⟨_, rfl⟩
      obtain ⟨a, hax⟩ : ∃ a, a = (B i).area := ⟨_, rfl⟩
      rw [← hsx] at c0
      rw [← hax] at c1
      obtain ⟨V, hV⟩ : ∃ V, V = wr.alloc (.cells #[.string s, .int .i64 a] 46) := ⟨_, rfl⟩
      have HEL : Hid (B i = ⟨s, a⟩) := by show B i = _; rw [hsx, hax]
      have HS0 : Hid (HrS wr.heap.size ⟨s, a⟩ w V) := by
        rw [hV]
        exact ⟨rowN_alloc wr [.string s, .int .i64 a] 46, hB.out.alloc hB.out.size _⟩
      have HV := Lib.hid hV
      have HSN : Hid (s.size ≤ 1048576) := by show s.size ≤ _; rw [hsx]; exact HNM.out i hlt
      clear hV hsx hax
      go_wp2_with fail
      refine wp_region_held_drew (S := HrS wr.heap.size ⟨s, a⟩ w) (by kernel_rfl) (by rw [← HV.out]; exact HS0.out.below (Below.refl _ _).drew) (fun hHeld => ?_)
      clear HV HS0 c0 c1 hB
      refine take_do (i := 0) (v := (hoV ⟨s, a⟩)) rfl (by kernel_rfl) (by kernel_rfl) (by kernel_rfl) (fun _ _ _ h => h) (by rfl) ?_ (by assumption) ?_
      · intro w hSw
        obtain ⟨⟨a0, a1⟩, _⟩ := rowN2 hSw.row
        go_simp
      simp only [Act.put, List.setIfInBounds_toArray, List.set_cons_zero, List.set_cons_succ]
      refine take_call (i := 1) rfl (by kernel_rfl) (fun K2 hK => ?_)
      go_simp
      refine (homeRight_any ⟨s, a⟩ _ (Nat.le_trans HSN.out (by decide))).mono ?_
      rintro e w1 ⟨rfl, hb⟩
      go_wp2_with fail
      refine hK.out _ _ (hHeld.below hb) (fun hHeld2 => ?_)
      clear hK hHeld hb
      by_cases c : No.HoOk ⟨s, a⟩
      case neg =>
        have HE := Lib.hid (dB_ff (No.right_not (H := B) hlt (by rw [HEL.out]; exact c)))
        rw [dB_ff c]
        clear c
        refine take_do (i := 2) (v := (.bool true)) rfl (by kernel_rfl) (by kernel_rfl) (by kernel_rfl) (fun _ _ _ h => h) (by rfl) ?_ (by assumption) ?_
        · intro w hSw
          go_simp
        simp only [Act.put, List.setIfInBounds_toArray, List.set_cons_zero, List.set_cons_succ]
        refine take_do (i := 3) (v := (.bool true)) rfl (by kernel_rfl) (by kernel_rfl) (by kernel_rfl) (fun _ _ _ h => h) (by rfl) ?_ (by assumption) ?_
        · intro w hSw
          go_simp
        simp only [Act.put, List.setIfInBounds_toArray, List.set_cons_zero, List.set_cons_succ]
        refine take_skip (i := 4) rfl (by kernel_rfl) (by kernel_rfl) (by kernel_rfl) (fun _ _ _ h => h) (by rfl) (by assumption) ?_
        simp only [Act.put, List.setIfInBounds_toArray, List.set_cons_zero, List.set_cons_succ]
        refine take_skip (i := 5) rfl (by kernel_rfl) (by kernel_rfl) (by kernel_rfl) (fun _ _ _ h => h) (by rfl) (by assumption) ?_
        simp only [Act.put, List.setIfInBounds_toArray, List.set_cons_zero, List.set_cons_succ]
        refine take_skip (i := 6) rfl (by kernel_rfl) (by kernel_rfl) (by kernel_rfl) (fun _ _ _ h => h) (by rfl) (by assumption) ?_
        simp only [Act.put, List.setIfInBounds_toArray, List.set_cons_zero, List.set_cons_succ]
        refine take_skip (i := 7) rfl (by kernel_rfl) (by kernel_rfl) (by kernel_rfl) (fun _ _ _ h => h) (by rfl) (by assumption) ?_
        simp only [Act.put, List.setIfInBounds_toArray, List.set_cons_zero, List.set_cons_succ]
        refine take_skip (i := 8) rfl (by kernel_rfl) (by kernel_rfl) (by kernel_rfl) (fun _ _ _ h => h) (by rfl) (by assumption) ?_
        simp only [Act.put, List.setIfInBounds_toArray, List.set_cons_zero, List.set_cons_succ]
        refine take_skip (i := 9) rfl (by kernel_rfl) (by kernel_rfl) (by kernel_rfl) (fun _ _ _ h => h) (by rfl) (by assumption) ?_
        simp only [Act.put, List.setIfInBounds_toArray, List.set_cons_zero, List.set_cons_succ]
        refine take_do (i := 10) (v := (.bool true)) rfl (by kernel_rfl) (by kernel_rfl) (by kernel_rfl) (fun _ _ _ h => h) (by rfl) ?_ (by assumption) ?_
        · intro w hSw
          go_simp
        simp only [Act.put, List.setIfInBounds_toArray, List.set_cons_zero, List.set_cons_succ]
        refine wpAnyH_done (by kernel_rfl) ?_ _
        have HB1 := Lib.hid hHeld2.old
        clear hHeld2
        go_wp2_with fail
        go_ret
        exact ⟨by rw [HE.out]; rfl, HB1.out⟩
      rw [dB_tt c]
      have HC := Lib.hid c
      clear c
      refine take_do (i := 2) (v := (.bool false)) rfl (by kernel_rfl) (by kernel_rfl) (by kernel_rfl) (fun _ _ _ h => h) (by rfl) ?_ (by assumption) ?_
      · intro w hSw
        go_simp
      simp only [Act.put, List.setIfInBounds_toArray, List.set_cons_zero, List.set_cons_succ]
      refine take_do (i := 3) (v := (.bool false)) rfl (by kernel_rfl) (by kernel_rfl) (by kernel_rfl) (fun _ _ _ h => h) (by rfl) ?_ (by assumption) ?_
      · intro w hSw
        go_simp
      simp only [Act.put, List.setIfInBounds_toArray, List.set_cons_zero, List.set_cons_succ]
      refine take_do (i := 4) (v := (.slice (some ⟨b, 0, none⟩) n lk)) rfl (by kernel_rfl) (by kernel_rfl) (by kernel_rfl) (fun _ _ _ h => h) (by rfl) ?_ (by assumption) ?_
      · intro w hSw
        go_simp
      simp only [Act.put, List.setIfInBounds_toArray, List.set_cons_zero, List.set_cons_succ]
      refine take_do (i := 5) (v := (.int .i64 i)) rfl (by kernel_rfl) (by kernel_rfl) (by kernel_rfl) (fun _ _ _ h => h) (by rfl) ?_ (by assumption) ?_
      · intro w hSw
        go_simp
      simp only [Act.put, List.setIfInBounds_toArray, List.set_cons_zero, List.set_cons_succ]
      refine take_do (i := 6) (v := (.slice (some ⟨b, 0, none⟩) i lk)) rfl (by kernel_rfl) (by kernel_rfl) (by kernel_rfl) (fun _ _ _ h => h) (by rfl) ?_ (by assumption) ?_
      · intro w hSw
        go_simp
      simp only [Act.put, List.setIfInBounds_toArray, List.set_cons_zero, List.set_cons_succ]
      refine take_do (i := 7) (v := (hoV ⟨s, a⟩)) rfl (by kernel_rfl) (by kernel_rfl) (by kernel_rfl) (fun _ _ _ h => h) (by rfl) ?_ (by assumption) ?_
      · intro w hSw
        obtain ⟨⟨a0, a1⟩, _⟩ := rowN2 hSw.row
        go_simp
      simp only [Act.put, List.setIfInBounds_toArray, List.set_cons_zero, List.set_cons_succ]
      refine take_do (i := 8) (v := (.func (.func 28) #[hoV ⟨s, a⟩] #[])) rfl (by kernel_rfl) (by kernel_rfl) (by kernel_rfl) (fun _ _ _ h => h) (by rfl) ?_ (by assumption) ?_
      · intro w hSw
        go_simp
      simp only [Act.put, List.setIfInBounds_toArray, List.set_cons_zero, List.set_cons_succ]
      refine take_call (i := 9) rfl (by kernel_rfl) (fun K2 hK => ?_)
      go_simp
      refine (hocontains_any (some ⟨b, 0, none⟩) i lk B ⟨s, a⟩ _ ((H.out.below hHeld2.old).less HLE.out) (by omega)).mono ?_
      rintro e w2 ⟨rfl, hb⟩
      go_wp2_with fail
      refine hK.out _ _ (hHeld2.below hb) (fun hHeld => ?_)
      clear hK hHeld2 hb
      by_cases c : ∃ k, k < i ∧ s = (B k).name
      case pos =>
        have HE := Lib.hid (dB_ff (No.right_not2 (H := B) hlt (by rw [HEL.out]; exact c)))
        rw [dB_tt c]
        clear c
        refine take_do (i := 10) (v := (.bool true)) rfl (by kernel_rfl) (by kernel_rfl) (by kernel_rfl) (fun _ _ _ h => h) (by rfl) ?_ (by assumption) ?_
        · intro w hSw
          go_simp
        simp only [Act.put, List.setIfInBounds_toArray, List.set_cons_zero, List.set_cons_succ]
        refine wpAnyH_done (by kernel_rfl) ?_ _
        have HB1 := Lib.hid hHeld.old
        clear hHeld
        go_wp2_with fail
        go_ret
        exact ⟨by rw [HE.out]; rfl, HB1.out⟩
      rw [dB_ff c]
      have HD := Lib.hid c
      clear c
      refine take_do (i := 10) (v := (.bool false)) rfl (by kernel_rfl) (by kernel_rfl) (by kernel_rfl) (fun _ _ _ h => h) (by rfl) ?_ (by assumption) ?_
      · intro w hSw
        go_simp
      simp only [Act.put, List.setIfInBounds_toArray, List.set_cons_zero, List.set_cons_succ]
      refine wpAnyH_done (by kernel_rfl) ?_ _
      have HB1 := Lib.hid hHeld.old
      clear hHeld
      go_wp2_with fail
      go_roundw
      case rel => exact ⟨i + 1, by omega, by go_num, HB1, fun j hj => by
        by_cases e : j = i
        · subst e; exact ⟨by rw [HEL.out]; exact HC.out, fun k hk e2 => HD.out ⟨k, hk, by rw [← e2, HEL.out]⟩⟩
        · exact hP.out j (by omega)⟩
      case measure => simp [intOf]; omega
    · obtain rfl : i = n := by omega
      have HE := Lib.hid (dB_tt (show No.Right i B from ⟨HN60.out, hP.out⟩))
      go_wp2_with fail
      go_ret
      exact ⟨by rw [HE.out]; rfl, hB.out⟩
end Go.Proofs.Ytjfeipgeppegcaa
