/-
  The program's test of nevers, and of a program.
-/
import Derived.Test.YtogfjomfhenhfaaGreatDoorPgI4
import Derived.Test.YtogfjomfhenhfaaGreatDoorJbRs
import Derived.Test.YtogfjomfhenhfaaGreatDoorReg
namespace Go.Proofs.YtogfjomfhenhfaaGreatDoor
open Go.RowKit Go.Deep

namespace Pg
def cmpI (a b : Int) : Int := if a < b then -1 else if b < a then 1 else 0
def orI (x y : Int) : Int := if x = 0 then y else x
def cmpP (a b c d : Int) : Int := orI (cmpI a c) (cmpI b d)
theorem cmpI_range (a b : Int) : -1 ≤ cmpI a b ∧ cmpI a b ≤ 1 := by
  unfold cmpI
  by_cases h : a < b
  · rw [if_pos h]; omega
  · rw [if_neg h]
    by_cases k : b < a
    · rw [if_pos k]; omega
    · rw [if_neg k]; omega
theorem cmpP_le (a b c d : Int) : cmpP a b c d ≤ 0 ↔ ¬ (c < a ∨ (c = a ∧ d < b)) := by
  unfold cmpP orI cmpI
  by_cases h : a < c
  · rw [if_pos h]
    simp
    omega
  · rw [if_neg h]
    by_cases k : c < a
    · rw [if_pos k]
      simp
      omega
    · rw [if_neg k]
      simp
      by_cases h2 : b < d
      · rw [if_pos h2]; omega
      · rw [if_neg h2]
        by_cases k2 : d < b
        · rw [if_pos k2]; omega
        · rw [if_neg k2]; omega
end Pg
set_option maxRecDepth 100000 in
set_option maxHeartbeats 4000000 in
theorem compare_any (a b : Int) (w : World) :
    Calls Tryz.prog 111 #[.int .i64 a, .int .i64 b] w fun e w' => e = .returned (.int .i64 (Pg.cmpI a b)) ∧ w' = w := by
  have n1 : (a != a) = false := by simp
  have n2 : (b != b) = false := by simp
  by_cases h : a < b
  · have HC : Hid (Pg.cmpI a b = -1) := by show _ = _; unfold Pg.cmpI; rw [if_pos h]
    go_enter Tryz.func111, Tryz.ntmps111
    go_wp2_with go_in
    go_ret
    exact ⟨by rw [HC.out]; rfl, rfl⟩
  · by_cases k : b < a
    · have HC : Hid (Pg.cmpI a b = 1) := by show _ = _; unfold Pg.cmpI; rw [if_neg h, if_pos k]
      go_enter Tryz.func111, Tryz.ntmps111
      go_wp2_with go_in
      go_ret
      exact ⟨by rw [HC.out]; rfl, rfl⟩
    · have HC : Hid (Pg.cmpI a b = 0) := by show _ = _; unfold Pg.cmpI; rw [if_neg h, if_neg k]
      go_enter Tryz.func111, Tryz.ntmps111
      go_wp2_with go_in
      go_ret
      exact ⟨by rw [HC.out]; rfl, rfl⟩
set_option maxRecDepth 100000 in
set_option maxHeartbeats 4000000 in
theorem or_any (g : Nat) (x y : Int) (w : World) (h0 : w.cell? ⟨g, 0, none⟩ = some (.int .i64 x)) (h1 : w.cell? ⟨g, 1, none⟩ = some (.int .i64 y)) :
    Calls Tryz.prog 110 #[.slice (some ⟨g, 0, none⟩) 2 2] w fun e w' => e = .returned (.int .i64 (Pg.orI x y)) ∧ w' = w := by
  have H0 := Lib.hid h0
  have H1 := Lib.hid h1
  clear h0 h1
  go_enter Tryz.func110, Tryz.ntmps110
  go_wp2_with fail
  go_loopw [8] (fun jv wr => ∃ (j : Nat), j ≤ 2 ∧ jv = .int .i64 j ∧ wr = w ∧ Hid ((1 ≤ j → x = 0) ∧ (2 ≤ j → y = 0))) (fun jv _ => 2 - (intOf jv).toNat)
  case atStart => exact ⟨0, by omega, rfl, rfl, fun h => absurd h (by omega), fun h => absurd h (by omega)⟩
  case round =>
    obtain ⟨j, hj, rfl, rfl, hP⟩ := hrel
    have : j = 0 ∨ j = 1 ∨ j = 2 := by omega
    rcases this with rfl | rfl | rfl
    · have c0 := H0.out
      by_cases k : x = 0
      · have k1 : (x != 0) = false := by simp [k]
        have HK := Lib.hid k
        clear k
        go_wp2_with fail
        go_roundw
        case rel => exact ⟨1, by omega, by go_num, by trivial, fun _ => HK.out, fun h => absurd h (by omega)⟩
        case measure => simp [intOf]
      · have k1 : (x != 0) = true := by simp [k]
        have HK : Hid (Pg.orI x y = x) := by show _ = _; unfold Pg.orI; rw [if_neg k]
        clear k
        go_wp2_with fail
        go_ret
        exact ⟨by rw [HK.out]; rfl, rfl⟩
    · have c1 := H1.out
      have hx := hP.out.1 (by omega)
      have HX : Hid (Pg.orI x y = y) := by show _ = _; unfold Pg.orI; rw [if_pos hx]
      have HX0 := Lib.hid hx
      clear hx
      by_cases k : y = 0
      · have k1 : (y != 0) = false := by simp [k]
        have HK := Lib.hid k
        clear k
        go_wp2_with fail
        go_roundw
        case rel => exact ⟨2, by omega, by go_num, by trivial, fun _ => HX0.out, fun _ => HK.out⟩
        case measure => simp [intOf]
      · have k1 : (y != 0) = true := by simp [k]
        clear k
        go_wp2_with fail
        go_ret
        exact ⟨by rw [HX.out]; rfl, rfl⟩
    · have hx := hP.out.1 (by omega)
      have hy := hP.out.2 (by omega)
      have HX : Hid (Pg.orI x y = 0) := by show _ = _; unfold Pg.orI; rw [if_pos hx, hy]
      clear hx hy
      go_wp2_with fail
      go_ret
      exact ⟨by rw [HX.out]; rfl, rfl⟩
/-- What a comparison reads. -/
structure CpS (a b c d : Int) (w W : World) : Prop where
  l : W.rowIs w.heap.size 36 2 (rowN [.int .i64 a, .int .i64 b])
  r : W.rowIs (w.heap.size + 1) 36 2 (rowN [.int .i64 c, .int .i64 d])
  old : Below w.heap.size w W
theorem CpS.below {a b c d : Int} {w W W' : World} (h : CpS a b c d w W) (hb : Below W.heap.size W W') : CpS a b c d w W' := ⟨nrow_below h.l hb, nrow_below h.r hb, h.old.trans (hb.mono h.old.size)⟩
set_option maxRecDepth 100000 in
set_option maxHeartbeats 4000000 in
theorem comparePairs_any (a b c d : Int) (w : World) :
    Calls Tryz.prog 89 #[.agg #[.int .i64 a, .int .i64 b], .agg #[.int .i64 c, .int .i64 d]] w fun e w' => e = .returned (.int .i64 (Pg.cmpP a b c d)) ∧ Below w.heap.size w w' := by
  obtain ⟨W, hW⟩ : ∃ W, W = (w.alloc (.cells #[.int .i64 a, .int .i64 b] 36)).alloc (.cells #[.int .i64 c, .int .i64 d] 36) := ⟨_, rfl⟩
  have S0 : Hid (CpS a b c d w W) := by
    show CpS _ _ _ _ _ _
    rw [hW]
    exact ⟨nrow_below (rowN_alloc w _ _) (nbel_alloc _ _), rowN_alloc' (by simp) _ _, (nbel_alloc _ _).alloc (by simp) _⟩
  have HW := Lib.hid hW
  clear hW
  go_enter Tryz.func89, Tryz.ntmps89
  go_wp2_with fail
  rw [← HW.out]
  refine wp_region_held_drew (S := CpS a b c d w) (by kernel_rfl) (S0.out.below (Below.refl _ _).drew) (fun hHeld => ?_)
  clear S0
  obtain ⟨Z, hZ⟩ : ∃ Z, Z = W.drew := ⟨_, rfl⟩
  rw [← hZ] at hHeld ⊢
  clear hZ
  refine take_do (i := 0) (v := (.pointer (some ⟨w.heap.size, 0, none⟩))) rfl (by kernel_rfl) (by kernel_rfl) (by kernel_rfl) (fun _ _ _ h => h) (by rfl) ?_ (by assumption) ?_
  · intro w hSw
    skip
    go_simp
  simp only [Act.put, List.setIfInBounds_toArray, List.set_cons_zero, List.set_cons_succ]
  refine take_do (i := 1) (v := (.int .i64 a)) rfl (by kernel_rfl) (by kernel_rfl) (by kernel_rfl) (fun _ _ _ h => h) (by rfl) ?_ (by assumption) ?_
  · intro w hSw
    obtain ⟨⟨l0, l1⟩, _⟩ := rowN2 hSw.l
    go_simp
  simp only [Act.put, List.setIfInBounds_toArray, List.set_cons_zero, List.set_cons_succ]
  refine take_do (i := 2) (v := (.pointer (some ⟨w.heap.size + 1, 0, none⟩))) rfl (by kernel_rfl) (by kernel_rfl) (by kernel_rfl) (fun _ _ _ h => h) (by rfl) ?_ (by assumption) ?_
  · intro w hSw
    skip
    go_simp
  simp only [Act.put, List.setIfInBounds_toArray, List.set_cons_zero, List.set_cons_succ]
  refine take_do (i := 3) (v := (.int .i64 c)) rfl (by kernel_rfl) (by kernel_rfl) (by kernel_rfl) (fun _ _ _ h => h) (by rfl) ?_ (by assumption) ?_
  · intro w hSw
    obtain ⟨⟨r0, r1⟩, _⟩ := rowN2 hSw.r
    go_simp
  simp only [Act.put, List.setIfInBounds_toArray, List.set_cons_zero, List.set_cons_succ]
  refine take_do (i := 5) (v := (.pointer (some ⟨w.heap.size, 1, none⟩))) rfl (by kernel_rfl) (by kernel_rfl) (by kernel_rfl) (fun _ _ _ h => h) (by rfl) ?_ (by assumption) ?_
  · intro w hSw
    skip
    go_simp
  simp only [Act.put, List.setIfInBounds_toArray, List.set_cons_zero, List.set_cons_succ]
  refine take_do (i := 6) (v := (.int .i64 b)) rfl (by kernel_rfl) (by kernel_rfl) (by kernel_rfl) (fun _ _ _ h => h) (by rfl) ?_ (by assumption) ?_
  · intro w hSw
    obtain ⟨⟨l0, l1⟩, _⟩ := rowN2 hSw.l
    go_simp
  simp only [Act.put, List.setIfInBounds_toArray, List.set_cons_zero, List.set_cons_succ]
  refine take_do (i := 7) (v := (.pointer (some ⟨w.heap.size + 1, 1, none⟩))) rfl (by kernel_rfl) (by kernel_rfl) (by kernel_rfl) (fun _ _ _ h => h) (by rfl) ?_ (by assumption) ?_
  · intro w hSw
    skip
    go_simp
  simp only [Act.put, List.setIfInBounds_toArray, List.set_cons_zero, List.set_cons_succ]
  refine take_do (i := 8) (v := (.int .i64 d)) rfl (by kernel_rfl) (by kernel_rfl) (by kernel_rfl) (fun _ _ _ h => h) (by rfl) ?_ (by assumption) ?_
  · intro w hSw
    obtain ⟨⟨r0, r1⟩, _⟩ := rowN2 hSw.r
    go_simp
  simp only [Act.put, List.setIfInBounds_toArray, List.set_cons_zero, List.set_cons_succ]
  refine take_call (i := 4) rfl (by kernel_rfl) (fun K2 hK => ?_)
  go_simp
  refine (compare_any a c _).mono ?_
  rintro e w1 ⟨rfl, hw1⟩
  rw [hw1]
  clear hw1 w1
  go_wp2_with fail
  refine hK.out _ _ hHeld (fun hHeld2 => ?_)
  clear hK hHeld
  have hHeld := hHeld2
  clear hHeld2
  refine take_call (i := 9) rfl (by kernel_rfl) (fun K2 hK => ?_)
  go_simp
  refine (compare_any b d _).mono ?_
  rintro e w1 ⟨rfl, hw1⟩
  rw [hw1]
  clear hw1 w1
  go_wp2_with fail
  refine hK.out _ _ hHeld (fun hHeld2 => ?_)
  clear hK hHeld
  have hHeld := hHeld2
  clear hHeld2
  refine take_call (i := 10) rfl (by kernel_rfl) (fun K2 hK => ?_)
  go_simp
  refine hK.out _ _ (hHeld.below (nbel_alloc _ _)) (fun hHeld2 => ?_)
  clear hK hHeld
  have hHeld := hHeld2
  clear hHeld2
  obtain ⟨⟨o0, o1⟩, _⟩ := rowN2 (rowN_alloc Z [.int .i64 (Pg.cmpI a c), .int .i64 (Pg.cmpI b d)] 3)
  refine take_call (i := 11) rfl (by kernel_rfl) (fun K2 hK => ?_)
  go_simp
  refine (or_any Z.heap.size (Pg.cmpI a c) (Pg.cmpI b d) _ o0 o1).mono ?_
  rintro e w1 ⟨rfl, hw1⟩
  rw [hw1]
  clear hw1 w1
  go_wp2_with fail
  refine hK.out _ _ hHeld (fun hHeld2 => ?_)
  clear hK hHeld o0 o1
  have hHeld := hHeld2
  clear hHeld2
  refine take_do (i := 12) (v := (.int .i64 (Pg.orI (Pg.cmpI a c) (Pg.cmpI b d)))) rfl (by kernel_rfl) (by kernel_rfl) (by kernel_rfl) (fun _ _ _ h => h) (by rfl) ?_ (by assumption) ?_
  · intro w hSw
    skip
    go_simp
  simp only [Act.put, List.setIfInBounds_toArray, List.set_cons_zero, List.set_cons_succ]
  refine wpAnyH_done (by kernel_rfl) ?_ _
  have HB := Lib.hid hHeld.old
  clear hHeld
  go_wp2_with fail
  go_ret
  exact ⟨rfl, HB.out⟩
set_option maxRecDepth 100000 in
set_option maxHeartbeats 4000000 in
theorem gindex_any (a : Option Addr) (n cap : Nat) (f : Nat → Int) (x : Int) (w : World) (h : IsAt a n f w) (hn : n ≤ 1048576) :
    Calls Tryz.prog 137 #[.slice a n cap, .int .i64 x] w fun e w' => (∃ z : Int, e = .returned (.int .i64 z) ∧ (0 ≤ z ↔ Pl.Has n f x)) ∧ w' = w := by
  have H := Lib.hid h
  clear h
  go_enter Tryz.func137, Tryz.ntmps137
  go_wp2_with fail
  go_loopw [8] (fun iv wr => ∃ (i : Nat), i ≤ n ∧ iv = .int .i64 i ∧ wr = w ∧ Hid (∀ j, j < i → f j ≠ x)) (fun iv _ => n - (intOf iv).toNat)
  case atStart => exact ⟨0, Nat.zero_le _, rfl, rfl, fun j hj => absurd hj (Nat.not_lt_zero _)⟩
  case round =>
    obtain ⟨i, hi, rfl, rfl, hP⟩ := hrel
    by_cases hlt : i < n
    · have hltz : (i : Int) < (n : Int) := by omega
      obtain ⟨b, e, c0⟩ := H.out.at1 hlt
      subst e
      by_cases c : f i = x
      · have HC : Hid (Pl.Has n f x) := ⟨i, hlt, c⟩
        have c' : (x == f i) = true := by simp [c]
        clear c
        go_wp2_with fail
        exact bodyPost_ret (v := .int .i64 i) (by simp [results, Tryz.results137, go_sem]) rfl ⟨⟨_, rfl, fun _ => HC.out, fun _ => by omega⟩, rfl⟩
      · have HC := Lib.hid c
        have c' : (x == f i) = false := by simp; exact fun k => c k.symm
        clear c
        go_wp2_with fail
        go_roundw
        case rel => exact ⟨i + 1, by omega, by go_num, by trivial, fun j hj => by
          by_cases e : j = i
          · subst e; exact HC.out
          · exact hP.out j (by omega)⟩
        case measure => simp [intOf]; omega
    · obtain rfl : i = n := by omega
      have HC : Hid (¬ Pl.Has i f x) := fun ⟨j, hj, e⟩ => hP.out j hj e
      go_wp2_with fail
      exact bodyPost_ret (v := .int .i64 (-1)) (by simp [results, Tryz.results137, go_sem]) rfl ⟨⟨_, rfl, fun k => absurd k (by omega), fun k => absurd k HC.out⟩, rfl⟩
set_option maxRecDepth 100000 in
theorem gcontains_any (a : Option Addr) (n cap : Nat) (f : Nat → Int) (x : Int) (w : World) (h : IsAt a n f w) (hn : n ≤ 1048576) :
    Calls Tryz.prog 112 #[.slice a n cap, .int .i64 x] w fun e w' => e = .returned (.bool (dB (Pl.Has n f x))) ∧ w' = w := by
  go_enter Tryz.func112, Tryz.ntmps112
  go_wp2_with fail
  refine (gindex_any a n cap f x _ h hn).mono ?_
  rintro e w1 ⟨⟨z, rfl, hz⟩, hw1⟩
  subst w1
  by_cases k : 0 ≤ z
  · have HK : Hid (dB (Pl.Has n f x) = true) := dB_tt (hz.1 k)
    clear hz
    go_wp2_with fail
    go_ret
    exact ⟨by rw [HK.out]; rfl, rfl⟩
  · have HK : Hid (dB (Pl.Has n f x) = false) := dB_ff (fun q => k (hz.2 q))
    have HZ := Lib.hid k
    clear hz
    go_wp2_with fail
    go_ret
    exact ⟨by rw [HK.out]; simp [HZ.out], rfl⟩
set_option maxRecDepth 100000 in
theorem isOut_any (p : Pg.Prog) (la : Option Addr) (lk : Nat) (fa : Option Addr) (fk : Nat) (wa : Option Addr) (wk : Nat) (x : Int) (w : World) (h : IsAt fa p.on p.O w) (hn : p.on ≤ 1048576) :
    Calls Tryz.prog 90 #[pgV p la lk fa fk wa wk, .int .i64 x] w fun e w' => e = .returned (.bool (dB (Pl.Has p.on p.O x))) ∧ Below w.heap.size w w' := by
  go_enter Tryz.func90, Tryz.ntmps90
  go_wp2_with fail
  refine (gcontains_any fa p.on fk p.O x _ (h.below (nbel_alloc _ _)) hn).mono ?_
  rintro e w1 ⟨rfl, hw1⟩
  subst w1
  go_wp2_with fail
  go_ret
  exact ⟨rfl, nbel_alloc _ _⟩
/-- The never behind which the next must come. -/
def Pg.aheadA (p : Pg.Prog) (i : Nat) : Int := if i = 0 then -1 else p.N ((i - 1) * 2)
def Pg.aheadB (p : Pg.Prog) (i : Nat) : Int := if i = 0 then -1 else p.N ((i - 1) * 2 + 1)
theorem Pg.nev_iff (p : Pg.Prog) (i n : Nat) (ho : Pl.Rising p.on p.O n) : Pg.NevOk p i ↔ ((Pg.aheadA p i < p.N (i * 2) ∨ (Pg.aheadA p i = p.N (i * 2) ∧ Pg.aheadB p i < p.N (i * 2 + 1))) ∧ p.N (i * 2) < p.N (i * 2 + 1)) ∧ Pl.Has p.on p.O (p.N (i * 2)) ∧ Pl.Has p.on p.O (p.N (i * 2 + 1)) := by
  unfold Pg.NevOk Pg.aheadA Pg.aheadB
  by_cases e : i = 0
  · subst e
    simp only [if_true]
    refine ⟨fun ⟨h1, h2, h3, _⟩ => ⟨⟨Or.inl ?_, h3⟩, h1, h2⟩, fun ⟨⟨_, h3⟩, h1, h2⟩ => ⟨h1, h2, h3, fun h => absurd h (by omega)⟩⟩
    obtain ⟨j, hj, ej⟩ := h1
    have := (ho j hj).1
    omega
  · simp only [e, if_false]
    refine ⟨fun ⟨h1, h2, h3, h4⟩ => ⟨⟨h4 (by omega), h3⟩, h1, h2⟩, fun ⟨⟨h4, h3⟩, h1, h2⟩ => ⟨h1, h2, h3, fun _ => h4⟩⟩
/-- What lasts in the test of the nevers. -/
structure NvS (p : Pg.Prog) (la : Option Addr) (lk : Nat) (fa : Option Addr) (fk : Nat) (wa : Option Addr) (wk : Nat) (i : Nat) (w W : World) : Prop where
  box : W.rowIs w.heap.size 27 3 (rowN (pgL p la lk fa fk wa wk))
  ah : W.rowIs (w.heap.size + 1) 36 2 (rowN [.int .i64 (Pg.aheadA p i), .int .i64 (Pg.aheadB p i)])
  old : Below w.heap.size w W
theorem NvS.below {p : Pg.Prog} {la : Option Addr} {lk : Nat} {fa : Option Addr} {fk : Nat} {wa : Option Addr} {wk i : Nat} {w W W' : World} (h : NvS p la lk fa fk wa wk i w W) (hb : Below W.heap.size W W') : NvS p la lk fa fk wa wk i w W' := ⟨nrow_below h.box hb, nrow_below h.ah hb, h.old.trans (hb.mono h.old.size)⟩
set_option maxRecDepth 100000 in
set_option maxHeartbeats 4000000 in
theorem neversRight_any (p : Pg.Prog) (la : Option Addr) (lk : Nat) (fa : Option Addr) (fk : Nat) (wa : Option Addr) (wk : Nat) (w : World) (hf : IsAt fa p.on p.O w) (hw : IsAt wa (p.nn * 2) p.N w) (hn : p.on ≤ 1048576) (hm : p.nn ≤ 1048576) (n : Nat) (ho : Pl.Rising p.on p.O n) :
    Calls Tryz.prog 70 #[pgV p la lk fa fk wa wk] w fun e w' => e = .returned (.bool (dB (p.nn ≤ 100 ∧ ∀ i, i < p.nn → Pg.NevOk p i))) ∧ Below w.heap.size w w' := by
  by_cases h100 : p.nn ≤ 100
  · have h1 : ¬ (100 : Int) < (p.nn : Int) := by omega
    have HF := Lib.hid hf
    have HW := Lib.hid hw
    have HO := Lib.hid ho
    have HST : Hid (NvS p la lk fa fk wa wk 0 w ((w.alloc (.cells #[.slice la p.bn lk, .slice fa p.on fk, .slice wa p.nn wk] 27)).alloc (.cells #[.int .i64 (-1), .int .i64 (-1)] 36))) :=
      ⟨nrow_below (rowN_alloc w _ _) (nbel_alloc _ _), rowN_alloc' (by simp) _ _, (nbel_alloc _ _).alloc (by simp) _⟩
    clear hf hw ho
    go_enter Tryz.func70, Tryz.ntmps70
    go_wp2_with fail
    go_loopw [14] (fun iv wr => ∃ (i : Nat), i ≤ p.nn ∧ iv = .int .i64 i ∧ Hid (NvS p la lk fa fk wa wk i w wr) ∧ Hid (∀ j, j < i → Pg.NevOk p j)) (fun iv _ => p.nn - (intOf iv).toNat)
    case atStart => exact ⟨0, Nat.zero_le _, rfl, HST, fun j hj => absurd hj (Nat.not_lt_zero _)⟩
    case round =>
      obtain ⟨i, hi, rfl, hS, hP⟩ := hrel
      clear HST
      by_cases hlt : i < p.nn
      · have hltz : (i : Int) < (p.nn : Int) := by omega
        obtain ⟨b, e, c0, c1⟩ := (HW.out.below hS.out.old).at2 hlt
        subst e
        have HI := Lib.hid (Pg.nev_iff p i n HO.out)
        obtain ⟨A, hA⟩ : ∃ A, A = p.N (i * 2) := ⟨_, rfl⟩
        obtain ⟨B, hB⟩ : ∃ B, B = p.N (i * 2 + 1) := ⟨_, rfl⟩
        obtain ⟨X, hX⟩ : ∃ A, A = Pg.aheadA p i := ⟨_, rfl⟩
        obtain ⟨Y, hY⟩ : ∃ A, A = Pg.aheadB p i := ⟨_, rfl⟩
        rw [← hA] at c0
        rw [← hB] at c1
        have HI2 : Hid (Pg.NevOk p i ↔ ((X < A ∨ (X = A ∧ Y < B)) ∧ A < B) ∧ Pl.Has p.on p.O A ∧ Pl.Has p.on p.O B) := by show _ ↔ _; rw [hA, hB, hX, hY]; exact HI.out
        obtain ⟨⟨r0, r1⟩, _⟩ := rowN2 hS.out.ah
        rw [← hX] at r0
        rw [← hY] at r1
        have rl := hS.out.ah.lt
        obtain ⟨V, hV⟩ : ∃ V, V = wr.alloc (.cells #[.int .i64 A, .int .i64 B] 36) := ⟨_, rfl⟩
        have S1 : Hid (NvS p la lk fa fk (some ⟨b, 0, none⟩) wk i w V) := by
          show NvS _ _ _ _ _ _ _ _ _ _
          rw [hV]; exact hS.out.below (nbel_alloc _ _)
        have RV : Hid (V.rowIs wr.heap.size 36 2 (rowN [.int .i64 A, .int .i64 B])) := by
          show World.rowIs _ _ _ _ _
          rw [hV]; exact rowN_alloc wr _ _
        have HV := Lib.hid hV
        have HAE := Lib.hid (And.intro hA hB)
        have HLB : Hid (w.heap.size + 1 < wr.heap.size) := rl
        clear hV hS hA hB hX hY HI
        go_wp2_with fail
        rw [← HV.out]
        refine (comparePairs_any A B X Y _).mono ?_
        rintro e w2 ⟨rfl, hb⟩
        have S2 := Lib.hid (S1.out.below hb)
        have R2 := Lib.hid (nrow_below RV.out hb)
        clear hb S1 RV c0 c1 r0 r1 rl HV
        by_cases k1 : Pg.cmpP A B X Y ≤ 0
        · have HK : Hid (dB (p.nn ≤ 100 ∧ ∀ i, i < p.nn → Pg.NevOk p i) = false) := dB_ff (fun q => (Pg.cmpP_le A B X Y).1 k1 (HI2.out.1 (q.2 i hlt)).1.1)
          go_wp2_with fail
          go_ret
          exact ⟨by rw [HK.out]; rfl, S2.out.old⟩
        · have HL : Hid (X < A ∨ (X = A ∧ Y < B)) := Classical.byContradiction (fun q => k1 ((Pg.cmpP_le A B X Y).2 q))
          obtain ⟨⟨r0, r1⟩, _⟩ := rowN2 R2.out
          by_cases k2 : B ≤ A
          · have HK : Hid (dB (p.nn ≤ 100 ∧ ∀ i, i < p.nn → Pg.NevOk p i) = false) := dB_ff (fun q => by have := (HI2.out.1 (q.2 i hlt)).1.2; omega)
            go_wp2_with fail
            go_ret
            exact ⟨by rw [HK.out]; rfl, S2.out.old⟩
          · obtain ⟨⟨x0, x1, x2⟩, _⟩ := rowN3 S2.out.box
            go_wp2_with fail
            refine (isOut_any p la lk fa fk (some ⟨b, 0, none⟩) wk A _ (HF.out.below S2.out.old) hn).mono ?_
            rintro e w3 ⟨rfl, hb⟩
            have S3 := Lib.hid (S2.out.below hb)
            have R3 := Lib.hid (nrow_below R2.out hb)
            clear hb S2 R2 r0 r1 x0 x1 x2
            by_cases k3 : Pl.Has p.on p.O A
            · rw [dB_tt k3]
              obtain ⟨⟨r0, r1⟩, _⟩ := rowN2 R3.out
              obtain ⟨⟨x0, x1, x2⟩, _⟩ := rowN3 S3.out.box
              have HK3 := Lib.hid k3
              clear k3
              go_wp2_with fail
              refine (isOut_any p la lk fa fk (some ⟨b, 0, none⟩) wk B _ (HF.out.below S3.out.old) hn).mono ?_
              rintro e w4 ⟨rfl, hb⟩
              have S4 := Lib.hid (S3.out.below hb)
              have R4 := Lib.hid (nrow_below R3.out hb)
              clear hb S3 R3 r0 r1 x0 x1 x2
              by_cases k4 : Pl.Has p.on p.O B
              · rw [dB_tt k4]
                have HP2 : Hid (∀ j, j < i + 1 → Pg.NevOk p j) := fun j hj => by
                  by_cases e : j = i
                  · subst e; exact HI2.out.2 ⟨⟨HL.out, by omega⟩, HK3.out, k4⟩
                  · exact hP.out j (by omega)
                obtain ⟨⟨r0, r1⟩, _⟩ := rowN2 R4.out
                obtain ⟨⟨x0, x1⟩, z0, z1⟩ := rowN2 S4.out.ah
                have lx := S4.out.ah.lt
                have S5 : Hid (NvS p la lk fa fk (some ⟨b, 0, none⟩) wk (i + 1) w ((w4.setCell ⟨w.heap.size + 1, 0, none⟩ (.int .i64 A)).setCell ⟨w.heap.size + 1, 1, none⟩ (.int .i64 B))) := by
                  refine ⟨nrow_set (nrow_set S4.out.box (p := ⟨w.heap.size + 1, 0, none⟩) (by show w.heap.size ≠ w.heap.size + 1; omega) _) (p := ⟨w.heap.size + 1, 1, none⟩) (by show w.heap.size ≠ w.heap.size + 1; omega) _, ?_, (S4.out.old.setCell (p := ⟨w.heap.size + 1, 0, none⟩) (by show w.heap.size ≤ w.heap.size + 1; omega) _).setCell (p := ⟨w.heap.size + 1, 1, none⟩) (by show w.heap.size ≤ w.heap.size + 1; omega) _⟩
                  have e1 : Pg.aheadA p (i + 1) = A := by unfold Pg.aheadA; rw [if_neg (by omega), HAE.out.1]; simp
                  have e2 : Pg.aheadB p (i + 1) = B := by unfold Pg.aheadB; rw [if_neg (by omega), HAE.out.2]; simp
                  rw [e1, e2]
                  exact rowN_put (rowN_put S4.out.ah 0 _ (by simp)) 1 _ (by simp)
                clear k4 hP S4 R4
                go_wp2_with fail
                go_roundw
                case rel => exact ⟨i + 1, by omega, by go_num, S5, HP2⟩
                case measure => simp [intOf]; omega
              · rw [dB_ff k4]
                have HK : Hid (dB (p.nn ≤ 100 ∧ ∀ i, i < p.nn → Pg.NevOk p i) = false) := dB_ff (fun q => k4 (HI2.out.1 (q.2 i hlt)).2.2)
                clear k4
                go_wp2_with fail
                go_ret
                exact ⟨by rw [HK.out]; rfl, S4.out.old⟩
            · rw [dB_ff k3]
              have HK : Hid (dB (p.nn ≤ 100 ∧ ∀ i, i < p.nn → Pg.NevOk p i) = false) := dB_ff (fun q => k3 (HI2.out.1 (q.2 i hlt)).2.1)
              clear k3
              go_wp2_with fail
              go_ret
              exact ⟨by rw [HK.out]; rfl, S3.out.old⟩
      · obtain rfl : i = p.nn := by omega
        have HK : Hid (dB (p.nn ≤ 100 ∧ ∀ i, i < p.nn → Pg.NevOk p i) = true) := dB_tt ⟨h100, hP.out⟩
        go_wp2_with fail
        go_ret
        exact ⟨by rw [HK.out]; rfl, hS.out.old⟩
  · have h1 : (100 : Int) < (p.nn : Int) := by omega
    have HK : Hid (dB (p.nn ≤ 100 ∧ ∀ i, i < p.nn → Pg.NevOk p i) = false) := dB_ff (fun q => h100 q.1)
    go_enter Tryz.func70, Tryz.ntmps70
    go_wp2_with fail
    go_ret
    exact ⟨by rw [HK.out]; rfl, nbel_alloc _ _⟩
set_option maxRecDepth 100000 in
set_option maxHeartbeats 4000000 in
theorem implPRight_any (p : Pg.Prog) (la : Option Addr) (lk : Nat) (fa : Option Addr) (fk : Nat) (wa : Option Addr) (wk : Nat) (w : World) (h : PgAt p la fa wa w) (hs : PgSmall p) :
    Calls Tryz.prog 43 #[pgV p la lk fa fk wa wk] w fun e w' => e = .returned (.bool (dB (Pg.Right p))) ∧ Below w.heap.size w w' := by
  obtain ⟨W, hW⟩ : ∃ W, W = w.alloc (.cells #[.slice la p.bn lk, .slice fa p.on fk, .slice wa p.nn wk] 27) := ⟨_, rfl⟩
  have hB : Below w.heap.size w W := by rw [hW]; exact nbel_alloc _ _
  have R0 : W.rowIs w.heap.size 27 3 (rowN (pgL p la lk fa fk wa wk)) := by rw [hW]; exact rowN_alloc w _ _
  have H := Lib.hid h
  have HS := Lib.hid hs
  have hb1 : p.bn ≤ 1048576 := hs.1.1
  by_cases k1 : p.bn ≤ 100
  · have d1 : (p.bn : Int) ≤ 100 := by omega
    have HB := Lib.hid hB
    have HR := Lib.hid R0
    have HW := Lib.hid hW
    clear h hs hB R0 hW
    go_enter Tryz.func43, Tryz.ntmps43
    go_wp2_with fail
    rw [← HW.out]
    refine (blocksRight_any p la lk fa fk wa wk _ (H.out.l.below HB.out) HS.out.1.2 hb1).mono ?_
    rintro e w1 ⟨rfl, hb⟩
    have B1 : Hid (Below w.heap.size w w1) := HB.out.trans (hb.mono HB.out.size)
    have R1 := Lib.hid (nrow_below HR.out hb)
    clear hb HB HR
    by_cases k2 : ∀ i, i < p.bn → Pg.BlockOk p i
    · rw [dB_tt k2]
      have K2 := Lib.hid k2
      clear k2
      obtain ⟨⟨x0, x1, x2⟩, _⟩ := rowN3 R1.out
      go_wp2_with fail
      refine (prising_any fa p.on fk p.O p.bn _ (H.out.f.below B1.out) HS.out.2.1 hb1).mono ?_
      rintro e w2 ⟨rfl, hw2⟩
      rw [hw2]
      clear hw2 w2
      by_cases k3 : Pl.Rising p.on p.O p.bn
      · rw [dB_tt k3]
        have K3 := Lib.hid k3
        have HEQ : Hid (dB (p.nn ≤ 100 ∧ ∀ i, i < p.nn → Pg.NevOk p i) = dB (Pg.Right p)) := dB_congr ⟨fun q => ⟨k1, K2.out, k3, q.1, q.2⟩, fun q => ⟨q.m, q.v⟩⟩
        clear k3
        go_wp2_with fail
        refine (neversRight_any p la lk fa fk wa wk _ (H.out.f.below B1.out) (H.out.w.below B1.out) HS.out.2.1 HS.out.2.2 p.bn K3.out).mono ?_
        rintro e w3 ⟨rfl, hb⟩
        have B2 : Hid (Below w.heap.size w w3) := B1.out.trans (hb.mono B1.out.size)
        clear hb x0 x1 x2
        go_wp2_with fail
        go_ret
        exact ⟨by rw [← HEQ.out]; rfl, B2.out⟩
      · rw [dB_ff k3]
        have HK : Hid (dB (Pg.Right p) = false) := dB_ff (fun q => k3 q.o)
        clear k3
        go_wp2_with fail
        go_ret
        exact ⟨by rw [HK.out]; rfl, B1.out⟩
    · rw [dB_ff k2]
      have HK : Hid (dB (Pg.Right p) = false) := dB_ff (fun q => k2 q.b)
      clear k2
      go_wp2_with fail
      go_ret
      exact ⟨by rw [HK.out]; rfl, B1.out⟩
  · have d1 : ¬ (p.bn : Int) ≤ 100 := by omega
    have HK : Hid (dB (Pg.Right p) = false) := dB_ff (fun q => k1 q.n)
    clear h hs hB R0 hW
    go_enter Tryz.func43, Tryz.ntmps43
    go_wp2_with fail
    go_ret
    exact ⟨by rw [HK.out]; rfl, nbel_alloc _ _⟩
end Go.Proofs.YtogfjomfhenhfaaGreatDoor
