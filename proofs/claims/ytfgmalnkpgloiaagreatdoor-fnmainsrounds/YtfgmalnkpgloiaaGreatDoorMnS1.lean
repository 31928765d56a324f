/-
  The model's test of mains.
-/
import Derived.Test.YtfgmalnkpgloiaaGreatDoorMnI1
namespace Go.Proofs.YtfgmalnkpgloiaaGreatDoor
open Go.RowKit Go.Deep

set_option maxRecDepth 100000 in
set_option maxHeartbeats 2000000 in
theorem all_any (a : Option Addr) (m cap : Nat) (f : Nat → Int) (lo up : Int) (w : World) (h : IsAt a m f w) (hm : m ≤ 1048576) :
    Calls Tryz.prog 77 #[.slice a m cap, .int .i64 lo, .int .i64 up] w fun e w' => BoolEnd (∀ i, i < m → lo ≤ f i ∧ f i ≤ up) e ∧ Below w.heap.size w w' := by
  have H := Lib.hid h
  clear h
  go_enter Tryz.func77, Tryz.ntmps77
  go_wp2_with fail
  go_loopw [7] (fun iv wr => ∃ (i : Nat), i ≤ m ∧ iv = .int .i64 i ∧ Hid (Below w.heap.size w wr) ∧ Hid (∀ j, j < i → lo ≤ f j ∧ f j ≤ up)) (fun iv _ => m - (intOf iv).toNat)
  case atStart => exact ⟨0, Nat.zero_le _, rfl, Below.refl _ _, fun j hj => absurd hj (Nat.not_lt_zero _)⟩
  case round =>
    obtain ⟨i, hi, rfl, hB, hP⟩ := hrel
    by_cases hlt : i < m
    · have hltz : (i : Int) < (m : Int) := by omega
      obtain ⟨b, e, c0⟩ := (H.out.below hB.out).at1 hlt
      subst e
      by_cases h4 : f i < lo
      · go_wp2_with fail
        try go_quiet (fail)
        go_ret
        exact ⟨BoolEnd.ff (fun k => by have := (k i hlt).1; omega), by first | exact hB.out | exact hB.out.drew⟩
      · by_cases h5 : up < f i
        · go_wp2_with fail
          try go_quiet (fail)
          go_ret
          exact ⟨BoolEnd.ff (fun k => by have := (k i hlt).2; omega), by first | exact hB.out | exact hB.out.drew⟩
        · go_wp2_with fail
          try go_quiet (fail)
          go_roundw
          case rel =>
            refine ⟨i + 1, by omega, by go_num, by first | exact hB | exact hB.out.drew, fun j hj => ?_⟩
            by_cases ej : j = i
            · subst ej; exact ⟨by omega, by omega⟩
            · exact hP.out j (by omega)
          case measure => simp [intOf]; omega
    · obtain rfl : i = m := by omega
      go_wp2_with fail
      go_ret
      exact ⟨BoolEnd.tt hP.out, hB.out⟩
set_option maxHeartbeats 400000 in
theorem splace_any (z : Int) (w : World) (h0 : z ≠ 0) (h1 : -1000000 ≤ z) (h2 : z ≤ 1000000) :
    Calls Tryz.prog 47 #[.int .i64 z] w fun e w' => e = .returned (.int .i64 ((Mn.place z : Nat) : Int)) ∧ w' = w := by
  by_cases h : 0 < z
  · have e1 : z - 1 = ((Mn.place z : Nat) : Int) := by unfold Mn.place; omega
    go_enter Tryz.func47, Tryz.ntmps47
    go_wp2_with fail
    go_ret
    exact ⟨rfl, rfl⟩
  · have e1 : -z - 1 = ((Mn.place z : Nat) : Int) := by unfold Mn.place; omega
    go_enter Tryz.func47, Tryz.ntmps47
    go_wp2_with fail
    go_ret
    exact ⟨rfl, rfl⟩
set_option maxRecDepth 100000 in
set_option maxHeartbeats 1000000 in
theorem sends_any (m : Mn.Mains) (pa : Option Addr) (pk : Nat) (la : Option Addr) (lk : Nat) (wa : Option Addr) (wk : Nat) (w : World) (h : MnAt m pa la wa w) (z : Int) (hz : Mn.NumOk m z) (hp : m.pn ≤ 40) :
    Calls Tryz.prog 96 #[mnV m pa pk la lk wa wk, .int .i64 z] w fun e w' => e = .returned (.tuple #[.int .i64 (Mn.begins m z), .int .i64 (Mn.ends m z)]) ∧ Below w.heap.size w w' := by
  have H := Lib.hid (MnS.new 27 (pk := pk) (lk := lk) (wk := wk) h)
  have hlt := hz.lt
  obtain ⟨b, e, c0, c1, c2, c3, c4⟩ := (H.out.at_.p).at5 hlt
  subst e
  obtain ⟨hz0, hz1, hz2⟩ := hz
  have hz0' : ¬ z = 0 := hz0
  clear h hz0
  have hq : (Mn.place z : Int) < (m.pn : Int) := by omega
  by_cases h : 0 < z
  · have e1 : z - 1 = ((Mn.place z : Nat) : Int) := by unfold Mn.place; omega
    have e2 : ¬ z < 0 := by omega
    have HE : Hid (Mn.begins m z = m.P (Mn.place z * 5 + 1) ∧ Mn.ends m z = m.P (Mn.place z * 5 + 2)) := ⟨by simp [Mn.begins, e2, Mn.fr], by simp [Mn.ends, e2, Mn.tt]⟩
    go_enter Tryz.func96, Tryz.ntmps96
    go_wp2_with fail
    go_quiet (fail)
    go_wp2_with fail
    go_ret2
    exact ⟨by rw [HE.out.1, HE.out.2]; rfl, by first | exact H.out.old | exact H.out.old.drew | exact ndrewN H.out.old _⟩
  · have e1 : -z - 1 = ((Mn.place z : Nat) : Int) := by unfold Mn.place; omega
    have e2 : z < 0 := by omega
    have HE : Hid (Mn.begins m z = m.P (Mn.place z * 5 + 2) ∧ Mn.ends m z = m.P (Mn.place z * 5 + 1)) := ⟨by simp [Mn.begins, e2, Mn.tt], by simp [Mn.ends, e2, Mn.fr]⟩
    go_enter Tryz.func96, Tryz.ntmps96
    go_wp2_with fail
    go_quiet (fail)
    go_wp2_with fail
    go_ret2
    exact ⟨by rw [HE.out.1, HE.out.2]; rfl, by first | exact H.out.old | exact H.out.old.drew | exact ndrewN H.out.old _⟩
/-- What stands in the test of a loop. -/
structure LpS (m : Mn.Mains) (pa : Option Addr) (pk : Nat) (la : Option Addr) (lk : Nat) (wa : Option Addr) (wk : Nat) (a : Option Addr) (n : Nat) (f : Nat → Int) (w W : World) : Prop where
  s : MnS 27 m pa pk la lk wa wk w W
  f : IsAt a n f W
theorem LpS.below {m : Mn.Mains} {pa : Option Addr} {pk : Nat} {la : Option Addr} {lk : Nat} {wa : Option Addr} {wk : Nat} {a : Option Addr} {n : Nat} {f : Nat → Int} {w W W' : World} (h : LpS m pa pk la lk wa wk a n f w W) (hb : Below W.heap.size W W') : LpS m pa pk la lk wa wk a n f w W' := ⟨h.s.below hb, h.f.below hb⟩
set_option maxRecDepth 100000 in
set_option maxHeartbeats 8000000 in
theorem sloop_any (m : Mn.Mains) (pa : Option Addr) (pk : Nat) (la : Option Addr) (lk : Nat) (wa : Option Addr) (wk : Nat) (w : World) (h : MnAt m pa la wa w) (a : Option Addr) (n c : Nat) (f : Nat → Int) (hf : IsAt a n f w) (hp : m.pn ≤ 40) :
    Calls Tryz.prog 78 #[mnV m pa pk la lk wa wk, .slice a n c] w fun e w' => BoolEnd (Mn.LoopOk m n f) e ∧ Below w.heap.size w w' := by
  have H : Hid (LpS m pa pk la lk wa wk a n f w (w.alloc (.cells #[.int .i64 m.nodes, .int .i64 m.head, .slice pa m.pn pk, .slice la m.ln lk, .slice wa m.wn wk] 27))) := ⟨MnS.new 27 (pk := pk) (lk := lk) (wk := wk) h, hf.below (nbel_alloc _ _)⟩
  have hp2 : (m.pn : Int) ≤ 40 := by omega
  have HPN := Lib.hid hp
  clear h hf hp
  by_cases h1 : n < 1
  · have hz : (n : Int) < 1 := by omega
    have H1 := Lib.hid h1
    clear h1
    go_enter Tryz.func78, Tryz.ntmps78
    go_wp2_with fail
    go_ret
    exact ⟨BoolEnd.ff (fun k => by have := k.n1; have := H1.out; omega), H.out.s.old⟩
  by_cases h2 : 40 < n
  · have hz : ¬ (n : Int) < 1 := by omega
    have hy : (40 : Int) < (n : Int) := by omega
    have H2 := Lib.hid h2
    clear h1 h2
    go_enter Tryz.func78, Tryz.ntmps78
    go_wp2_with fail
    go_ret
    exact ⟨BoolEnd.ff (fun k => by have := k.n2; have := H2.out; omega), H.out.s.old⟩
  have hz : ¬ (n : Int) < 1 := by omega
  have hy : ¬ (40 : Int) < (n : Int) := by omega
  have H12 : Hid (1 ≤ n ∧ n ≤ 40) := ⟨by omega, by omega⟩
  clear h1 h2
  go_enter Tryz.func78, Tryz.ntmps78
  go_wp2_with fail
  go_loopw [6] (fun iv wr => ∃ (i : Nat), i ≤ n ∧ iv = .int .i64 i ∧ Hid (LpS m pa pk la lk wa wk a n f w wr) ∧ Hid (∀ j, j < i → Mn.NumOk m (f j)) ∧ Hid (∀ k, k < i → ∀ j, j < k → Mn.place (f j) ≠ Mn.place (f k))) (fun iv _ => n - (intOf iv).toNat)
  case atStart => exact ⟨0, Nat.zero_le _, rfl, H, fun j hj => absurd hj (Nat.not_lt_zero _), fun j hj => absurd hj (Nat.not_lt_zero _)⟩
  case round =>
    obtain ⟨i, hi, rfl, hS, hN, hO⟩ := hrel
    clear H
    by_cases hlt : i < n
    · have hltz : (i : Int) < (n : Int) := by omega
      obtain ⟨b, e, c0⟩ := hS.out.f.at1 hlt
      subst e
      by_cases a1 : f i = 0
      · have a1' : (f i == 0) = true := by simp [a1]
        have A1 := Lib.hid a1
        clear a1
        go_wp2_with fail
        try go_quiet (fail)
        try go_wp2_with fail
        go_ret
        exact ⟨BoolEnd.ff (fun k => (k.num i hlt).1 A1.out), by first | exact hS.out.s.old | exact ndrewN hS.out.s.old _⟩
      have a1' : (f i == 0) = false := by simp [a1]
      have A1 := Lib.hid a1
      clear a1
      by_cases a2 : (m.pn : Int) < f i
      · go_wp2_with fail
        try go_quiet (fail)
        try go_wp2_with fail
        go_ret
        exact ⟨BoolEnd.ff (fun k => by have := (k.num i hlt).2.2; omega), by first | exact hS.out.s.old | exact ndrewN hS.out.s.old _⟩
      by_cases a3 : f i < -(m.pn : Int)
      · go_wp2_with fail
        try go_quiet (fail)
        try go_wp2_with fail
        go_ret
        exact ⟨BoolEnd.ff (fun k => by have := (k.num i hlt).2.1; omega), by first | exact hS.out.s.old | exact ndrewN hS.out.s.old _⟩
      have HNi : Hid (Mn.NumOk m (f i)) := ⟨A1.out, by omega, by omega⟩
      have HC0 := Lib.hid c0
      clear c0
      have c0 := HC0.out
      go_wp2_with fail
      clear c0
      go_loopw [7] (fun kv wr => ∃ (k : Nat), k ≤ i ∧ kv = .int .i64 k ∧ Hid (LpS m pa pk la lk wa wk (some ⟨b, 0, none⟩) n f w wr) ∧ Hid (∀ j, j < k → Mn.place (f j) ≠ Mn.place (f i))) (fun kv _ => i - (intOf kv).toNat)
      case atStart => exact ⟨0, Nat.zero_le _, rfl, by first | exact hS | exact hS.out.below (ndrewN (Below.refl _ _) _), fun j hj => absurd hj (Nat.not_lt_zero _)⟩
      case round =>
        obtain ⟨k, hk, rfl, hS2, hP2⟩ := hrel
        clear hS HC0
        by_cases hlt2 : k < i
        · have hltz2 : (k : Int) < (i : Int) := by omega
          have hltz3 : (k : Int) < (n : Int) := by omega
          obtain ⟨b', e, d0⟩ := hS2.out.f.at1 hlt
          cases e
          obtain ⟨b', e, d1⟩ := hS2.out.f.at1 (i := k) (by omega)
          cases e
          have D0 := Lib.hid d0
          have D1 := Lib.hid d1
          have HNk := Lib.hid (hN.out k hlt2)
          have HPK := Lib.hid HPN.out
          clear d0 d1
          go_wp2_with fail
          refine wp_region_held_drew (S := fun V => Below wr.heap.size wr V) (by kernel_rfl) (Below.refl _ _).drew (fun hHeld => ?_)
          obtain ⟨Z, hZ⟩ : ∃ Z, Z = wr.drew := ⟨_, rfl⟩
          rw [← hZ] at hHeld ⊢
          clear hZ
          refine take_do (i := 0) (v := (.slice (some ⟨b, 0, none⟩) n c)) rfl (by kernel_rfl) (by kernel_rfl) (by kernel_rfl) (fun _ _ _ h => h) (by rfl) ?_ (by assumption) ?_
          · intro w hSw
            skip
            go_simp
          simp only [Act.put, List.setIfInBounds_toArray, List.set_cons_zero, List.set_cons_succ]
          refine take_do (i := 1) (v := (.int .i64 k)) rfl (by kernel_rfl) (by kernel_rfl) (by kernel_rfl) (fun _ _ _ h => h) (by rfl) ?_ (by assumption) ?_
          · intro w hSw
            skip
            go_simp
          simp only [Act.put, List.setIfInBounds_toArray, List.set_cons_zero, List.set_cons_succ]
          refine take_do (i := 2) (v := (.pointer (some ⟨b, k, none⟩))) rfl (by kernel_rfl) (by kernel_rfl) (by kernel_rfl) (fun _ _ _ h => h) (by rfl) ?_ (by assumption) ?_
          · intro w hSw
            skip
            go_simp
          simp only [Act.put, List.setIfInBounds_toArray, List.set_cons_zero, List.set_cons_succ]
          refine take_do (i := 3) (v := (.int .i64 (f k))) rfl (by kernel_rfl) (by kernel_rfl) (by kernel_rfl) (fun _ _ _ h => h) (by rfl) ?_ (by assumption) ?_
          · intro w hSw
            have d1 := (hSw.cell (World.block_lt_of_cell? _ _ D1.out)).trans D1.out
            go_simp
          simp only [Act.put, List.setIfInBounds_toArray, List.set_cons_zero, List.set_cons_succ]
          refine take_do (i := 5) (v := (.slice (some ⟨b, 0, none⟩) n c)) rfl (by kernel_rfl) (by kernel_rfl) (by kernel_rfl) (fun _ _ _ h => h) (by rfl) ?_ (by assumption) ?_
          · intro w hSw
            skip
            go_simp
          simp only [Act.put, List.setIfInBounds_toArray, List.set_cons_zero, List.set_cons_succ]
          refine take_do (i := 6) (v := (.int .i64 i)) rfl (by kernel_rfl) (by kernel_rfl) (by kernel_rfl) (fun _ _ _ h => h) (by rfl) ?_ (by assumption) ?_
          · intro w hSw
            skip
            go_simp
          simp only [Act.put, List.setIfInBounds_toArray, List.set_cons_zero, List.set_cons_succ]
          refine take_do (i := 7) (v := (.pointer (some ⟨b, i, none⟩))) rfl (by kernel_rfl) (by kernel_rfl) (by kernel_rfl) (fun _ _ _ h => h) (by rfl) ?_ (by assumption) ?_
          · intro w hSw
            skip
            go_simp
          simp only [Act.put, List.setIfInBounds_toArray, List.set_cons_zero, List.set_cons_succ]
          refine take_do (i := 8) (v := (.int .i64 (f i))) rfl (by kernel_rfl) (by kernel_rfl) (by kernel_rfl) (fun _ _ _ h => h) (by rfl) ?_ (by assumption) ?_
          · intro w hSw
            have d0 := (hSw.cell (World.block_lt_of_cell? _ _ D0.out)).trans D0.out
            go_simp
          simp only [Act.put, List.setIfInBounds_toArray, List.set_cons_zero, List.set_cons_succ]
          refine take_call (i := 4) rfl (by kernel_rfl) (fun K2 hK => ?_)
          go_simp
          refine (splace_any (f k) _ HNk.out.1 (by have := HNk.out.2; have := HPN.out; omega) (by have := HNk.out.2; have := HPN.out; omega)).mono ?_
          rintro e w3 ⟨rfl, rfl⟩
          go_wp2_with fail
          refine hK.out _ _ hHeld (fun hHeld2 => ?_)
          clear hK hHeld
          have hHeld := hHeld2
          clear hHeld2
          refine take_call (i := 9) rfl (by kernel_rfl) (fun K2 hK => ?_)
          go_simp
          refine (splace_any (f i) _ HNi.out.1 (by have := HNi.out.2; have := HPN.out; omega) (by have := HNi.out.2; have := HPN.out; omega)).mono ?_
          rintro e w4 ⟨rfl, rfl⟩
          go_wp2_with fail
          refine hK.out _ _ hHeld (fun hHeld2 => ?_)
          clear hK hHeld
          have hHeld := hHeld2
          clear hHeld2
          by_cases a4 : Mn.place (f k) = Mn.place (f i)
          · have a4' : (((Mn.place (f k) : Nat) : Int) == ((Mn.place (f i) : Nat) : Int)) = true := by simp [a4]
            have A4 := Lib.hid a4
            clear a4
            refine take_do (i := 10) (v := (.bool true)) rfl (by kernel_rfl) (by kernel_rfl) (by kernel_rfl) (fun _ _ _ h => h) (by rfl) ?_ (by assumption) ?_
            · intro w hSw
              skip
              go_simp
            simp only [Act.put, List.setIfInBounds_toArray, List.set_cons_zero, List.set_cons_succ]
            refine wpAnyH_done (by kernel_rfl) ?_ _
            have S3 := Lib.hid (hS2.out.below hHeld)
            clear hHeld
            go_wp2_with fail
            go_ret
            exact ⟨BoolEnd.ff (fun q => q.one i hlt k hlt2 A4.out), S3.out.s.old⟩
          · have a4' : (((Mn.place (f k) : Nat) : Int) == ((Mn.place (f i) : Nat) : Int)) = false := by simp [Int.natCast_inj, a4]
            have A4 := Lib.hid a4
            clear a4
            refine take_do (i := 10) (v := (.bool false)) rfl (by kernel_rfl) (by kernel_rfl) (by kernel_rfl) (fun _ _ _ h => h) (by rfl) ?_ (by assumption) ?_
            · intro w hSw
              skip
              go_simp
            simp only [Act.put, List.setIfInBounds_toArray, List.set_cons_zero, List.set_cons_succ]
            refine wpAnyH_done (by kernel_rfl) ?_ _
            have S3 := Lib.hid (hS2.out.below hHeld)
            clear hHeld
            go_wp2_with fail
            go_roundw
            case rel =>
              refine ⟨k + 1, by omega, by go_num, S3, fun j hj => ?_⟩
              by_cases ej : j = k
              · subst ej; exact A4.out
              · exact hP2.out j (by omega)
            case measure => simp [intOf]; omega
        · obtain rfl : k = i := by omega
          go_wp2_with fail
          go_roundw
          case rel =>
            refine ⟨k + 1, by omega, by go_num, hS2, fun j hj => ?_, fun q hq => ?_⟩
            · by_cases ej : j = k
              · subst ej; exact HNi.out
              · exact hN.out j (by omega)
            · by_cases eq : q = k
              · subst eq; exact hP2.out
              · exact hO.out q (by omega)
          case measure => simp [intOf]; omega
    · obtain rfl : i = n := by omega
      go_wp2_with fail
      go_loopw [8] (fun iv wr => ∃ (t : Nat), t ≤ i ∧ iv = .int .i64 t ∧ Hid (LpS m pa pk la lk wa wk a i f w wr) ∧ Hid (∀ k, k < t → Mn.ends m (f k) = Mn.begins m (f (Mn.nextN i k)))) (fun iv _ => i - (intOf iv).toNat)
      case atStart => exact ⟨0, Nat.zero_le _, rfl, hS, fun j hj => absurd hj (Nat.not_lt_zero _)⟩
      case round =>
        obtain ⟨k, hk, rfl, hS2, hP2⟩ := hrel
        clear hS
        by_cases hlt : k < i
        · have hltz : (k : Int) < (i : Int) := by omega
          obtain ⟨b, e, d0⟩ := hS2.out.f.at1 hlt
          subst e
          have HE : Hid (((k : Int) + 1).tmod (i : Int) = ((Mn.nextN i k : Nat) : Int)) := by show ((k + 1 : Nat) : Int).tmod (i : Int) = _; unfold Mn.nextN; rfl
          have he : ((Mn.nextN i k : Nat) : Int) < (i : Int) := by have := Mn.nextN_lt hlt; omega
          obtain ⟨b', e, d1⟩ := hS2.out.f.at1 (Mn.nextN_lt hlt)
          cases e
          have D0 := Lib.hid d0
          have D1 := Lib.hid d1
          have HNk := Lib.hid (hN.out k hlt)
          have HNn := Lib.hid (hN.out _ (Mn.nextN_lt hlt))
          clear d0 d1
          go_wp2_with fail
          refine wp_region_held_drew (S := fun V => Below wr.heap.size wr V) (by kernel_rfl) (Below.refl _ _).drew (fun hHeld => ?_)
          obtain ⟨Z, hZ⟩ : ∃ Z, Z = wr.drew := ⟨_, rfl⟩
          rw [← hZ] at hHeld ⊢
          clear hZ
          refine take_do (i := 0) (v := (mnV m pa pk la lk wa wk)) rfl (by kernel_rfl) (by kernel_rfl) (by kernel_rfl) (fun _ _ _ h => h) (by rfl) ?_ (by assumption) ?_
          · intro w hSw
            obtain ⟨⟨r0, r1, r2, r3, r4⟩, _⟩ := rowN5 (nrow_below hS2.out.s.row hSw)
            go_simp
          simp only [Act.put, List.setIfInBounds_toArray, List.set_cons_zero, List.set_cons_succ]
          refine take_do (i := 1) (v := (.slice (some ⟨b, 0, none⟩) i c)) rfl (by kernel_rfl) (by kernel_rfl) (by kernel_rfl) (fun _ _ _ h => h) (by rfl) ?_ (by assumption) ?_
          · intro w hSw
            skip
            go_simp
          simp only [Act.put, List.setIfInBounds_toArray, List.set_cons_zero, List.set_cons_succ]
          refine take_do (i := 2) (v := (.int .i64 k)) rfl (by kernel_rfl) (by kernel_rfl) (by kernel_rfl) (fun _ _ _ h => h) (by rfl) ?_ (by assumption) ?_
          · intro w hSw
            skip
            go_simp
          simp only [Act.put, List.setIfInBounds_toArray, List.set_cons_zero, List.set_cons_succ]
          refine take_do (i := 3) (v := (.pointer (some ⟨b, k, none⟩))) rfl (by kernel_rfl) (by kernel_rfl) (by kernel_rfl) (fun _ _ _ h => h) (by rfl) ?_ (by assumption) ?_
          · intro w hSw
            skip
            go_simp
          simp only [Act.put, List.setIfInBounds_toArray, List.set_cons_zero, List.set_cons_succ]
          refine take_do (i := 4) (v := (.int .i64 (f k))) rfl (by kernel_rfl) (by kernel_rfl) (by kernel_rfl) (fun _ _ _ h => h) (by rfl) ?_ (by assumption) ?_
          · intro w hSw
            have d0 := (hSw.cell (World.block_lt_of_cell? _ _ D0.out)).trans D0.out
            go_simp
          simp only [Act.put, List.setIfInBounds_toArray, List.set_cons_zero, List.set_cons_succ]
          refine take_call (i := 5) rfl (by kernel_rfl) (fun K2 hK => ?_)
          go_simp
          refine (sends_any m pa pk la lk wa wk _ (hS2.out.s.at_.below hHeld) (f k) HNk.out HPN.out).mono ?_
          rintro e Z5 ⟨rfl, hb⟩
          go_wp2_with fail
          refine hK.out _ _ (hHeld.trans (hb.mono hHeld.size)) (fun hHeld2 => ?_)
          clear hK hHeld hb
          have hHeld := hHeld2
          clear hHeld2
          refine take_do (i := 6) (v := (.tuple #[.int .i64 (Mn.begins m (f k)), .int .i64 (Mn.ends m (f k))])) rfl (by kernel_rfl) (by kernel_rfl) (by kernel_rfl) (fun _ _ _ h => h) (by rfl) ?_ (by assumption) ?_
          · intro w hSw
            skip
            go_simp
          simp only [Act.put, List.setIfInBounds_toArray, List.set_cons_zero, List.set_cons_succ]
          refine take_do (i := 7) (v := (.int .i64 (Mn.begins m (f k)))) rfl (by kernel_rfl) (by kernel_rfl) (by kernel_rfl) (fun _ _ _ h => h) (by rfl) ?_ (by assumption) ?_
          · intro w hSw
            skip
            go_simp
          simp only [Act.put, List.setIfInBounds_toArray, List.set_cons_zero, List.set_cons_succ]
          refine take_do (i := 8) (v := (.int .i64 (Mn.ends m (f k)))) rfl (by kernel_rfl) (by kernel_rfl) (by kernel_rfl) (fun _ _ _ h => h) (by rfl) ?_ (by assumption) ?_
          · intro w hSw
            skip
            go_simp
          simp only [Act.put, List.setIfInBounds_toArray, List.set_cons_zero, List.set_cons_succ]
          refine take_do (i := 9) (v := (.int .i64 (Mn.begins m (f k)))) rfl (by kernel_rfl) (by kernel_rfl) (by kernel_rfl) (fun _ _ _ h => h) (by rfl) ?_ (by assumption) ?_
          · intro w hSw
            skip
            go_simp
          simp only [Act.put, List.setIfInBounds_toArray, List.set_cons_zero, List.set_cons_succ]
          refine take_do (i := 10) (v := (.int .i64 (Mn.ends m (f k)))) rfl (by kernel_rfl) (by kernel_rfl) (by kernel_rfl) (fun _ _ _ h => h) (by rfl) ?_ (by assumption) ?_
          · intro w hSw
            skip
            go_simp
          simp only [Act.put, List.setIfInBounds_toArray, List.set_cons_zero, List.set_cons_succ]
          refine wpAnyH_done (by kernel_rfl) ?_ _
          have S4 := Lib.hid (hS2.out.below hHeld)
          have D4 : Hid (Z5.cell? ⟨b, Mn.nextN i k, none⟩ = some (.int .i64 (f (Mn.nextN i k)))) := (hHeld.cell (World.block_lt_of_cell? _ _ D1.out)).trans D1.out
          clear hHeld hS2
          go_wp2_with fail
          refine wp_region_held_drew (S := fun V => Below Z5.heap.size Z5 V) (by kernel_rfl) (Below.refl _ _).drew (fun hHeld => ?_)
          obtain ⟨Z, hZ⟩ : ∃ Z, Z = Z5.drew := ⟨_, rfl⟩
          rw [← hZ] at hHeld ⊢
          clear hZ
          refine take_do (i := 0) (v := (mnV m pa pk la lk wa wk)) rfl (by kernel_rfl) (by kernel_rfl) (by kernel_rfl) (fun _ _ _ h => h) (by rfl) ?_ (by assumption) ?_
          · intro w hSw
            obtain ⟨⟨r0, r1, r2, r3, r4⟩, _⟩ := rowN5 (nrow_below S4.out.s.row hSw)
            go_simp
          simp only [Act.put, List.setIfInBounds_toArray, List.set_cons_zero, List.set_cons_succ]
          refine take_do (i := 1) (v := (.slice (some ⟨b, 0, none⟩) i c)) rfl (by kernel_rfl) (by kernel_rfl) (by kernel_rfl) (fun _ _ _ h => h) (by rfl) ?_ (by assumption) ?_
          · intro w hSw
            skip
            go_simp
          simp only [Act.put, List.setIfInBounds_toArray, List.set_cons_zero, List.set_cons_succ]
          refine take_do (i := 2) (v := (.int .i64 k)) rfl (by kernel_rfl) (by kernel_rfl) (by kernel_rfl) (fun _ _ _ h => h) (by rfl) ?_ (by assumption) ?_
          · intro w hSw
            skip
            go_simp
          simp only [Act.put, List.setIfInBounds_toArray, List.set_cons_zero, List.set_cons_succ]
          refine take_do (i := 3) (v := (.int .i64 ((k : Int) + 1))) rfl (by kernel_rfl) (by kernel_rfl) (by kernel_rfl) (fun _ _ _ h => h) (by rfl) ?_ (by assumption) ?_
          · intro w hSw
            have hw : IntKind.i64.wrap ((k : Int) + 1) = (k : Int) + 1 := mwrap_id (by omega) (by omega)
            go_simp
          simp only [Act.put, List.setIfInBounds_toArray, List.set_cons_zero, List.set_cons_succ]
          refine take_do (i := 4) (v := (.slice (some ⟨b, 0, none⟩) i c)) rfl (by kernel_rfl) (by kernel_rfl) (by kernel_rfl) (fun _ _ _ h => h) (by rfl) ?_ (by assumption) ?_
          · intro w hSw
            skip
            go_simp
          simp only [Act.put, List.setIfInBounds_toArray, List.set_cons_zero, List.set_cons_succ]
          refine take_do (i := 5) (v := (.int .i64 i)) rfl (by kernel_rfl) (by kernel_rfl) (by kernel_rfl) (fun _ _ _ h => h) (by rfl) ?_ (by assumption) ?_
          · intro w hSw
            skip
            go_simp
          simp only [Act.put, List.setIfInBounds_toArray, List.set_cons_zero, List.set_cons_succ]
          refine take_do (i := 6) (v := (.int .i64 ((Mn.nextN i k : Nat) : Int))) rfl (by kernel_rfl) (by kernel_rfl) (by kernel_rfl) (fun _ _ _ h => h) (by rfl) ?_ (by assumption) ?_
          · intro w hSw
            have he2 := HE.out
            have hne : ¬ i = 0 := by omega
            have hw : IntKind.i64.wrap ((Mn.nextN i k : Nat) : Int) = ((Mn.nextN i k : Nat) : Int) := mwrap_id (by omega) (by omega)
            go_simp
          simp only [Act.put, List.setIfInBounds_toArray, List.set_cons_zero, List.set_cons_succ]
          refine take_do (i := 7) (v := (.pointer (some ⟨b, Mn.nextN i k, none⟩))) rfl (by kernel_rfl) (by kernel_rfl) (by kernel_rfl) (fun _ _ _ h => h) (by rfl) ?_ (by assumption) ?_
          · intro w hSw
            skip
            go_simp
          simp only [Act.put, List.setIfInBounds_toArray, List.set_cons_zero, List.set_cons_succ]
          refine take_do (i := 8) (v := (.int .i64 (f (Mn.nextN i k)))) rfl (by kernel_rfl) (by kernel_rfl) (by kernel_rfl) (fun _ _ _ h => h) (by rfl) ?_ (by assumption) ?_
          · intro w hSw
            have d4 := (hSw.cell (World.block_lt_of_cell? _ _ D4.out)).trans D4.out
            go_simp
          simp only [Act.put, List.setIfInBounds_toArray, List.set_cons_zero, List.set_cons_succ]
          refine take_call (i := 9) rfl (by kernel_rfl) (fun K2 hK => ?_)
          go_simp
          refine (sends_any m pa pk la lk wa wk _ (S4.out.s.at_.below hHeld) (f (Mn.nextN i k)) HNn.out HPN.out).mono ?_
          rintro e Z6 ⟨rfl, hb⟩
          go_wp2_with fail
          refine hK.out _ _ (hHeld.trans (hb.mono hHeld.size)) (fun hHeld2 => ?_)
          clear hK hHeld hb
          have hHeld := hHeld2
          clear hHeld2
          refine take_do (i := 10) (v := (.tuple #[.int .i64 (Mn.begins m (f (Mn.nextN i k))), .int .i64 (Mn.ends m (f (Mn.nextN i k)))])) rfl (by kernel_rfl) (by kernel_rfl) (by kernel_rfl) (fun _ _ _ h => h) (by rfl) ?_ (by assumption) ?_
          · intro w hSw
            skip
            go_simp
          simp only [Act.put, List.setIfInBounds_toArray, List.set_cons_zero, List.set_cons_succ]
          refine take_do (i := 11) (v := (.int .i64 (Mn.begins m (f (Mn.nextN i k))))) rfl (by kernel_rfl) (by kernel_rfl) (by kernel_rfl) (fun _ _ _ h => h) (by rfl) ?_ (by assumption) ?_
          · intro w hSw
            skip
            go_simp
          simp only [Act.put, List.setIfInBounds_toArray, List.set_cons_zero, List.set_cons_succ]
          refine take_do (i := 12) (v := (.int .i64 (Mn.ends m (f (Mn.nextN i k))))) rfl (by kernel_rfl) (by kernel_rfl) (by kernel_rfl) (fun _ _ _ h => h) (by rfl) ?_ (by assumption) ?_
          · intro w hSw
            skip
            go_simp
          simp only [Act.put, List.setIfInBounds_toArray, List.set_cons_zero, List.set_cons_succ]
          refine take_do (i := 13) (v := (.int .i64 (Mn.begins m (f (Mn.nextN i k))))) rfl (by kernel_rfl) (by kernel_rfl) (by kernel_rfl) (fun _ _ _ h => h) (by rfl) ?_ (by assumption) ?_
          · intro w hSw
            skip
            go_simp
          simp only [Act.put, List.setIfInBounds_toArray, List.set_cons_zero, List.set_cons_succ]
          refine take_do (i := 14) (v := (.int .i64 (Mn.ends m (f (Mn.nextN i k))))) rfl (by kernel_rfl) (by kernel_rfl) (by kernel_rfl) (fun _ _ _ h => h) (by rfl) ?_ (by assumption) ?_
          · intro w hSw
            skip
            go_simp
          simp only [Act.put, List.setIfInBounds_toArray, List.set_cons_zero, List.set_cons_succ]
          refine wpAnyH_done (by kernel_rfl) ?_ _
          have S5 := Lib.hid (S4.out.below hHeld)
          clear hHeld S4
          by_cases a4 : Mn.ends m (f k) = Mn.begins m (f (Mn.nextN i k))
          · have a4' : (Mn.ends m (f k) != Mn.begins m (f (Mn.nextN i k))) = false := by simp [a4]
            have A4 := Lib.hid a4
            clear a4
            go_wp2_with fail
            go_roundw
            case rel =>
              refine ⟨k + 1, by omega, by go_num, S5, fun j hj => ?_⟩
              by_cases ej : j = k
              · subst ej; exact A4.out
              · exact hP2.out j (by omega)
            case measure => simp [intOf]; omega
          · have a4' : (Mn.ends m (f k) != Mn.begins m (f (Mn.nextN i k))) = true := by simp [a4]
            have A4 := Lib.hid a4
            clear a4
            go_wp2_with fail
            go_ret
            exact ⟨BoolEnd.ff (fun q => A4.out (Mn.ring_next.1 q.ring k hlt)), S5.out.s.old⟩
        · obtain rfl : k = i := by omega
          go_wp2_with fail
          go_ret
          exact ⟨BoolEnd.tt ⟨H12.out.1, H12.out.2, hN.out, hO.out, Mn.ring_next.2 hP2.out⟩, hS2.out.s.old⟩
set_option maxRecDepth 100000 in
set_option maxHeartbeats 8000000 in
theorem specMains_any (m : Mn.Mains) (pa : Option Addr) (pk : Nat) (la : Option Addr) (lk : Nat) (wa : Option Addr) (wk : Nat) (w : World) (h : MnAt m pa la wa w) (hs : MnSmall m) :
    Calls Tryz.prog 44 #[mnV m pa pk la lk wa wk] w fun e w' => BoolEnd (Mn.Right m) e ∧ Below w.heap.size w w' := by
  obtain ⟨W, hW⟩ : ∃ W, W = w.alloc (.cells #[.int .i64 m.nodes, .int .i64 m.head, .slice pa m.pn pk, .slice la m.ln lk, .slice wa m.wn wk] 27) := ⟨_, rfl⟩
  have H := Lib.hid (MnS.new 27 (pk := pk) (lk := lk) (wk := wk) h)
  rw [← hW] at H
  have HW := Lib.hid hW
  have HS := Lib.hid hs
  clear h hs hW
  by_cases a_n1 : m.nodes < 1
  · go_enter Tryz.func44, Tryz.ntmps44
    go_wp2_with fail
    try rw [← HW.out]
    go_ret
    exact ⟨BoolEnd.ff (fun k => by have := k.n1; omega), by first | exact H.out.old | (rw [← HW.out]; exact H.out.old)⟩
  by_cases a_n2 : 12 < m.nodes
  · go_enter Tryz.func44, Tryz.ntmps44
    go_wp2_with fail
    try rw [← HW.out]
    go_ret
    exact ⟨BoolEnd.ff (fun k => by have := k.n2; omega), by first | exact H.out.old | (rw [← HW.out]; exact H.out.old)⟩
  by_cases a_h1 : m.head < -100000
  · go_enter Tryz.func44, Tryz.ntmps44
    go_wp2_with fail
    try rw [← HW.out]
    go_ret
    exact ⟨BoolEnd.ff (fun k => by have := k.h1; omega), by first | exact H.out.old | (rw [← HW.out]; exact H.out.old)⟩
  by_cases a_h2 : 100000 < m.head
  · go_enter Tryz.func44, Tryz.ntmps44
    go_wp2_with fail
    try rw [← HW.out]
    go_ret
    exact ⟨BoolEnd.ff (fun k => by have := k.h2; omega), by first | exact H.out.old | (rw [← HW.out]; exact H.out.old)⟩
  by_cases a_pn : 40 < m.pn
  · have z_pn : (40 : Int) < (m.pn : Int) := by omega
    have A := Lib.hid a_pn
    clear a_pn
    go_enter Tryz.func44, Tryz.ntmps44
    go_wp2_with fail
    try rw [← HW.out]
    go_ret
    exact ⟨BoolEnd.ff (fun k => by have := k.pn; have := A.out; omega), by first | exact H.out.old | (rw [← HW.out]; exact H.out.old)⟩
  have z_pn : ¬ (40 : Int) < (m.pn : Int) := by omega
  by_cases a_ln : 12 < m.ln
  · have z_ln : (12 : Int) < (m.ln : Int) := by omega
    have A := Lib.hid a_ln
    clear a_ln
    go_enter Tryz.func44, Tryz.ntmps44
    go_wp2_with fail
    try rw [← HW.out]
    go_ret
    exact ⟨BoolEnd.ff (fun k => by have := k.ln; have := A.out; omega), by first | exact H.out.old | (rw [← HW.out]; exact H.out.old)⟩
  have z_ln : ¬ (12 : Int) < (m.ln : Int) := by omega
  by_cases a_wn : (m.wn : Int) = m.nodes
  case neg =>
    have z_wn : ((m.wn : Int) != m.nodes) = true := by simp [a_wn]
    have A := Lib.hid a_wn
    clear a_wn
    go_enter Tryz.func44, Tryz.ntmps44
    go_wp2_with fail
    try rw [← HW.out]
    go_ret
    exact ⟨BoolEnd.ff (fun k => A.out k.wn), by first | exact H.out.old | (rw [← HW.out]; exact H.out.old)⟩
  have z_wn : ((m.wn : Int) != m.nodes) = false := by simp [a_wn]
  have HQ : Hid (m.pn ≤ 40 ∧ m.ln ≤ 12 ∧ (m.wn : Int) = m.nodes) := ⟨by omega, by omega, a_wn⟩
  clear a_wn a_pn a_ln
  go_enter Tryz.func44, Tryz.ntmps44
  go_wp2_with fail
  rw [← HW.out]
  refine (all_any wa m.wn wk m.W _ _ _ H.out.at_.w HS.out.2.2.2).mono ?_
  rintro e w1 ⟨⟨b1, rfl, hb1⟩, hb⟩
  have S1 := Lib.hid (H.out.below hb)
  have K1 := Lib.hid hb1
  clear hb hb1 H
  cases b1 with
  | false =>
    go_wp2_with fail
    go_ret
    exact ⟨BoolEnd.ff (fun k => by have := K1.out.2 k.w; cases this), S1.out.old⟩
  | true =>
  have HWs := Lib.hid (K1.out.1 (by trivial))
  clear K1
  go_wp2_with fail
  go_loopw [3] (fun iv wr => ∃ (i : Nat), i ≤ m.pn ∧ iv = .int .i64 i ∧ Hid (MnS 27 m pa pk la lk wa wk w wr) ∧ Hid (∀ j, j < i → Mn.PipeOk m j)) (fun iv _ => m.pn - (intOf iv).toNat)
  case atStart => exact ⟨0, Nat.zero_le _, rfl, S1, fun j hj => absurd hj (Nat.not_lt_zero _)⟩
  case round =>
    obtain ⟨i, hi, rfl, hS, hP⟩ := hrel
    clear S1
    obtain ⟨⟨r0, r1, r2, r3, r4⟩, _⟩ := rowN5 hS.out.row
    have zw : w.heap.size < wr.heap.size := hS.out.row.lt
    by_cases hlt : i < m.pn
    · have hltz : (i : Int) < (m.pn : Int) := by omega
      obtain ⟨b, e, c0, c1, c2, c3, c4⟩ := hS.out.at_.p.at5 hlt
      subst e
      have zb : b < wr.heap.size := World.block_lt_of_cell? _ _ c0
      have HA : Hid (Below w.heap.size w (wr.alloc (.cells #[.int .i64 (m.P (i * 5)), .int .i64 (m.P (i * 5 + 1)), .int .i64 (m.P (i * 5 + 2)), .int .i64 (m.P (i * 5 + 3)), .int .i64 (m.P (i * 5 + 4))] 36))) := hS.out.old.alloc hS.out.old.size _
      by_cases b_k1 : m.P (i * 5) < 1
      · go_wp2_with fail
        go_ret
        exact ⟨BoolEnd.ff (fun k => by have := (k.p i hlt).k1; omega), HA.out⟩
      by_cases b_k2 : 6 < m.P (i * 5)
      · go_wp2_with fail
        go_ret
        exact ⟨BoolEnd.ff (fun k => by have := (k.p i hlt).k2; omega), HA.out⟩
      by_cases b_f0 : m.P (i * 5 + 1) < 0
      · go_wp2_with fail
        go_ret
        exact ⟨BoolEnd.ff (fun k => by have := (k.p i hlt).f0; omega), HA.out⟩
      by_cases b_f1 : m.nodes ≤ m.P (i * 5 + 1)
      · go_wp2_with fail
        go_ret
        exact ⟨BoolEnd.ff (fun k => by have := (k.p i hlt).f1; omega), HA.out⟩
      by_cases b_t0 : m.P (i * 5 + 2) < 0
      · go_wp2_with fail
        go_ret
        exact ⟨BoolEnd.ff (fun k => by have := (k.p i hlt).t0; omega), HA.out⟩
      by_cases b_t1 : m.nodes ≤ m.P (i * 5 + 2)
      · go_wp2_with fail
        go_ret
        exact ⟨BoolEnd.ff (fun k => by have := (k.p i hlt).t1; omega), HA.out⟩
      by_cases b_ne : m.P (i * 5 + 1) = m.P (i * 5 + 2)
      · have b_ne' : (m.P (i * 5 + 1) == m.P (i * 5 + 2)) = true := by simp [b_ne]
        have A := Lib.hid b_ne
        clear b_ne
        go_wp2_with fail
        go_ret
        exact ⟨BoolEnd.ff (fun k => (k.p i hlt).ne A.out), HA.out⟩
      have b_ne' : (m.P (i * 5 + 1) == m.P (i * 5 + 2)) = false := by simp [b_ne]
      have H4 := Lib.hid b_ne
      clear b_ne
      by_cases b_d0 : m.P (i * 5 + 3) < 0
      · go_wp2_with fail
        go_ret
        exact ⟨BoolEnd.ff (fun k => by have := (k.p i hlt).d0; omega), HA.out⟩
      by_cases b_d1 : 1000 < m.P (i * 5 + 3)
      · go_wp2_with fail
        go_ret
        exact ⟨BoolEnd.ff (fun k => by have := (k.p i hlt).d1; omega), HA.out⟩
      by_cases b_m0 : m.P (i * 5 + 4) < 0
      · go_wp2_with fail
        go_ret
        exact ⟨BoolEnd.ff (fun k => by have := (k.p i hlt).m0; omega), HA.out⟩
      by_cases b_m1 : 100000 < m.P (i * 5 + 4)
      · go_wp2_with fail
        go_ret
        exact ⟨BoolEnd.ff (fun k => by have := (k.p i hlt).m1; omega), HA.out⟩
      go_wp2_with fail
      go_roundw
      case rel =>
        refine ⟨i + 1, by omega, by go_num, hS.out.alloc _, fun j hj => ?_⟩
        by_cases ej : j = i
        · subst ej
          exact ⟨by omega, by omega, H4.out, by omega, by omega, by omega, by omega, by omega, by omega, by omega, by omega⟩
        · exact hP.out j (by omega)
      case measure => simp [intOf]; omega
    · obtain rfl : i = m.pn := by omega
      have HL := Lib.hid hP.out
      clear hP
      go_wp2_with fail
      go_loopw [5] (fun iv wr => ∃ (i : Nat), i ≤ m.ln ∧ iv = .int .i64 i ∧ Hid (MnS 27 m pa pk la lk wa wk w wr) ∧ Hid (∀ j, j < i → Mn.LoopOk m (m.LN j) (m.L j))) (fun iv _ => m.ln - (intOf iv).toNat)
      case atStart => exact ⟨0, Nat.zero_le _, rfl, hS, fun j hj => absurd hj (Nat.not_lt_zero _)⟩
      case round =>
        obtain ⟨i, hi, rfl, hS2, hP⟩ := hrel
        clear hS r0 r1 r2 r3 r4 zw
        obtain ⟨⟨r0, r1, r2, r3, r4⟩, _⟩ := rowN5 hS2.out.row
        by_cases hlt : i < m.ln
        · have hltz : (i : Int) < (m.ln : Int) := by omega
          obtain ⟨b, e, ai, ci, d0, ki⟩ := hS2.out.at_.l.one hlt
          subst e
          have KI := Lib.hid ki
          have D0 := Lib.hid d0
          clear ki d0
          go_wp2_with fail
          clear r0 r1 r2 r3 r4
          refine wp_region_held_drew (S := fun V => Below wr.heap.size wr V) (by kernel_rfl) (Below.refl _ _).drew (fun hHeld => ?_)
          obtain ⟨Z, hZ⟩ : ∃ Z, Z = wr.drew := ⟨_, rfl⟩
          rw [← hZ] at hHeld ⊢
          clear hZ
          refine take_do (i := 0) (v := (mnV m pa pk (some ⟨b, 0, none⟩) lk wa wk)) rfl (by kernel_rfl) (by kernel_rfl) (by kernel_rfl) (fun _ _ _ h => h) (by rfl) ?_ (by assumption) ?_
          · intro w hSw
            obtain ⟨⟨r0, r1, r2, r3, r4⟩, _⟩ := rowN5 (nrow_below hS2.out.row hSw)
            go_simp
          simp only [Act.put, List.setIfInBounds_toArray, List.set_cons_zero, List.set_cons_succ]
          refine take_do (i := 1) (v := (.pointer (some ⟨w.heap.size, 3, none⟩))) rfl (by kernel_rfl) (by kernel_rfl) (by kernel_rfl) (fun _ _ _ h => h) (by rfl) ?_ (by assumption) ?_
          · intro w hSw
            skip
            go_simp
          simp only [Act.put, List.setIfInBounds_toArray, List.set_cons_zero, List.set_cons_succ]
          refine take_do (i := 2) (v := (.slice (some ⟨b, 0, none⟩) m.ln lk)) rfl (by kernel_rfl) (by kernel_rfl) (by kernel_rfl) (fun _ _ _ h => h) (by rfl) ?_ (by assumption) ?_
          · intro w hSw
            obtain ⟨⟨r0, r1, r2, r3, r4⟩, _⟩ := rowN5 (nrow_below hS2.out.row hSw)
            go_simp
          simp only [Act.put, List.setIfInBounds_toArray, List.set_cons_zero, List.set_cons_succ]
          refine take_do (i := 3) (v := (.int .i64 i)) rfl (by kernel_rfl) (by kernel_rfl) (by kernel_rfl) (fun _ _ _ h => h) (by rfl) ?_ (by assumption) ?_
          · intro w hSw
            skip
            go_simp
          simp only [Act.put, List.setIfInBounds_toArray, List.set_cons_zero, List.set_cons_succ]
          refine take_do (i := 4) (v := (.pointer (some ⟨b, i, none⟩))) rfl (by kernel_rfl) (by kernel_rfl) (by kernel_rfl) (fun _ _ _ h => h) (by rfl) ?_ (by assumption) ?_
          · intro w hSw
            skip
            go_simp
          simp only [Act.put, List.setIfInBounds_toArray, List.set_cons_zero, List.set_cons_succ]
          refine take_do (i := 5) (v := (.slice ai (m.LN i) ci)) rfl (by kernel_rfl) (by kernel_rfl) (by kernel_rfl) (fun _ _ _ h => h) (by rfl) ?_ (by assumption) ?_
          · intro w hSw
            have d0 := (hSw.cell (World.block_lt_of_cell? _ _ D0.out)).trans D0.out
            go_simp
          simp only [Act.put, List.setIfInBounds_toArray, List.set_cons_zero, List.set_cons_succ]
          refine take_call (i := 6) rfl (by kernel_rfl) (fun K2 hK => ?_)
          go_simp
          refine (sloop_any m pa pk _ lk wa wk _ (hS2.out.at_.below hHeld) ai (m.LN i) ci (m.L i) (KI.out.below hHeld) HQ.out.1).mono ?_
          rintro e w3 ⟨⟨b1, rfl, hb1⟩, hb⟩
          have K1 := Lib.hid hb1
          clear hb1
          go_wp2_with fail
          refine hK.out _ _ (hHeld.trans (hb.mono hHeld.size)) (fun hHeld2 => ?_)
          clear hK hHeld hb
          have hHeld := hHeld2
          clear hHeld2
          cases b1 with
          | false =>
            refine take_do (i := 7) (v := (.bool true)) rfl (by kernel_rfl) (by kernel_rfl) (by kernel_rfl) (fun _ _ _ h => h) (by rfl) ?_ (by assumption) ?_
            · intro w hSw
              skip
              go_simp
            simp only [Act.put, List.setIfInBounds_toArray, List.set_cons_zero, List.set_cons_succ]
            refine wpAnyH_done (by kernel_rfl) ?_ _
            have S3 := Lib.hid (hS2.out.below hHeld)
            clear hHeld
            go_wp2_with fail
            go_ret
            exact ⟨BoolEnd.ff (fun k => by have := K1.out.2 (k.l i hlt); cases this), S3.out.old⟩
          | true =>
            refine take_do (i := 7) (v := (.bool false)) rfl (by kernel_rfl) (by kernel_rfl) (by kernel_rfl) (fun _ _ _ h => h) (by rfl) ?_ (by assumption) ?_
            · intro w hSw
              skip
              go_simp
            simp only [Act.put, List.setIfInBounds_toArray, List.set_cons_zero, List.set_cons_succ]
            refine wpAnyH_done (by kernel_rfl) ?_ _
            have S3 := Lib.hid (hS2.out.below hHeld)
            clear hHeld
            go_wp2_with fail
            go_roundw
            case rel =>
              refine ⟨i + 1, by omega, by go_num, S3, fun j hj => ?_⟩
              by_cases ej : j = i
              · subst ej; exact K1.out.1 (by trivial)
              · exact hP.out j (by omega)
            case measure => simp [intOf]; omega
        · obtain rfl : i = m.ln := by omega
          go_wp2_with fail
          go_ret
          have q := HQ.out
          exact ⟨BoolEnd.tt ⟨by omega, by omega, by omega, by omega, q.1, HL.out, q.2.2, HWs.out, q.2.1, hP.out⟩, hS2.out.old⟩
end Go.Proofs.YtfgmalnkpgloiaaGreatDoor
