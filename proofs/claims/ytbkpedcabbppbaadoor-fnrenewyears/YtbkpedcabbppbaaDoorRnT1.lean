/-
  One row of the table of renewals by the row behind it: the program's.
-/
import Derived.Test.YtbkpedcabbppbaaDoorRnMem
import Derived.Test.YtbkpedcabbppbaaDoorRnI1
import Derived.Test.YtbkpedcabbppbaaDoorNtEx1
import Derived.Test.YtbkpedcabbppbaaDoorReg
import Derived.Deep.QuietTactic
namespace Go.Proofs.YtbkpedcabbppbaaDoor
open Go.RowKit Go.Deep

/-- Whether an asset is renewed, and what it and those behind it are worth then. -/
def Rn.rt (c : Nat) (y : Int) (nx : Nat → Int) (b : Nat) : Bool := decide (c ≤ b) && decide (nx b ≤ y + nx (b - c))
def Rn.rv (c : Nat) (y : Int) (nx : Nat → Int) (b : Nat) : Int := if c ≤ b then (if nx b ≤ y + nx (b - c) then y + nx (b - c) else nx b) else nx b
theorem Rn.rv_step (f : Nat → Int) (i : Nat) (nx : Nat → Int) : Rn.rv (Rn.c f i) (f (i * 2 + 1)) nx = Rn.step f i nx := rfl
/-- The greater of two, and which it is. -/
def Rn.Bst (s wo u v : Int) : Prop := (s < wo ∧ u = 1 ∧ v = wo) ∨ (¬ s < wo ∧ u = 0 ∧ v = s)
theorem Rn.bst (s wo : Int) : ∃ u v, Rn.Bst s wo u v := by
  by_cases h : s < wo
  · exact ⟨1, wo, Or.inl ⟨h, rfl, rfl⟩⟩
  · exact ⟨0, s, Or.inr ⟨h, rfl, rfl⟩⟩
set_option maxRecDepth 100000 in
set_option maxHeartbeats 2000000 in
theorem bestOf_any (s wo u v : Int) (g : Nat) (w : World) (h : w.cell? ⟨g, 0, none⟩ = some (.int .i64 wo)) (hq : Rn.Bst s wo u v) :
    Calls Tryd.prog 75 #[.int .i64 s, .slice (some ⟨g, 0, none⟩) 1 1] w fun e w' => e = .returned (.tuple #[.int .i64 u, .int .i64 v]) ∧ w' = w := by
  have HQ := Lib.hid hq
  clear hq
  go_enter Tryd.func75, Tryd.ntmps75
  go_wp2_with fail
  go_loopw [6, 7, 8, 9, 13] (fun pv bv _ _ iv wr => wr = w ∧ ((pv = .int .i64 0 ∧ bv = .int .i64 s ∧ iv = .int .i64 0) ∨ (pv = .int .i64 u ∧ bv = .int .i64 v ∧ iv = .int .i64 1))) (fun _ _ _ _ iv _ => 1 - (intOf iv).toNat)
  case atStart => exact ⟨rfl, Or.inl ⟨rfl, rfl, rfl⟩⟩
  case round =>
    obtain ⟨rfl, ⟨rfl, rfl, rfl⟩ | ⟨rfl, rfl, rfl⟩⟩ := hrel
    · by_cases hs : s < wo
      · have HU : Hid (u = 1 ∧ v = wo) := by
          rcases HQ.out with q | q
          · exact q.2
          · exact absurd hs q.1
        go_wp2_with fail
        go_roundw
        case rel => exact ⟨by trivial, Or.inr ⟨by rw [HU.out.1], by rw [HU.out.2], by rfl⟩⟩
        case measure => simp [intOf]
      · have HU : Hid (u = 0 ∧ v = s) := by
          rcases HQ.out with q | q
          · exact absurd q.1 hs
          · exact q.2
        go_wp2_with fail
        go_roundw
        case rel => exact ⟨by trivial, Or.inr ⟨by rw [HU.out.1], by rw [HU.out.2], by rfl⟩⟩
        case measure => simp [intOf]
    · go_wp2_with fail
      refine bodyPost_ret (v := .tuple #[.int .i64 u, .int .i64 v]) (by simp only [results, Tryd.results75]; simp [go_sem]) rfl ⟨rfl, rfl⟩
def RnS (w : World) (gx g c : Nat) (y : Int) (d : Nat) (nd : Int) (V : World) : Prop := (V.cell? ⟨gx, 0, none⟩ = some (.int .i64 c) ∧ V.cell? ⟨gx, 1, none⟩ = some (.int .i64 y)) ∧ V.cell? ⟨g, d, none⟩ = some (.int .i64 nd) ∧ Below w.heap.size w V
theorem RnS.below {w : World} {gx g c : Nat} {y : Int} {d : Nat} {nd : Int} {V V' : World} (h : RnS w gx g c y d nd V) (hb : Below V.heap.size V V') : RnS w gx g c y d nd V' := by
  obtain ⟨⟨h0, h1⟩, h2, h3⟩ := h
  exact ⟨⟨(hb.cell (World.block_lt_of_cell? _ _ h0)).trans h0, (hb.cell (World.block_lt_of_cell? _ _ h1)).trans h1⟩, (hb.cell (World.block_lt_of_cell? _ _ h2)).trans h2, h3.trans (hb.mono h3.size)⟩
set_option maxRecDepth 100000 in
set_option maxHeartbeats 4000000 in
theorem renews_any (c : Nat) (y : Int) (left g N cap : Nat) (nx : Nat → Int) (w : World) (h : IsAt (some ⟨g, 0, none⟩) N nx w) (hy : 0 ≤ y ∧ y ≤ 1000) (hc : c ≤ 300) (hl : left < N) (hN : N ≤ 1000) (hb : ∀ j, 0 ≤ nx j ∧ nx j ≤ 40000) :
    Calls Tryd.prog 69 #[.agg #[.int .i64 (c : Int), .int .i64 y], .int .i64 (left : Int), .slice (some ⟨g, 0, none⟩) N cap] w fun e w' => e = .returned (.tuple #[.bool (Rn.rt c y nx left), .int .i64 (Rn.rv c y nx left)]) ∧ Below w.heap.size w w' := by
  obtain ⟨W, hW⟩ : ∃ W, W = w.alloc (.cells #[.int .i64 (c : Int), .int .i64 y] 53) := ⟨_, rfl⟩
  have HB : Hid (Below w.heap.size w W) := by show Below _ _ _; rw [hW]; exact nbel_alloc _ _
  have HX : Hid (W.rowIs w.heap.size 53 2 (rowN [.int .i64 (c : Int), .int .i64 y])) := by show W.rowIs _ _ _ _; rw [hW]; exact rowN_alloc w _ _
  have HW := Lib.hid hW
  clear hW
  have hlz : (left : Int) < (N : Int) := by omega
  obtain ⟨b1, e, q2⟩ := (h.below HB.out).at1 hl
  cases e
  obtain ⟨⟨q0, q1⟩, _⟩ := rowN2 HX.out
  have q2a := q2
  rw [HW.out] at q2a
  obtain ⟨gx, hgx⟩ : ∃ gx, gx = w.heap.size := ⟨_, rfl⟩
  by_cases hcl : c ≤ left
  case neg =>
    have hz : (left : Int) < (c : Int) := by omega
    have HE : Hid (Rn.rt c y nx left = false ∧ Rn.rv c y nx left = nx left) := by
      unfold Rn.rt Rn.rv
      rw [if_neg hcl]
      exact ⟨by simp [hcl], rfl⟩
    clear hb h hy hcl q0 q1 q2 hgx
    go_enter Tryd.func69, Tryd.ntmps69
    go_wp2_with fail
    rw [← HW.out]
    refine bodyPost_ret (v := .tuple #[.bool false, .int .i64 (nx left)]) (by simp only [results, Tryd.results69]; simp [go_sem]) rfl ⟨by rw [HE.out.1, HE.out.2], HB.out⟩
  have hz : ¬ (left : Int) < (c : Int) := by omega
  obtain ⟨d, hd⟩ : ∃ d : Nat, left = c + d := ⟨left - c, by omega⟩
  have hdN : d < N := by omega
  have hdz : (d : Int) < (N : Int) := by omega
  obtain ⟨b2, e, q3⟩ := (h.below HB.out).at1 hdN
  cases e
  obtain ⟨wo, hwo⟩ : ∃ wo, wo = nx left := ⟨_, rfl⟩
  obtain ⟨nd, hnd⟩ : ∃ nd, nd = nx d := ⟨_, rfl⟩
  obtain ⟨s, hs⟩ : ∃ s, s = y + nd := ⟨_, rfl⟩
  rw [← hwo] at q2a
  rw [← hnd] at q3
  have e6 : IntKind.i64.wrap ((left : Int) - (c : Int)) = (d : Int) := by rw [rwrap (by omega) (by omega)]; omega
  have e9 : IntKind.i64.wrap (y + nd) = s := by
    have := hb d
    rw [rwrap (by omega) (by omega), hs]
  have HS : Hid (RnS w gx g c y d nd W) := ⟨⟨by rw [hgx]; exact q0, by rw [hgx]; exact q1⟩, q3, HB.out⟩
  have HD := Lib.hid hd
  have HWO := Lib.hid hwo
  have HND := Lib.hid hnd
  have HSS := Lib.hid hs
  have HGX := Lib.hid hgx
  obtain ⟨u, v, hq⟩ := Rn.bst s wo
  have HQ := Lib.hid hq
  clear hq
  clear hd hwo hnd hs hcl hb h hy q3 hgx q0 q1 q2
  go_enter Tryd.func69, Tryd.ntmps69
  go_wp2_with fail
  rw [← HW.out, ← HGX.out]
  clear HW HGX q2a HX HB
  refine wp_region_held_drew (S := fun V => RnS w gx g c y d nd V) (by kernel_rfl) (HS.out.below (Below.refl _ _).drew) (fun hHeld => ?_)
  obtain ⟨Z, hZ⟩ : ∃ Z, Z = W.drew := ⟨_, rfl⟩
  rw [← hZ] at hHeld ⊢
  clear hZ HS
  refine take_do (i := 0) (v := (.pointer (some ⟨gx, 1, none⟩))) rfl (by kernel_rfl) (by kernel_rfl) (by kernel_rfl) (fun _ _ _ h => h) (by rfl) ?_ (by assumption) ?_
  · intro w hSw
    obtain ⟨⟨q0, q1⟩, q2, _⟩ := hSw
    go_simp
  simp only [Act.put, List.setIfInBounds_toArray, List.set_cons_zero, List.set_cons_succ]
  refine take_do (i := 1) (v := (.int .i64 y)) rfl (by kernel_rfl) (by kernel_rfl) (by kernel_rfl) (fun _ _ _ h => h) (by rfl) ?_ (by assumption) ?_
  · intro w hSw
    obtain ⟨⟨q0, q1⟩, q2, _⟩ := hSw
    go_simp
  simp only [Act.put, List.setIfInBounds_toArray, List.set_cons_zero, List.set_cons_succ]
  refine take_do (i := 2) (v := (.slice (some ⟨g, 0, none⟩) N cap)) rfl (by kernel_rfl) (by kernel_rfl) (by kernel_rfl) (fun _ _ _ h => h) (by rfl) ?_ (by assumption) ?_
  · intro w hSw
    obtain ⟨⟨q0, q1⟩, q2, _⟩ := hSw
    go_simp
  simp only [Act.put, List.setIfInBounds_toArray, List.set_cons_zero, List.set_cons_succ]
  refine take_do (i := 3) (v := (.int .i64 left)) rfl (by kernel_rfl) (by kernel_rfl) (by kernel_rfl) (fun _ _ _ h => h) (by rfl) ?_ (by assumption) ?_
  · intro w hSw
    obtain ⟨⟨q0, q1⟩, q2, _⟩ := hSw
    go_simp
  simp only [Act.put, List.setIfInBounds_toArray, List.set_cons_zero, List.set_cons_succ]
  refine take_do (i := 4) (v := (.pointer (some ⟨gx, 0, none⟩))) rfl (by kernel_rfl) (by kernel_rfl) (by kernel_rfl) (fun _ _ _ h => h) (by rfl) ?_ (by assumption) ?_
  · intro w hSw
    obtain ⟨⟨q0, q1⟩, q2, _⟩ := hSw
    go_simp
  simp only [Act.put, List.setIfInBounds_toArray, List.set_cons_zero, List.set_cons_succ]
  refine take_do (i := 5) (v := (.int .i64 c)) rfl (by kernel_rfl) (by kernel_rfl) (by kernel_rfl) (fun _ _ _ h => h) (by rfl) ?_ (by assumption) ?_
  · intro w hSw
    obtain ⟨⟨q0, q1⟩, q2, _⟩ := hSw
    go_simp
  simp only [Act.put, List.setIfInBounds_toArray, List.set_cons_zero, List.set_cons_succ]
  refine take_do (i := 6) (v := (.int .i64 d)) rfl (by kernel_rfl) (by kernel_rfl) (by kernel_rfl) (fun _ _ _ h => h) (by rfl) ?_ (by assumption) ?_
  · intro w hSw
    obtain ⟨⟨q0, q1⟩, q2, _⟩ := hSw
    go_simp
  simp only [Act.put, List.setIfInBounds_toArray, List.set_cons_zero, List.set_cons_succ]
  refine take_do (i := 7) (v := (.pointer (some ⟨g, d, none⟩))) rfl (by kernel_rfl) (by kernel_rfl) (by kernel_rfl) (fun _ _ _ h => h) (by rfl) ?_ (by assumption) ?_
  · intro w hSw
    obtain ⟨⟨q0, q1⟩, q2, _⟩ := hSw
    go_simp
  simp only [Act.put, List.setIfInBounds_toArray, List.set_cons_zero, List.set_cons_succ]
  refine take_do (i := 8) (v := (.int .i64 nd)) rfl (by kernel_rfl) (by kernel_rfl) (by kernel_rfl) (fun _ _ _ h => h) (by rfl) ?_ (by assumption) ?_
  · intro w hSw
    obtain ⟨⟨q0, q1⟩, q2, _⟩ := hSw
    go_simp
  simp only [Act.put, List.setIfInBounds_toArray, List.set_cons_zero, List.set_cons_succ]
  refine take_do (i := 9) (v := (.int .i64 s)) rfl (by kernel_rfl) (by kernel_rfl) (by kernel_rfl) (fun _ _ _ h => h) (by rfl) ?_ (by assumption) ?_
  · intro w hSw
    obtain ⟨⟨q0, q1⟩, q2, _⟩ := hSw
    go_simp
  simp only [Act.put, List.setIfInBounds_toArray, List.set_cons_zero, List.set_cons_succ]
  refine take_do (i := 10) (v := (.int .i64 wo)) rfl (by kernel_rfl) (by kernel_rfl) (by kernel_rfl) (fun _ _ _ h => h) (by rfl) ?_ (by assumption) ?_
  · intro w hSw
    obtain ⟨⟨q0, q1⟩, q2, _⟩ := hSw
    go_simp
  simp only [Act.put, List.setIfInBounds_toArray, List.set_cons_zero, List.set_cons_succ]
  refine take_call (i := 11) rfl (by kernel_rfl) (fun K2 hK => ?_)
  go_simp
  obtain ⟨Y, hY⟩ : ∃ Y, Y = Z.alloc (.cells #[.int .i64 wo] 2) := ⟨_, rfl⟩
  have hb : Below Z.heap.size Z Y := by rw [hY]; exact nbel_alloc _ _
  have HA : Hid (Y.cell? ⟨Z.heap.size, 0, none⟩ = some (.int .i64 wo)) := by show Y.cell? _ = _; rw [hY]; exact (rowN_alloc Z [.int .i64 wo] _).cell (by simp)
  rw [← hY]
  clear hY
  refine hK.out _ _ (hHeld.below hb) (fun hHeld2 => ?_)
  clear hK hHeld hb
  have hHeld := hHeld2
  clear hHeld2
  refine take_call (i := 12) rfl (by kernel_rfl) (fun K2 hK => ?_)
  go_simp
  refine (bestOf_any s wo u v Z.heap.size _ HA.out HQ.out).mono ?_
  rintro e w1 ⟨rfl, rfl⟩
  go_wp2_with fail
  refine hK.out _ _ hHeld (fun hHeld2 => ?_)
  clear hK hHeld HA
  have hHeld := hHeld2
  clear hHeld2
  refine take_do (i := 13) (v := (.tuple #[.int .i64 u, .int .i64 v])) rfl (by kernel_rfl) (by kernel_rfl) (by kernel_rfl) (fun _ _ _ h => h) (by rfl) ?_ (by assumption) ?_
  · intro w hSw
    obtain ⟨⟨q0, q1⟩, q2, _⟩ := hSw
    go_simp
  simp only [Act.put, List.setIfInBounds_toArray, List.set_cons_zero, List.set_cons_succ]
  refine take_do (i := 14) (v := (.int .i64 u)) rfl (by kernel_rfl) (by kernel_rfl) (by kernel_rfl) (fun _ _ _ h => h) (by rfl) ?_ (by assumption) ?_
  · intro w hSw
    obtain ⟨⟨q0, q1⟩, q2, _⟩ := hSw
    go_simp
  simp only [Act.put, List.setIfInBounds_toArray, List.set_cons_zero, List.set_cons_succ]
  refine take_do (i := 15) (v := (.int .i64 v)) rfl (by kernel_rfl) (by kernel_rfl) (by kernel_rfl) (fun _ _ _ h => h) (by rfl) ?_ (by assumption) ?_
  · intro w hSw
    obtain ⟨⟨q0, q1⟩, q2, _⟩ := hSw
    go_simp
  simp only [Act.put, List.setIfInBounds_toArray, List.set_cons_zero, List.set_cons_succ]
  refine take_do (i := 16) (v := (.int .i64 u)) rfl (by kernel_rfl) (by kernel_rfl) (by kernel_rfl) (fun _ _ _ h => h) (by rfl) ?_ (by assumption) ?_
  · intro w hSw
    obtain ⟨⟨q0, q1⟩, q2, _⟩ := hSw
    go_simp
  simp only [Act.put, List.setIfInBounds_toArray, List.set_cons_zero, List.set_cons_succ]
  refine take_do (i := 17) (v := (.int .i64 v)) rfl (by kernel_rfl) (by kernel_rfl) (by kernel_rfl) (fun _ _ _ h => h) (by rfl) ?_ (by assumption) ?_
  · intro w hSw
    obtain ⟨⟨q0, q1⟩, q2, _⟩ := hSw
    go_simp
  simp only [Act.put, List.setIfInBounds_toArray, List.set_cons_zero, List.set_cons_succ]
  refine wpAnyH_done (by kernel_rfl) ?_ _
  have HB1 : Hid (Below w.heap.size w _) := hHeld.2.2
  clear hHeld
  rcases HQ.out with ⟨hs, hu, hv⟩ | ⟨hs, hu, hv⟩
  · subst u v
    have HE : Hid (Rn.rt c y nx left = false ∧ Rn.rv c y nx left = wo) := by
      have e1 := HD.out
      have e2 := HWO.out
      have e3 := HND.out
      have e4 := HSS.out
      have e5 : left - c = d := by omega
      unfold Rn.rt Rn.rv
      rw [e5, ← e2, ← e3, ← e4, if_pos (by omega), if_neg (by omega)]
      exact ⟨by simp; omega, rfl⟩
    clear hs
    go_wp2_with fail
    refine bodyPost_ret (v := .tuple #[.bool false, .int .i64 wo]) (by simp only [results, Tryd.results69]; simp [go_sem]) rfl ⟨by rw [HE.out.1, HE.out.2], HB1.out⟩
  · subst u v
    have HE : Hid (Rn.rt c y nx left = true ∧ Rn.rv c y nx left = s) := by
      have e1 := HD.out
      have e2 := HWO.out
      have e3 := HND.out
      have e4 := HSS.out
      have e5 : left - c = d := by omega
      unfold Rn.rt Rn.rv
      rw [e5, ← e2, ← e3, ← e4, if_pos (by omega), if_pos (by omega)]
      exact ⟨by simp; omega, rfl⟩
    clear hs
    go_wp2_with fail
    refine bodyPost_ret (v := .tuple #[.bool true, .int .i64 s]) (by simp only [results, Tryd.results69]; simp [go_sem]) rfl ⟨by rw [HE.out.1, HE.out.2], HB1.out⟩
end Go.Proofs.YtbkpedcabbppbaaDoor
