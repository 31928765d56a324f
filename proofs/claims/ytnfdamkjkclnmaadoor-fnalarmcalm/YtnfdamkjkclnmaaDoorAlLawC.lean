/-
  The law FnAlarmCalm.
-/
import Derived.Test.YtnfdamkjkclnmaaDoorAlDr
import Derived.Test.YtnfdamkjkclnmaaDoorAlR1
import Derived.Test.YtnfdamkjkclnmaaDoorAlS1
import Derived.Test.YtnfdamkjkclnmaaDoorLwAt
import Derived.Test.YtnfdamkjkclnmaaDoorEt
namespace Go.Proofs.YtnfdamkjkclnmaaDoor
open Go Go.RowKit Go.Deep

/-- A list of acts in the making. -/
structure LcS (w : World) (g : Nat) (X : Al.A) (v : Value) (l : List (Int × Int)) (W : World) : Prop where
  row : W.rowIs g 24 6 (rowN (alL X))
  l : W.ownsRow w.heap.size 31 2 v l.length (nvs l)
  old : Below w.heap.size w W
theorem own_neA {W : World} {B n m : Nat} {v : Value} {ns : List Value} {x : Nat} {F : Nat → Value} (h : W.ownsRow B 31 2 v n ns) (hr : W.rowIs x 24 m F) {g : Nat} (hg : v.ownBlock = some g) : g ≠ x := by
  rintro rfl
  rcases h.2 with ⟨h1, _⟩ | ⟨g', cap, cur, e1, e2, e3, _⟩
  · rw [h1] at hg; simp [Value.ownBlock] at hg
  · rw [e1] at hg
    simp [Value.ownBlock] at hg
    subst hg
    obtain ⟨c2, q2, _⟩ := hr
    rw [e3] at q2
    simp at q2
theorem own_low {W : World} {B B' n : Nat} {e : TypeId} {v : Value} {ns : List Value} (h : W.ownsRow B e 2 v n ns) (hb : B' ≤ B) : W.ownsRow B' e 2 v n ns := by
  refine ⟨h.1, ?_⟩
  rcases h.2 with h2 | ⟨g, cap, cur, e1, e2, e3⟩
  · exact Or.inl h2
  · exact Or.inr ⟨g, cap, cur, e1, Nat.le_trans hb e2, e3⟩
section
variable {w : World} {g : Nat} {X : Al.A} {v v' : Value} {l : List (Int × Int)} {W W' : World}
theorem LcS.below (h : LcS w g X v l W) (hb : Below W.heap.size W W') : LcS w g X v l W' := ⟨nrow_below h.row hb, own_far h.l (fun g _ hg => hb.block g hg), h.old.trans (hb.mono h.old.size)⟩
theorem LcS.push {x : Int × Int} (h : LcS w g X v l W) (hown : W'.ownsRow w.heap.size 31 2 v' (l ++ [x]).length (nvs (l ++ [x]))) (hg : W.grownBy W' v.ownBlock) : LcS w g X v' (l ++ [x]) W' :=
  ⟨h.row.of_block (hg.block _ h.row.lt (fun e => own_neA h.l h.row e.symm rfl)), hown, h.old.grown hg h.old.size (fun k e => (World.ownsRow.lt h.l k e).1)⟩
theorem LcS.start (hr : W.rowIs g 24 6 (rowN (alL X))) (hb : Below w.heap.size w W) : LcS w g X (.slice (some ⟨W.heap.size, 0, none⟩) 0 0) [] (W.alloc (.cells #[] 31)) :=
  ⟨nrow_below hr (nbel_alloc _ _), own_low (World.ownsRow_made (e := 31) (size := 2) W #[] 0 (Nat.le_refl _) (Nat.zero_le _) rfl) hb.size, hb.alloc hb.size _⟩
end
theorem own_at {B : Nat} {v : Value} {l : List (Int × Int)} {W : World} (h : W.ownsRow B 31 2 v l.length (nvs l)) : ∃ a c, v = .slice a l.length c ∧ IsAt a (l.length * 2) (Ln.fl l) W := by
  obtain ⟨a, c, e, _, h2⟩ := own_ns h
  refine ⟨a, c, e, ?_⟩
  rcases h2 with ⟨_, h3, _⟩ | ⟨g, rfl, _, h4, F, h5, h6⟩
  · exact Or.inl (by omega)
  · exact Or.inr ⟨g, rfl, fun j hj => by rw [h5.cell (i := j) (by omega), h6 j hj]⟩
/-- All acts of a list are values within bounds. -/
def AllV (l : List (Int × Int)) (p q : Int) : Prop := ∀ x ∈ l, x.1 = 1 ∧ p ≤ x.2 ∧ x.2 ≤ q
theorem AllV.nil (p q : Int) : AllV [] p q := fun x h => by cases h
theorem AllV.push {l : List (Int × Int)} {p q y : Int} (h : AllV l p q) (h1 : p ≤ y) (h2 : y ≤ q) : AllV (l ++ [(1, y)]) p q := fun x hx => by
  rcases List.mem_append.1 hx with hx | hx
  · exact h x hx
  · obtain rfl := List.mem_singleton.1 hx
    exact ⟨rfl, h1, h2⟩
theorem AllV.at {l : List (Int × Int)} {p q : Int} (h : AllV l p q) {i : Nat} (hi : i < l.length) : Ln.fl l (i * 2) = 1 ∧ p ≤ Ln.fl l (i * 2 + 1) ∧ Ln.fl l (i * 2 + 1) ≤ q := by
  have e : l.getD i (0, 0) ∈ l := by rw [List.getD_eq_getElem?_getD, List.getElem?_eq_getElem hi]; exact List.getElem_mem hi
  have := h _ e
  rw [Ln.fl_even, Ln.fl_odd]
  exact this
theorem AllV.ok {X : Al.A} {l : List (Int × Int)} {p q : Int} (h : AllV l p q) (hr : Al.Right X) (h1 : -1000000 ≤ p) (h2 : q ≤ 1000000) : Al.RunOk X (Ln.fl l) l.length := ⟨hr, fun i hi => by
  have := h.at hi
  exact ⟨by omega, by omega, by omega⟩⟩
theorem ao_alarm (a : Al.A) (l : Option Addr) (n c : Nat) (x : Int) (w : World) : (Instr.field 34 (aoV a l n c x) 0).run Tryd.prog w = .ok (alV a) w := by kernel_rfl
theorem ao_state (a : Al.A) (w : World) : (Instr.field 24 (alV a) 3).run Tryd.prog w = .ok (.int .i64 a.st) w := by kernel_rfl
set_option maxRecDepth 100000 in
set_option maxHeartbeats 16000000 in
theorem alarmCalm_law (w : World) (a : Option Addr) (len cap : Nat) (h : Bytes a len w) (hl : len ≤ 9223372036854775807) (a2 : Option Addr) (len2 cap2 : Nat) (h2 : Bytes a2 len2 w) (hl2 : len2 ≤ 9223372036854775807) (hg : Et w) :
    Calls Tryd.prog 3 #[.slice a len cap, .slice a2 len2 cap2] w fun e w' => e = .returned (.bool true) ∧ Below w.heap.size w w' := by
  have H := Lib.hid h
  have H2 := Lib.hid h2
  have HG := Lib.hid hg
  clear h h2 hg
  by_cases hb1 : (1048576 : Int) < (len : Int)
  · go_enter Tryd.func3, Tryd.ntmps3
    go_wp2_with fail
    go_ret
    exact ⟨rfl, Below.refl _ _⟩
  by_cases hb2 : (1048576 : Int) < (len2 : Int)
  · go_enter Tryd.func3, Tryd.ntmps3
    go_wp2_with fail
    go_ret
    exact ⟨rfl, Below.refl _ _⟩
  have HL2 : Hid (len2 ≤ 4194304) := by show len2 ≤ 4194304; omega
  go_enter Tryd.func3, Tryd.ntmps3
  go_wp2_with fail
  refine (drawAR_any a len cap _ H.out (by omega)).mono ?_
  rintro e w1 ⟨⟨X, bq, nq, cq, rfl⟩, hb⟩
  have HB1 := Lib.hid hb
  clear hb hb1 hb2 H
  obtain ⟨W, hW⟩ : ∃ W, W = w1.alloc (.cells #[.int .i64 X.hi, .int .i64 X.lo, .int .i64 X.dl, .int .i64 X.st, .int .i64 X.ct, .int .i64 X.sh] 24) := ⟨_, rfl⟩
  obtain ⟨g, hgg⟩ : ∃ g, g = w1.heap.size := ⟨_, rfl⟩
  have HR : Hid (W.rowIs g 24 6 (rowN (alL X))) := by show World.rowIs _ _ _ _ _; rw [hW, hgg]; exact rowN_alloc w1 (alL X) _
  have HB : Hid (Below w.heap.size w W) := by show Below _ _ _; rw [hW]; exact HB1.out.alloc HB1.out.size _
  have HW := Lib.hid hW
  have HGG := Lib.hid hgg
  clear hW hgg HB1
  go_wp2_with fail
  rw [← HGG.out, ← HW.out]
  clear HW HGG
  refine (sRight_any X _).mono ?_
  rintro e w2 ⟨rfl, hb⟩
  have HR2 := Lib.hid (nrow_below HR.out hb)
  have HB2 : Hid (Below w.heap.size w w2) := HB.out.trans (hb.mono HB.out.size)
  clear hb HR HB
  by_cases c : Al.Right X
  case neg =>
    rw [decide_eq_false c]
    clear c
    go_wp2_with fail
    go_ret
    exact ⟨rfl, HB2.out⟩
  rw [decide_eq_true c]
  have HC := Lib.hid c
  obtain ⟨i0, hi0, hz0, hz1, hz2⟩ := info_parts dainfo
  have bl : -1000000 ≤ X.lo ∧ X.lo ≤ 1000000 := c.2.1
  have bh : -1000000 ≤ X.hi ∧ X.hi ≤ 1000000 := c.2.2.1
  have blh : X.lo ≤ X.hi := c.1
  have bd : 0 ≤ X.dl ∧ X.dl ≤ 100 := c.2.2.2.1
  obtain ⟨M, hM⟩ : ∃ M, M = X.hi - X.lo + 1 := ⟨_, rfl⟩
  have HM : Hid (M = X.hi - X.lo + 1) := hM
  have hM1 : 1 ≤ M ∧ M ≤ 2000001 := by omega
  have r1 : IntKind.i64.wrap (X.hi - X.lo) = X.hi - X.lo := awrap_id (by omega) (by omega)
  have r2 : IntKind.i64.wrap (X.hi - X.lo + 1) = M := by rw [hM]; exact awrap_id (by omega) (by omega)
  have r3 : ¬ M = 0 := by omega
  have r3b : (M == 0) = false := by simp; omega
  clear c hM
  have HS0 : Hid (LcS w g X (.slice (some ⟨w2.heap.size, 0, none⟩) 0 0) [] (w2.alloc (.cells #[] 31))) := LcS.start HR2.out HB2.out
  go_wp2_with fail
  clear HR2 HB2
  go_loopw [7, 8] (fun lv iv wr => ∃ (i : Nat) (l : List (Int × Int)), i ≤ 12 ∧ iv = .int .i64 i ∧ Hid (LcS w g X lv l wr) ∧ Hid (l.length = i) ∧ Hid (AllV l X.lo X.hi)) (fun _ iv _ => 12 - (intOf iv).toNat)
  case atStart => exact ⟨0, [], Nat.zero_le _, rfl, HS0, rfl, AllV.nil _ _⟩
  case round =>
    obtain ⟨i, l, hi, rfl, hS, hL, hV⟩ := hrel
    clear HS0
    obtain ⟨la, lc, e, hat⟩ := own_at hS.out.l
    subst e
    by_cases hlt : i < 12
    · have hltz : (i : Int) < 12 := by omega
      obtain ⟨N, hN⟩ : ∃ N, N = l.length := ⟨_, rfl⟩
      have HN := Lib.hid hN
      rw [← hN] at hS ⊢
      have HLN : Hid (l.length ≤ 12) := by show l.length ≤ 12; rw [hL.out]; omega
      clear hN hat
      go_wp2_with fail
      refine wp_region_held_drew (S := fun Y => Y.rowIs g 24 6 (rowN (alL X))) (by kernel_rfl) (hS.out.row.of_block rfl) (fun hHeld => ?_)
      obtain ⟨Z, hZ⟩ : ∃ Z, Z = wr.drew := ⟨_, rfl⟩
      have SZ : Hid (LcS w g X (.slice la N lc) l Z) := by show LcS _ _ _ _ _ _; rw [hZ]; exact hS.out.below (Below.refl _ _).drew
      rw [← hZ] at hHeld ⊢
      clear hZ hS
      refine take_do (i := 0) (v := (.slice la N lc)) rfl (by kernel_rfl) (by kernel_rfl) (by kernel_rfl) (fun _ _ _ h => h) (by rfl) ?_ (by assumption) ?_
      · intro w hSw
        go_simp
      simp only [Act.put, List.setIfInBounds_toArray, List.set_cons_zero, List.set_cons_succ]
      refine take_do (i := 1) (v := (.pointer (some ⟨g, 1, none⟩))) rfl (by kernel_rfl) (by kernel_rfl) (by kernel_rfl) (fun _ _ _ h => h) (by rfl) ?_ (by assumption) ?_
      · intro w hSw
        go_simp
      simp only [Act.put, List.setIfInBounds_toArray, List.set_cons_zero, List.set_cons_succ]
      refine take_do (i := 2) (v := (.int .i64 X.lo)) rfl (by kernel_rfl) (by kernel_rfl) (by kernel_rfl) (fun _ _ _ h => h) (by rfl) ?_ (by assumption) ?_
      · intro w hSw
        obtain ⟨⟨x0, x1, x2, x3, x4, x5⟩, _⟩ := rowN6 hSw
        go_simp
      simp only [Act.put, List.setIfInBounds_toArray, List.set_cons_zero, List.set_cons_succ]
      refine take_do (i := 3) (v := (.slice a2 len2 cap2)) rfl (by kernel_rfl) (by kernel_rfl) (by kernel_rfl) (fun _ _ _ h => h) (by rfl) ?_ (by assumption) ?_
      · intro w hSw
        go_simp
      simp only [Act.put, List.setIfInBounds_toArray, List.set_cons_zero, List.set_cons_succ]
      refine take_do (i := 4) (v := (.int .i64 i)) rfl (by kernel_rfl) (by kernel_rfl) (by kernel_rfl) (fun _ _ _ h => h) (by rfl) ?_ (by assumption) ?_
      · intro w hSw
        go_simp
      simp only [Act.put, List.setIfInBounds_toArray, List.set_cons_zero, List.set_cons_succ]
      refine take_do (i := 6) (v := (.pointer (some ⟨g, 0, none⟩))) rfl (by kernel_rfl) (by kernel_rfl) (by kernel_rfl) (fun _ _ _ h => h) (by rfl) ?_ (by assumption) ?_
      · intro w hSw
        go_simp
      simp only [Act.put, List.setIfInBounds_toArray, List.set_cons_zero, List.set_cons_succ]
      refine take_do (i := 7) (v := (.int .i64 X.hi)) rfl (by kernel_rfl) (by kernel_rfl) (by kernel_rfl) (fun _ _ _ h => h) (by rfl) ?_ (by assumption) ?_
      · intro w hSw
        obtain ⟨⟨x0, x1, x2, x3, x4, x5⟩, _⟩ := rowN6 hSw
        go_simp
      simp only [Act.put, List.setIfInBounds_toArray, List.set_cons_zero, List.set_cons_succ]
      refine take_do (i := 8) (v := (.pointer (some ⟨g, 1, none⟩))) rfl (by kernel_rfl) (by kernel_rfl) (by kernel_rfl) (fun _ _ _ h => h) (by rfl) ?_ (by assumption) ?_
      · intro w hSw
        go_simp
      simp only [Act.put, List.setIfInBounds_toArray, List.set_cons_zero, List.set_cons_succ]
      refine take_do (i := 9) (v := (.int .i64 X.lo)) rfl (by kernel_rfl) (by kernel_rfl) (by kernel_rfl) (fun _ _ _ h => h) (by rfl) ?_ (by assumption) ?_
      · intro w hSw
        obtain ⟨⟨x0, x1, x2, x3, x4, x5⟩, _⟩ := rowN6 hSw
        go_simp
      simp only [Act.put, List.setIfInBounds_toArray, List.set_cons_zero, List.set_cons_succ]
      refine take_do (i := 10) (v := (.int .i64 (X.hi - X.lo))) rfl (by kernel_rfl) (by kernel_rfl) (by kernel_rfl) (fun _ _ _ h => h) (by rfl) ?_ (by assumption) ?_
      · intro w hSw
        go_simp
      simp only [Act.put, List.setIfInBounds_toArray, List.set_cons_zero, List.set_cons_succ]
      refine take_do (i := 11) (v := (.int .i64 M)) rfl (by kernel_rfl) (by kernel_rfl) (by kernel_rfl) (fun _ _ _ h => h) (by rfl) ?_ (by assumption) ?_
      · intro w hSw
        go_simp
      simp only [Act.put, List.setIfInBounds_toArray, List.set_cons_zero, List.set_cons_succ]
      refine take_call (i := 5) rfl (by kernel_rfl) (fun K2 hK => ?_)
      go_simp
      refine (lwAt_any a2 len2 cap2 i 256 _ (H2.out.below SZ.out.old) HL2.out (by omega) (by omega) (by omega)).mono ?_
      rintro e Z2 ⟨⟨v, rfl, v0, v1, _⟩, hw⟩
      rw [hw]
      clear hw Z2
      obtain ⟨r, hr⟩ : ∃ r, v % M = r := ⟨_, rfl⟩
      have hr0 : 0 ≤ r ∧ r < M := by rw [← hr]; exact ⟨Int.emod_nonneg _ (by omega), Int.emod_lt_of_pos _ (by omega)⟩
      have hrt : v.tmod M = r := by rw [Int.tmod_eq_emod_of_nonneg v0]; exact hr
      have r4 : IntKind.i64.wrap r = r := awrap_id (by omega) (by omega)
      obtain ⟨y, hy⟩ : ∃ y, y = X.lo + r := ⟨_, rfl⟩
      have HY : Hid (X.lo ≤ y ∧ y ≤ X.hi) := by have := HM.out; show _ ∧ _; omega
      have r5 : IntKind.i64.wrap (X.lo + r) = y := by rw [hy]; exact awrap_id (by omega) (by omega)
      clear hy hr
      go_wp2_with fail
      refine hK.out _ _ hHeld (fun hHeld2 => ?_)
      clear hK hHeld
      have hHeld := hHeld2
      clear hHeld2
      refine take_do (i := 12) (v := (.int .i64 r)) rfl (by kernel_rfl) (by kernel_rfl) (by kernel_rfl) (fun _ _ _ h => h) (by rfl) ?_ (by assumption) ?_
      · intro w hSw
        go_simp
      simp only [Act.put, List.setIfInBounds_toArray, List.set_cons_zero, List.set_cons_succ]
      refine take_do (i := 13) (v := (.int .i64 y)) rfl (by kernel_rfl) (by kernel_rfl) (by kernel_rfl) (fun _ _ _ h => h) (by rfl) ?_ (by assumption) ?_
      · intro w hSw
        go_simp
      simp only [Act.put, List.setIfInBounds_toArray, List.set_cons_zero, List.set_cons_succ]
      refine take_do (i := 14) (v := (.agg #[.int .i64 1, .int .i64 y])) rfl (by kernel_rfl) (by kernel_rfl) (by kernel_rfl) (fun _ _ _ h => h) (by rfl) ?_ (by assumption) ?_
      · intro w hSw
        go_simp
      simp only [Act.put, List.setIfInBounds_toArray, List.set_cons_zero, List.set_cons_succ]
      refine take_call (i := 15) rfl (by kernel_rfl) (fun K2 hK => ?_)
      obtain ⟨Z1, hZ1⟩ : ∃ Z1, Z1 = Z.alloc (.cells #[.int .i64 1, .int .i64 y] 31) := ⟨_, rfl⟩
      have hb : Below Z.heap.size Z Z1 := by rw [hZ1]; exact nbel_alloc _ _
      obtain ⟨gx, hgx⟩ : ∃ gx, gx = Z.heap.size := ⟨_, rfl⟩
      have HM1 : Hid (IsIn (some ⟨gx, 0, none⟩) (([((1 : Int), y)] : List Ln.Nt).length * 2) (Ln.fl [((1 : Int), y)]) Z1) := by show IsIn _ _ _ _; rw [hZ1, hgx]; exact one_in Z 31 1 y
      have SZ1 := Lib.hid (SZ.out.below hb)
      go_simp
      rw [← hZ1, ← hgx]
      refine hK.out _ _ (nrow_below hHeld hb) (fun hHeld2 => ?_)
      clear hK hHeld hb hZ1 hgx SZ
      have hHeld := hHeld2
      clear hHeld2
      refine take_call (i := 16) rfl (by kernel_rfl) (fun K2 hK => ?_)
      refine step_append_ns rfl (.tmp 33) (.tmp 48) 25 rfl 31 i0 (.agg #[.int .i64 0, .int .i64 0]) 16 Tryd.underlying25 hi0 hz0 hz1 hz2 rfl w.heap.size (.slice la N lc) l [((1 : Int), y)] rfl SZ1.out.l (some ⟨gx, 0, none⟩) 1 rfl HM1.out (by have := HLN.out; unfold maxLen; simp; omega) (by have := HLN.out; simp; omega) SZ1.out.old.size ?_
      intro v6 Z2 hown hgrow
      have hS2 := SZ1.out.push hown hgrow
      refine hK.out _ _ hS2.row (fun hHeld2 => ?_)
      have HS2 := Lib.hid hS2
      clear hK hHeld hown hgrow SZ1 HM1 hS2
      have hHeld := hHeld2
      clear hHeld2
      simp only [Act.put, List.setIfInBounds_toArray, List.set_cons_zero, List.set_cons_succ]
      refine take_do (i := 17) (v := v6) rfl (by kernel_rfl) (by kernel_rfl) (by kernel_rfl) (fun _ _ _ h => h) (by rfl) ?_ (by assumption) ?_
      · intro w hSw
        go_simp
      simp only [Act.put, List.setIfInBounds_toArray, List.set_cons_zero, List.set_cons_succ]
      refine wpAnyH_done (by kernel_rfl) ?_ _
      clear hHeld
      obtain ⟨la6, lc6, e6, _⟩ := own_at HS2.out.l
      obtain ⟨N6, hN6⟩ : ∃ N, N = (l ++ [((1 : Int), y)]).length := ⟨_, rfl⟩
      rw [← hN6] at e6
      have HN6 := Lib.hid hN6
      subst e6
      clear hN6
      go_wp2_with fail
      go_roundw
      case rel => exact ⟨i + 1, l ++ [((1 : Int), y)], by omega, by go_num, HS2, by show _ = _; simp [hL.out], hV.out.push HY.out.1 HY.out.2⟩
      case measure => simp [intOf]; omega
    · obtain rfl : i = 12 := by omega
      obtain ⟨N, hN⟩ : ∃ N, N = l.length := ⟨_, rfl⟩
      have hN12 : N = 12 := by rw [hN]; exact hL.out
      have HOK : Hid (Al.RunOk X (Ln.fl l) N) := by show Al.RunOk _ _ _; rw [hN]; exact hV.out.ok HC.out bl.1 bh.2
      have HCA : Hid (((Al.run X (Ln.fl l) N).st = X.st ∧ (Al.run X (Ln.fl l) N).hi = X.hi ∧ (Al.run X (Ln.fl l) N).lo = X.lo) ∧ Al.rings X (Ln.fl l) N = []) := Al.run_calm (n := N) (fun i hi => (hV.out.at (by omega)).1) (fun i hi => (hV.out.at (by omega)).2) N (Nat.le_refl _)
      rw [← hN] at hS hat ⊢
      have HAT := Lib.hid hat
      have HN12 := Lib.hid hN12
      clear hat hN hN12 hlt
      obtain ⟨⟨x0, x1, x2, x3, x4, x5⟩, _⟩ := rowN6 hS.out.row
      go_wp2_with fail
      clear x0 x1 x2 x3 x4 x5
      refine (implARun_any X la N lc (Ln.fl l) _ HAT.out (by have := HN12.out; omega) (HG.out.below hS.out.old)).mono ?_
      rintro e w3 ⟨hE, hb⟩
      rcases hE with ⟨hno, _⟩ | ⟨_, a3, c3, rfl, _⟩
      · exact absurd ⟨by have := HN12.out; omega, HOK.out⟩ hno
      have HR3 := Lib.hid (nrow_below hS.out.row hb)
      have HB3 : Hid (Below w.heap.size w w3) := hS.out.old.trans (hb.mono hS.out.old.size)
      obtain ⟨Y, hY⟩ : ∃ Y, Y = Al.run X (Ln.fl l) N := ⟨_, rfl⟩
      obtain ⟨K, hK⟩ : ∃ K, K = (Al.rings X (Ln.fl l) N).length := ⟨_, rfl⟩
      have hK0 : K = 0 := by rw [hK, HCA.out.2]; rfl
      have hYs : (Y.st != X.st) = false := by rw [hY, HCA.out.1.1]; simp
      rw [← hY, ← hK]
      subst hK0
      clear hb hS HAT HN12 HCA HOK hY hK
      obtain ⟨W4, hW4⟩ : ∃ W4, W4 = w3.alloc (.cells #[.int .i64 Y.hi, .int .i64 Y.lo, .int .i64 Y.dl, .int .i64 Y.st, .int .i64 Y.ct, .int .i64 Y.sh, .slice a3 0 c3, .int .i64 0] 34) := ⟨_, rfl⟩
      have HR4 : Hid (W4.rowIs g 24 6 (rowN (alL X))) := by show World.rowIs _ _ _ _ _; rw [hW4]; exact nrow_below HR3.out (nbel_alloc _ _)
      have HB4 : Hid (Below w.heap.size w W4) := by show Below _ _ _; rw [hW4]; exact HB3.out.alloc HB3.out.size _
      obtain ⟨⟨x0, x1, x2, x3, x4, x5⟩, _⟩ := rowN6 HR3.out
      have hgl := HR3.out.lt
      by_cases s1 : X.st = 1
      case neg =>
        have d1 : (X.st != 1) = true := by simp [s1]
        have HBB : Hid (Below w.heap.size w (w3.alloc (.cells #[.int .i64 Y.hi, .int .i64 Y.lo, .int .i64 Y.dl, .int .i64 Y.st, .int .i64 Y.ct, .int .i64 Y.sh, .slice a3 0 c3, .int .i64 0] 34))) := by rw [← hW4]; exact HB4
        clear s1 hW4
        go_wp2_with fail
        go_ret
        exact ⟨rfl, HBB.out⟩
      have d1 : (X.st != 1) = false := by simp [s1]
      by_cases s2 : X.sh = 0
      case neg =>
        have d2 : (X.sh != 0) = true := by simp [s2]
        have HBB : Hid (Below w.heap.size w (w3.alloc (.cells #[.int .i64 Y.hi, .int .i64 Y.lo, .int .i64 Y.dl, .int .i64 Y.st, .int .i64 Y.ct, .int .i64 Y.sh, .slice a3 0 c3, .int .i64 0] 34))) := by rw [← hW4]; exact HB4
        clear s1 s2 hW4
        go_wp2_with fail
        go_ret
        exact ⟨rfl, HBB.out⟩
      have d2 : (X.sh != 0) = false := by simp [s2]
      by_cases s3 : X.hi = 1000000
      · have d3 : (X.hi == 1000000) = true := by simp [s3]
        have HBB : Hid (Below w.heap.size w (w3.alloc (.cells #[.int .i64 Y.hi, .int .i64 Y.lo, .int .i64 Y.dl, .int .i64 Y.st, .int .i64 Y.ct, .int .i64 Y.sh, .slice a3 0 c3, .int .i64 0] 34))) := by rw [← hW4]; exact HB4
        clear s1 s2 s3 hW4
        go_wp2_with fail
        go_ret
        exact ⟨rfl, HBB.out⟩
      have d3 : (X.hi == 1000000) = false := by simpa using s3
      have HX : Hid (X.st = 1 ∧ X.sh = 0 ∧ X.hi < 1000000) := ⟨s1, s2, by omega⟩
      have HS0 : Hid (LcS w g X (.slice (some ⟨W4.heap.size, 0, none⟩) 0 0) [] (W4.alloc (.cells #[] 31))) := LcS.start HR4.out HB4.out
      have HW4 := Lib.hid hW4
      have hw4s : W4.heap.size = w3.heap.size + 1 := by rw [hW4]; simp
      rw [hw4s] at HS0
      clear s1 s2 s3 hW4 hw4s
      obtain ⟨D, hD⟩ : ∃ D : Nat, X.dl = (D : Int) := ⟨X.dl.toNat, by omega⟩
      have HD := Lib.hid hD
      clear hD
      go_wp2_with fail
      rw [← HW4.out]
      clear x0 x1 x2 x3 x4 x5 hgl HR3 HB3 HR4 HB4 HW4
      go_loopw [10, 11] (fun lv iv wr => ∃ (i : Nat) (l : List (Int × Int)), i ≤ D + 1 ∧ iv = .int .i64 i ∧ Hid (LcS w g X lv l wr) ∧ Hid (l.length = i) ∧ Hid (AllV l (X.hi + 1) (X.hi + 1))) (fun _ iv _ => D + 1 - (intOf iv).toNat)
      case atStart => exact ⟨0, [], Nat.zero_le _, rfl, HS0, rfl, AllV.nil _ _⟩
      case round =>
        obtain ⟨i, l, hi, rfl, hS, hL, hV⟩ := hrel
        clear HS0
        obtain ⟨la, lc, e, hat⟩ := own_at hS.out.l
        subst e
        obtain ⟨⟨x0, x1, x2, x3, x4, x5⟩, _⟩ := rowN6 hS.out.row
        have hgl := hS.out.row.lt
        have hdd := HD.out
        by_cases hlt : i < D + 1
        · have hltz : (i : Int) ≤ X.dl := by omega
          have hwr : IntKind.i64.wrap (X.hi + 1) = X.hi + 1 := awrap_id (by omega) (by omega)
          have HLN : Hid (l.length ≤ 101) := by show l.length ≤ 101; rw [hL.out]; omega
          have SZ1 := Lib.hid (hS.out.below (nbel_alloc wr (.cells #[.int .i64 1, .int .i64 (X.hi + 1)] 31)))
          have HM1 := Lib.hid (one_in wr 31 1 (X.hi + 1))
          clear hat hdd
          go_wp2_with (at_builtin; refine wpList_append_ns (l := l) (m := [((1 : Int), X.hi + 1)]) rfl _ _ 25 rfl 31 i0 (.agg #[.int .i64 0, .int .i64 0]) 16 Tryd.underlying25 hi0 hz0 hz1 hz2 rfl w.heap.size _ rfl SZ1.out.l (some ⟨wr.heap.size, 0, none⟩) 1 rfl HM1.out (by have := HLN.out; unfold maxLen; simp; omega) (by have := HLN.out; simp; omega) SZ1.out.old.size ?_)
          intro v6 Z2 hown hgrow
          have hown2 : Z2.ownsRow w.heap.size 31 2 v6 (l ++ [((1 : Int), X.hi + 1)]).length (nvs (l ++ [((1 : Int), X.hi + 1)])) := by simpa using hown
          have HS2 := Lib.hid (SZ1.out.push hown2 hgrow)
          obtain ⟨la6, lc6, e6, _⟩ := own_at HS2.out.l
          obtain ⟨N6, hN6⟩ : ∃ N, N = (l ++ [((1 : Int), X.hi + 1)]).length := ⟨_, rfl⟩
          rw [← hN6] at e6
          have HN6 := Lib.hid hN6
          subst e6
          clear hown hown2 hgrow SZ1 HM1 hS x0 x1 x2 x3 x4 x5 hgl hN6
          go_wp2_with fail
          go_roundw
          case rel => exact ⟨i + 1, l ++ [((1 : Int), X.hi + 1)], by omega, by go_num, HS2, by show _ = _; simp [hL.out], hV.out.push (Int.le_refl _) (Int.le_refl _)⟩
          case measure => simp [intOf]; omega
        · have hiD : i = D + 1 := by omega
          have hltz : ¬ (i : Int) ≤ X.dl := by omega
          obtain ⟨N, hN⟩ : ∃ N, N = l.length := ⟨_, rfl⟩
          have hN2 : N = D + 1 := by rw [hN, hL.out]; exact hiD
          have HOK : Hid (Al.RunOk X (Ln.fl l) N) := by show Al.RunOk _ _ _; rw [hN]; exact hV.out.ok HC.out (by omega) (by have := HX.out.2.2; omega)
          have HRS : Hid ((Al.run X (Ln.fl l) N).st = 2) := Al.loud_raised (n := N) HC.out HX.out.1 HX.out.2.1 (fun i hi => (hV.out.at (by omega)).1) (fun i hi => by have := (hV.out.at (show i < l.length by omega)).2; omega) (by omega)
          rw [← hN] at hS hat ⊢
          have HAT := Lib.hid hat
          have HNN : Hid (N ≤ 101) := by show N ≤ 101; omega
          clear hat hN hN2 hlt hiD hdd
          go_wp2_with fail
          clear x0 x1 x2 x3 x4 x5 hgl
          refine (implARun_any X la N lc (Ln.fl l) _ HAT.out (by have := HNN.out; omega) (HG.out.below hS.out.old)).mono ?_
          rintro e w5 ⟨hE, hb⟩
          rcases hE with ⟨hno, _⟩ | ⟨_, a5, c5, rfl, _⟩
          · exact absurd ⟨by have := HNN.out; omega, HOK.out⟩ hno
          have HB5 : Hid (Below w.heap.size w w5) := hS.out.old.trans (hb.mono hS.out.old.size)
          obtain ⟨Y, hY⟩ : ∃ Y, Y = Al.run X (Ln.fl l) N := ⟨_, rfl⟩
          obtain ⟨K, hK⟩ : ∃ K, K = (Al.rings X (Ln.fl l) N).length := ⟨_, rfl⟩
          have hYs : (Y.st == 2) = true := by rw [hY, HRS.out]; rfl
          rw [← hY, ← hK]
          have e1 := ao_alarm Y a5 K c5 0
          have e2 := ao_state Y
          clear hb hS HAT HNN HRS HOK hY hK
          go_wp2_with fail
          go_ret
          exact ⟨rfl, HB5.out⟩
end Go.Proofs.YtnfdamkjkclnmaaDoor
