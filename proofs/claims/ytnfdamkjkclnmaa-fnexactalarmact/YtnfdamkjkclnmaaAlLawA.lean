/-
  The law FnExactAlarmAct.
-/
import Derived.Test.YtnfdamkjkclnmaaAlEx2
import Derived.Test.YtnfdamkjkclnmaaAlI2
import Derived.Test.YtnfdamkjkclnmaaAlS1
import Derived.Test.YtnfdamkjkclnmaaReg
import Derived.Deep.DeepCutAuto
namespace Go.Proofs.Ytnfdamkjkclnmaa
open Go.RowKit Go.Deep

/-- What stands in the law. -/
structure LaS (w : World) (a : Al.A) (k v : Int) (W : World) : Prop where
  a : W.rowIs w.heap.size 23 6 (rowN (alL a))
  k : W.rowIs (w.heap.size + 1) 29 2 (rowN [.int .i64 k, .int .i64 v])
  b : Below w.heap.size w W
theorem LaS.below {w W W' : World} {a : Al.A} {k v : Int} (h : LaS w a k v W) (hb : Below W.heap.size W W') : LaS w a k v W' := ⟨nrow_below h.a hb, nrow_below h.k hb, h.b.trans (hb.mono h.b.size)⟩
set_option maxRecDepth 100000 in
set_option maxHeartbeats 4000000 in
theorem alarmAct_law (w : World) (a : Al.A) (k v : Int) :
    Calls Try.prog 4 #[alV a, .agg #[.int .i64 k, .int .i64 v]] w fun e w' => e = .returned (.bool true) ∧ Below w.heap.size w w' := by
  obtain ⟨W, hW⟩ : ∃ W, W = (w.alloc (.cells #[.int .i64 a.hi, .int .i64 a.lo, .int .i64 a.dl, .int .i64 a.st, .int .i64 a.ct, .int .i64 a.sh] 23)).alloc (.cells #[.int .i64 k, .int .i64 v] 29) := ⟨_, rfl⟩
  have S0 : Hid (LaS w a k v W) := by
    show LaS _ _ _ _ _
    rw [hW]
    exact ⟨nrow_below (rowN_alloc w (alL a) _) (nbel_alloc _ _), rowN_alloc' (by simp) [.int .i64 k, .int .i64 v] _, (nbel_alloc _ _).alloc (by simp) _⟩
  have HW := Lib.hid hW
  clear hW
  go_enter Try.func4, Try.ntmps4
  go_wp2_with fail
  rw [← HW.out]
  clear HW
  obtain ⟨X, hX⟩ : ∃ X, X = Al.act a k v := ⟨_, rfl⟩
  have HX := Lib.hid hX
  clear hX
  go_cut [5] (fun q Wq => ∃ xb , q = .pointer (some ⟨xb, 0, none⟩) ∧ Hid (Below W.heap.size W Wq ∧ Wq.rowIs xb 25 6 (rowN (alL X)) ∧ W.heap.size ≤ xb))
  case first =>
    refine wp_region_held_drew (S := fun V => Below W.heap.size W V) (by kernel_rfl) (Below.refl _ _).drew (fun hHeld => ?_)
    obtain ⟨Z, hZ⟩ : ∃ Z, Z = W.drew := ⟨_, rfl⟩
    rw [← hZ] at hHeld ⊢
    clear hZ
    refine take_do (i := 0) (v := (alV a)) rfl (by kernel_rfl) (by kernel_rfl) (by kernel_rfl) (fun _ _ _ h => h) (by rfl) ?_ (by assumption) ?_
    · intro w hSw
      obtain ⟨⟨a0, a1, a2, a3, a4, a5⟩, _⟩ := rowN6 (nrow_below S0.out.a hSw)
      obtain ⟨⟨b0, b1⟩, _⟩ := rowN2 (nrow_below S0.out.k hSw)
      go_simp
    simp only [Act.put, List.setIfInBounds_toArray, List.set_cons_zero, List.set_cons_succ]
    refine take_do (i := 2) (v := (.agg #[.int .i64 k, .int .i64 v])) rfl (by kernel_rfl) (by kernel_rfl) (by kernel_rfl) (fun _ _ _ h => h) (by rfl) ?_ (by assumption) ?_
    · intro w hSw
      obtain ⟨⟨a0, a1, a2, a3, a4, a5⟩, _⟩ := rowN6 (nrow_below S0.out.a hSw)
      obtain ⟨⟨b0, b1⟩, _⟩ := rowN2 (nrow_below S0.out.k hSw)
      go_simp
    simp only [Act.put, List.setIfInBounds_toArray, List.set_cons_zero, List.set_cons_succ]
    refine wpAnyH_ready (rs := [1, 5]) (by kernel_rfl) (by simp) (AllReadyH.cons (at_drop (i := 1) rfl) (fun K2 hK => ?_) (AllReadyH.cons (at_drop (i := 5) rfl) (fun K2 hK => ?_) (AllReadyH.nil)))
    · go_simp
      refine (toAlarm_any a _).mono ?_
      rintro e Z1 ⟨rfl, hb⟩
      go_wp2_with fail
      refine hK.out _ _ (hHeld.trans (hb.mono hHeld.size)) (fun hHeld2 => ?_)
      clear hK hHeld hb
      have hHeld := hHeld2
      clear hHeld2
      refine wpAnyH_ready (rs := [3, 5]) (by kernel_rfl) (by simp) (AllReadyH.cons (at_drop (i := 3) rfl) (fun K2 hK => ?_) (AllReadyH.cons (at_drop (i := 5) rfl) (fun K2 hK => ?_) (AllReadyH.nil)))
      · go_simp
        refine (toAct_any k v _).mono ?_
        rintro e Z2 ⟨rfl, hb⟩
        go_wp2_with fail
        refine hK.out _ _ (hHeld.trans (hb.mono hHeld.size)) (fun hHeld2 => ?_)
        clear hK hHeld hb
        have hHeld := hHeld2
        clear hHeld2
        refine wpAnyH_ready (rs := [4, 5]) (by kernel_rfl) (by simp) (AllReadyH.cons (at_drop (i := 4) rfl) (fun K2 hK => ?_) (AllReadyH.cons (at_drop (i := 5) rfl) (fun K2 hK => ?_) (AllReadyH.nil)))
        · go_simp
          refine (specAct_any a k v _).mono ?_
          rintro e Z3 ⟨rfl, hb⟩
          rw [← HX.out]
          go_wp2_with fail
          refine hK.out _ _ (hHeld.trans (hb.mono hHeld.size)) (fun hHeld2 => ?_)
          clear hK hHeld hb
          have hHeld := hHeld2
          clear hHeld2
          refine wpAnyH_ready (rs := [5]) (by kernel_rfl) (by simp) (AllReadyH.cons (at_drop (i := 5) rfl) (fun K2 hK => ?_) (AllReadyH.nil))
          obtain ⟨Z4, hZ4⟩ : ∃ Z4, Z4 = Z3.alloc (.cells #[.int .i64 0, .int .i64 0, .int .i64 0, .int .i64 0, .int .i64 0, .int .i64 0] 25) := ⟨_, rfl⟩
          have hb : Below Z3.heap.size Z3 Z4 := by rw [hZ4]; exact nbel_alloc _ _
          have HV : Hid (Z4.rowIs Z3.heap.size 25 6 (rowN [.int .i64 0, .int .i64 0, .int .i64 0, .int .i64 0, .int .i64 0, .int .i64 0])) := by show World.rowIs _ _ _ _ _; rw [hZ4]; exact rowN_alloc _ _ _
          obtain ⟨xb, hxb⟩ : ∃ xb, xb = Z3.heap.size := ⟨_, rfl⟩
          rw [← hxb] at HV
          have HXL : Hid (W.heap.size ≤ xb) := by show _ ≤ _; rw [hxb]; exact hHeld.size
          go_simp
          rw [← hZ4, ← hxb]
          clear hZ4
          refine hK.out _ _ (hHeld.trans (hb.mono hHeld.size)) (fun hHeld2 => ?_)
          clear hK hHeld hxb hb
          have hHeld := hHeld2
          clear hHeld2
          have zr := al6put HV.out rfl (.int .i64 X.hi) (.int .i64 X.lo) (.int .i64 X.dl) (.int .i64 X.st) (.int .i64 X.ct) (.int .i64 X.sh)
          have zk := fun (k : Nat) (hk : k ≠ xb) => al6blk (W := Z4) hk (.int .i64 X.hi) (.int .i64 X.lo) (.int .i64 X.dl) (.int .i64 X.st) (.int .i64 X.ct) (.int .i64 X.sh)
          have zb := al6bel (g := xb) hHeld HXL.out (.int .i64 X.hi) (.int .i64 X.lo) (.int .i64 X.dl) (.int .i64 X.st) (.int .i64 X.ct) (.int .i64 X.sh)
          obtain ⟨⟨o0, o1, o2, o3, o4, o5⟩, z0, z1, z2, z3, z4, z5⟩ := rowN6 HV.out
          have hol := HV.out.lt
          refine take_call (i := 6) rfl (by kernel_rfl) (fun K2 hK => ?_)
          go_simp
          clear o0 o1 o2 o3 o4 o5 z0 z1 z2 z3 z4 z5
          generalize ((((((Z4).setCell ⟨xb, 0, none⟩ (.int .i64 X.hi)).setCell ⟨xb, 1, none⟩ (.int .i64 X.lo)).setCell ⟨xb, 2, none⟩ (.int .i64 X.dl)).setCell ⟨xb, 3, none⟩ (.int .i64 X.st)).setCell ⟨xb, 4, none⟩ (.int .i64 X.ct)).setCell ⟨xb, 5, none⟩ (.int .i64 X.sh) = Y at zr zk zb  ⊢
          refine hK.out _ _ zb (fun hHeld2 => ?_)
          clear hK hHeld hHeld2
          refine wpAnyH_done (by kernel_rfl) ?_ _
          have HPR : Hid (Below W.heap.size W Y ∧ Y.rowIs xb 25 6 (rowN (alL X)) ∧ W.heap.size ≤ xb) := ⟨zb, zr, HXL.out⟩
          clear zr zk zb
          go_wp2_with fail
          go_meet
          case rel => exact ⟨xb, rfl, HPR⟩
        · obtain ⟨Z3, hZ3⟩ : ∃ Z3, Z3 = Z2.alloc (.cells #[.int .i64 0, .int .i64 0, .int .i64 0, .int .i64 0, .int .i64 0, .int .i64 0] 25) := ⟨_, rfl⟩
          have hb : Below Z2.heap.size Z2 Z3 := by rw [hZ3]; exact nbel_alloc _ _
          have HV : Hid (Z3.rowIs Z2.heap.size 25 6 (rowN [.int .i64 0, .int .i64 0, .int .i64 0, .int .i64 0, .int .i64 0, .int .i64 0])) := by show World.rowIs _ _ _ _ _; rw [hZ3]; exact rowN_alloc _ _ _
          obtain ⟨xb, hxb⟩ : ∃ xb, xb = Z2.heap.size := ⟨_, rfl⟩
          rw [← hxb] at HV
          have HXL : Hid (W.heap.size ≤ xb) := by show _ ≤ _; rw [hxb]; exact hHeld.size
          go_simp
          rw [← hZ3, ← hxb]
          clear hZ3
          refine hK.out _ _ (hHeld.trans (hb.mono hHeld.size)) (fun hHeld2 => ?_)
          clear hK hHeld hxb hb
          have hHeld := hHeld2
          clear hHeld2
          refine wpAnyH_ready (rs := [4]) (by kernel_rfl) (by simp) (AllReadyH.cons (at_drop (i := 4) rfl) (fun K2 hK => ?_) (AllReadyH.nil))
          go_simp
          refine (specAct_any a k v _).mono ?_
          rintro e Z4 ⟨rfl, hb⟩
          rw [← HX.out]
          have HV2 := Lib.hid (nrow_below HV.out hb)
          clear HV
          have HV := HV2
          clear HV2
          go_wp2_with fail
          refine hK.out _ _ (hHeld.trans (hb.mono hHeld.size)) (fun hHeld2 => ?_)
          clear hK hHeld hb
          have hHeld := hHeld2
          clear hHeld2
          have zr := al6put HV.out rfl (.int .i64 X.hi) (.int .i64 X.lo) (.int .i64 X.dl) (.int .i64 X.st) (.int .i64 X.ct) (.int .i64 X.sh)
          have zk := fun (k : Nat) (hk : k ≠ xb) => al6blk (W := Z4) hk (.int .i64 X.hi) (.int .i64 X.lo) (.int .i64 X.dl) (.int .i64 X.st) (.int .i64 X.ct) (.int .i64 X.sh)
          have zb := al6bel (g := xb) hHeld HXL.out (.int .i64 X.hi) (.int .i64 X.lo) (.int .i64 X.dl) (.int .i64 X.st) (.int .i64 X.ct) (.int .i64 X.sh)
          obtain ⟨⟨o0, o1, o2, o3, o4, o5⟩, z0, z1, z2, z3, z4, z5⟩ := rowN6 HV.out
          have hol := HV.out.lt
          refine take_call (i := 6) rfl (by kernel_rfl) (fun K2 hK => ?_)
          go_simp
          clear o0 o1 o2 o3 o4 o5 z0 z1 z2 z3 z4 z5
          generalize ((((((Z4).setCell ⟨xb, 0, none⟩ (.int .i64 X.hi)).setCell ⟨xb, 1, none⟩ (.int .i64 X.lo)).setCell ⟨xb, 2, none⟩ (.int .i64 X.dl)).setCell ⟨xb, 3, none⟩ (.int .i64 X.st)).setCell ⟨xb, 4, none⟩ (.int .i64 X.ct)).setCell ⟨xb, 5, none⟩ (.int .i64 X.sh) = Y at zr zk zb  ⊢
          refine hK.out _ _ zb (fun hHeld2 => ?_)
          clear hK hHeld hHeld2
          refine wpAnyH_done (by kernel_rfl) ?_ _
          have HPR : Hid (Below W.heap.size W Y ∧ Y.rowIs xb 25 6 (rowN (alL X)) ∧ W.heap.size ≤ xb) := ⟨zb, zr, HXL.out⟩
          clear zr zk zb
          go_wp2_with fail
          go_meet
          case rel => exact ⟨xb, rfl, HPR⟩
      · obtain ⟨Z2, hZ2⟩ : ∃ Z2, Z2 = Z1.alloc (.cells #[.int .i64 0, .int .i64 0, .int .i64 0, .int .i64 0, .int .i64 0, .int .i64 0] 25) := ⟨_, rfl⟩
        have hb : Below Z1.heap.size Z1 Z2 := by rw [hZ2]; exact nbel_alloc _ _
        have HV : Hid (Z2.rowIs Z1.heap.size 25 6 (rowN [.int .i64 0, .int .i64 0, .int .i64 0, .int .i64 0, .int .i64 0, .int .i64 0])) := by show World.rowIs _ _ _ _ _; rw [hZ2]; exact rowN_alloc _ _ _
        obtain ⟨xb, hxb⟩ : ∃ xb, xb = Z1.heap.size := ⟨_, rfl⟩
        rw [← hxb] at HV
        have HXL : Hid (W.heap.size ≤ xb) := by show _ ≤ _; rw [hxb]; exact hHeld.size
        go_simp
        rw [← hZ2, ← hxb]
        clear hZ2
        refine hK.out _ _ (hHeld.trans (hb.mono hHeld.size)) (fun hHeld2 => ?_)
        clear hK hHeld hxb hb
        have hHeld := hHeld2
        clear hHeld2
        refine wpAnyH_ready (rs := [3]) (by kernel_rfl) (by simp) (AllReadyH.cons (at_drop (i := 3) rfl) (fun K2 hK => ?_) (AllReadyH.nil))
        go_simp
        refine (toAct_any k v _).mono ?_
        rintro e Z3 ⟨rfl, hb⟩
        have HV2 := Lib.hid (nrow_below HV.out hb)
        clear HV
        have HV := HV2
        clear HV2
        go_wp2_with fail
        refine hK.out _ _ (hHeld.trans (hb.mono hHeld.size)) (fun hHeld2 => ?_)
        clear hK hHeld hb
        have hHeld := hHeld2
        clear hHeld2
        refine wpAnyH_ready (rs := [4]) (by kernel_rfl) (by simp) (AllReadyH.cons (at_drop (i := 4) rfl) (fun K2 hK => ?_) (AllReadyH.nil))
        go_simp
        refine (specAct_any a k v _).mono ?_
        rintro e Z4 ⟨rfl, hb⟩
        rw [← HX.out]
        have HV2 := Lib.hid (nrow_below HV.out hb)
        clear HV
        have HV := HV2
        clear HV2
        go_wp2_with fail
        refine hK.out _ _ (hHeld.trans (hb.mono hHeld.size)) (fun hHeld2 => ?_)
        clear hK hHeld hb
        have hHeld := hHeld2
        clear hHeld2
        have zr := al6put HV.out rfl (.int .i64 X.hi) (.int .i64 X.lo) (.int .i64 X.dl) (.int .i64 X.st) (.int .i64 X.ct) (.int .i64 X.sh)
        have zk := fun (k : Nat) (hk : k ≠ xb) => al6blk (W := Z4) hk (.int .i64 X.hi) (.int .i64 X.lo) (.int .i64 X.dl) (.int .i64 X.st) (.int .i64 X.ct) (.int .i64 X.sh)
        have zb := al6bel (g := xb) hHeld HXL.out (.int .i64 X.hi) (.int .i64 X.lo) (.int .i64 X.dl) (.int .i64 X.st) (.int .i64 X.ct) (.int .i64 X.sh)
        obtain ⟨⟨o0, o1, o2, o3, o4, o5⟩, z0, z1, z2, z3, z4, z5⟩ := rowN6 HV.out
        have hol := HV.out.lt
        refine take_call (i := 6) rfl (by kernel_rfl) (fun K2 hK => ?_)
        go_simp
        clear o0 o1 o2 o3 o4 o5 z0 z1 z2 z3 z4 z5
        generalize ((((((Z4).setCell ⟨xb, 0, none⟩ (.int .i64 X.hi)).setCell ⟨xb, 1, none⟩ (.int .i64 X.lo)).setCell ⟨xb, 2, none⟩ (.int .i64 X.dl)).setCell ⟨xb, 3, none⟩ (.int .i64 X.st)).setCell ⟨xb, 4, none⟩ (.int .i64 X.ct)).setCell ⟨xb, 5, none⟩ (.int .i64 X.sh) = Y at zr zk zb  ⊢
        refine hK.out _ _ zb (fun hHeld2 => ?_)
        clear hK hHeld hHeld2
        refine wpAnyH_done (by kernel_rfl) ?_ _
        have HPR : Hid (Below W.heap.size W Y ∧ Y.rowIs xb 25 6 (rowN (alL X)) ∧ W.heap.size ≤ xb) := ⟨zb, zr, HXL.out⟩
        clear zr zk zb
        go_wp2_with fail
        go_meet
        case rel => exact ⟨xb, rfl, HPR⟩
    · obtain ⟨Z1, hZ1⟩ : ∃ Z1, Z1 = Z.alloc (.cells #[.int .i64 0, .int .i64 0, .int .i64 0, .int .i64 0, .int .i64 0, .int .i64 0] 25) := ⟨_, rfl⟩
      have hb : Below Z.heap.size Z Z1 := by rw [hZ1]; exact nbel_alloc _ _
      have HV : Hid (Z1.rowIs Z.heap.size 25 6 (rowN [.int .i64 0, .int .i64 0, .int .i64 0, .int .i64 0, .int .i64 0, .int .i64 0])) := by show World.rowIs _ _ _ _ _; rw [hZ1]; exact rowN_alloc _ _ _
      obtain ⟨xb, hxb⟩ : ∃ xb, xb = Z.heap.size := ⟨_, rfl⟩
      rw [← hxb] at HV
      have HXL : Hid (W.heap.size ≤ xb) := by show _ ≤ _; rw [hxb]; exact hHeld.size
      go_simp
      rw [← hZ1, ← hxb]
      clear hZ1
      refine hK.out _ _ (hHeld.trans (hb.mono hHeld.size)) (fun hHeld2 => ?_)
      clear hK hHeld hxb hb
      have hHeld := hHeld2
      clear hHeld2
      refine wpAnyH_ready (rs := [1]) (by kernel_rfl) (by simp) (AllReadyH.cons (at_drop (i := 1) rfl) (fun K2 hK => ?_) (AllReadyH.nil))
      go_simp
      refine (toAlarm_any a _).mono ?_
      rintro e Z2 ⟨rfl, hb⟩
      have HV2 := Lib.hid (nrow_below HV.out hb)
      clear HV
      have HV := HV2
      clear HV2
      go_wp2_with fail
      refine hK.out _ _ (hHeld.trans (hb.mono hHeld.size)) (fun hHeld2 => ?_)
      clear hK hHeld hb
      have hHeld := hHeld2
      clear hHeld2
      refine wpAnyH_ready (rs := [3]) (by kernel_rfl) (by simp) (AllReadyH.cons (at_drop (i := 3) rfl) (fun K2 hK => ?_) (AllReadyH.nil))
      go_simp
      refine (toAct_any k v _).mono ?_
      rintro e Z3 ⟨rfl, hb⟩
      have HV2 := Lib.hid (nrow_below HV.out hb)
      clear HV
      have HV := HV2
      clear HV2
      go_wp2_with fail
      refine hK.out _ _ (hHeld.trans (hb.mono hHeld.size)) (fun hHeld2 => ?_)
      clear hK hHeld hb
      have hHeld := hHeld2
      clear hHeld2
      refine wpAnyH_ready (rs := [4]) (by kernel_rfl) (by simp) (AllReadyH.cons (at_drop (i := 4) rfl) (fun K2 hK => ?_) (AllReadyH.nil))
      go_simp
      refine (specAct_any a k v _).mono ?_
      rintro e Z4 ⟨rfl, hb⟩
      rw [← HX.out]
      have HV2 := Lib.hid (nrow_below HV.out hb)
      clear HV
      have HV := HV2
      clear HV2
      go_wp2_with fail
      refine hK.out _ _ (hHeld.trans (hb.mono hHeld.size)) (fun hHeld2 => ?_)
      clear hK hHeld hb
      have hHeld := hHeld2
      clear hHeld2
      have zr := al6put HV.out rfl (.int .i64 X.hi) (.int .i64 X.lo) (.int .i64 X.dl) (.int .i64 X.st) (.int .i64 X.ct) (.int .i64 X.sh)
      have zk := fun (k : Nat) (hk : k ≠ xb) => al6blk (W := Z4) hk (.int .i64 X.hi) (.int .i64 X.lo) (.int .i64 X.dl) (.int .i64 X.st) (.int .i64 X.ct) (.int .i64 X.sh)
      have zb := al6bel (g := xb) hHeld HXL.out (.int .i64 X.hi) (.int .i64 X.lo) (.int .i64 X.dl) (.int .i64 X.st) (.int .i64 X.ct) (.int .i64 X.sh)
      obtain ⟨⟨o0, o1, o2, o3, o4, o5⟩, z0, z1, z2, z3, z4, z5⟩ := rowN6 HV.out
      have hol := HV.out.lt
      refine take_call (i := 6) rfl (by kernel_rfl) (fun K2 hK => ?_)
      go_simp
      clear o0 o1 o2 o3 o4 o5 z0 z1 z2 z3 z4 z5
      generalize ((((((Z4).setCell ⟨xb, 0, none⟩ (.int .i64 X.hi)).setCell ⟨xb, 1, none⟩ (.int .i64 X.lo)).setCell ⟨xb, 2, none⟩ (.int .i64 X.dl)).setCell ⟨xb, 3, none⟩ (.int .i64 X.st)).setCell ⟨xb, 4, none⟩ (.int .i64 X.ct)).setCell ⟨xb, 5, none⟩ (.int .i64 X.sh) = Y at zr zk zb  ⊢
      refine hK.out _ _ zb (fun hHeld2 => ?_)
      clear hK hHeld hHeld2
      refine wpAnyH_done (by kernel_rfl) ?_ _
      have HPR : Hid (Below W.heap.size W Y ∧ Y.rowIs xb 25 6 (rowN (alL X)) ∧ W.heap.size ≤ xb) := ⟨zb, zr, HXL.out⟩
      clear zr zk zb
      go_wp2_with fail
      go_meet
      case rel => exact ⟨xb, rfl, HPR⟩
  case rest =>
    obtain ⟨s5, rfl, hPR⟩ := hcut
    obtain ⟨W3, hW3⟩ : ∃ W3, W3 = wc := ⟨_, rfl⟩
    rw [← hW3] at hPR ⊢
    clear hW3
    have S3 := Lib.hid (S0.out.below hPR.out.1)
    have R5 := Lib.hid hPR.out.2.1
    clear hPR S0
    go_wp2_with fail
    go_cut [6] (fun q Wq => ∃ xb , q = .pointer (some ⟨xb, 0, none⟩) ∧ Hid (Below W3.heap.size W3 Wq ∧ Wq.rowIs xb 25 6 (rowN (alL X)) ∧ W3.heap.size ≤ xb))
    case first =>
      refine wp_region_held_drew (S := fun V => Below W3.heap.size W3 V) (by kernel_rfl) (Below.refl _ _).drew (fun hHeld => ?_)
      obtain ⟨Z, hZ⟩ : ∃ Z, Z = W3.drew := ⟨_, rfl⟩
      rw [← hZ] at hHeld ⊢
      clear hZ
      refine take_do (i := 0) (v := (alV a)) rfl (by kernel_rfl) (by kernel_rfl) (by kernel_rfl) (fun _ _ _ h => h) (by rfl) ?_ (by assumption) ?_
      · intro w hSw
        obtain ⟨⟨a0, a1, a2, a3, a4, a5⟩, _⟩ := rowN6 (nrow_below S3.out.a hSw)
        obtain ⟨⟨b0, b1⟩, _⟩ := rowN2 (nrow_below S3.out.k hSw)
        go_simp
      simp only [Act.put, List.setIfInBounds_toArray, List.set_cons_zero, List.set_cons_succ]
      refine take_do (i := 2) (v := (.agg #[.int .i64 k, .int .i64 v])) rfl (by kernel_rfl) (by kernel_rfl) (by kernel_rfl) (fun _ _ _ h => h) (by rfl) ?_ (by assumption) ?_
      · intro w hSw
        obtain ⟨⟨a0, a1, a2, a3, a4, a5⟩, _⟩ := rowN6 (nrow_below S3.out.a hSw)
        obtain ⟨⟨b0, b1⟩, _⟩ := rowN2 (nrow_below S3.out.k hSw)
        go_simp
      simp only [Act.put, List.setIfInBounds_toArray, List.set_cons_zero, List.set_cons_succ]
      refine wpAnyH_ready (rs := [1, 5]) (by kernel_rfl) (by simp) (AllReadyH.cons (at_drop (i := 1) rfl) (fun K2 hK => ?_) (AllReadyH.cons (at_drop (i := 5) rfl) (fun K2 hK => ?_) (AllReadyH.nil)))
      · go_simp
        refine (toAlarm_any a _).mono ?_
        rintro e Z1 ⟨rfl, hb⟩
        go_wp2_with fail
        refine hK.out _ _ (hHeld.trans (hb.mono hHeld.size)) (fun hHeld2 => ?_)
        clear hK hHeld hb
        have hHeld := hHeld2
        clear hHeld2
        refine wpAnyH_ready (rs := [3, 5]) (by kernel_rfl) (by simp) (AllReadyH.cons (at_drop (i := 3) rfl) (fun K2 hK => ?_) (AllReadyH.cons (at_drop (i := 5) rfl) (fun K2 hK => ?_) (AllReadyH.nil)))
        · go_simp
          refine (toAct_any k v _).mono ?_
          rintro e Z2 ⟨rfl, hb⟩
          go_wp2_with fail
          refine hK.out _ _ (hHeld.trans (hb.mono hHeld.size)) (fun hHeld2 => ?_)
          clear hK hHeld hb
          have hHeld := hHeld2
          clear hHeld2
          refine wpAnyH_ready (rs := [4, 5]) (by kernel_rfl) (by simp) (AllReadyH.cons (at_drop (i := 4) rfl) (fun K2 hK => ?_) (AllReadyH.cons (at_drop (i := 5) rfl) (fun K2 hK => ?_) (AllReadyH.nil)))
          · go_simp
            refine (implAct_any a k v _).mono ?_
            rintro e Z3 ⟨rfl, hb⟩
            rw [← HX.out]
            go_wp2_with fail
            refine hK.out _ _ (hHeld.trans (hb.mono hHeld.size)) (fun hHeld2 => ?_)
            clear hK hHeld hb
            have hHeld := hHeld2
            clear hHeld2
            refine wpAnyH_ready (rs := [5]) (by kernel_rfl) (by simp) (AllReadyH.cons (at_drop (i := 5) rfl) (fun K2 hK => ?_) (AllReadyH.nil))
            obtain ⟨Z4, hZ4⟩ : ∃ Z4, Z4 = Z3.alloc (.cells #[.int .i64 0, .int .i64 0, .int .i64 0, .int .i64 0, .int .i64 0, .int .i64 0] 25) := ⟨_, rfl⟩
            have hb : Below Z3.heap.size Z3 Z4 := by rw [hZ4]; exact nbel_alloc _ _
            have HV : Hid (Z4.rowIs Z3.heap.size 25 6 (rowN [.int .i64 0, .int .i64 0, .int .i64 0, .int .i64 0, .int .i64 0, .int .i64 0])) := by show World.rowIs _ _ _ _ _; rw [hZ4]; exact rowN_alloc _ _ _
            obtain ⟨xb, hxb⟩ : ∃ xb, xb = Z3.heap.size := ⟨_, rfl⟩
            rw [← hxb] at HV
            have HXL : Hid (W3.heap.size ≤ xb) := by show _ ≤ _; rw [hxb]; exact hHeld.size
            go_simp
            rw [← hZ4, ← hxb]
            clear hZ4
            refine hK.out _ _ (hHeld.trans (hb.mono hHeld.size)) (fun hHeld2 => ?_)
            clear hK hHeld hxb hb
            have hHeld := hHeld2
            clear hHeld2
            have zr := al6put HV.out rfl (.int .i64 X.hi) (.int .i64 X.lo) (.int .i64 X.dl) (.int .i64 X.st) (.int .i64 X.ct) (.int .i64 X.sh)
            have zk := fun (k : Nat) (hk : k ≠ xb) => al6blk (W := Z4) hk (.int .i64 X.hi) (.int .i64 X.lo) (.int .i64 X.dl) (.int .i64 X.st) (.int .i64 X.ct) (.int .i64 X.sh)
            have zb := al6bel (g := xb) hHeld HXL.out (.int .i64 X.hi) (.int .i64 X.lo) (.int .i64 X.dl) (.int .i64 X.st) (.int .i64 X.ct) (.int .i64 X.sh)
            obtain ⟨⟨o0, o1, o2, o3, o4, o5⟩, z0, z1, z2, z3, z4, z5⟩ := rowN6 HV.out
            have hol := HV.out.lt
            refine take_call (i := 6) rfl (by kernel_rfl) (fun K2 hK => ?_)
            go_simp
            clear o0 o1 o2 o3 o4 o5 z0 z1 z2 z3 z4 z5
            generalize ((((((Z4).setCell ⟨xb, 0, none⟩ (.int .i64 X.hi)).setCell ⟨xb, 1, none⟩ (.int .i64 X.lo)).setCell ⟨xb, 2, none⟩ (.int .i64 X.dl)).setCell ⟨xb, 3, none⟩ (.int .i64 X.st)).setCell ⟨xb, 4, none⟩ (.int .i64 X.ct)).setCell ⟨xb, 5, none⟩ (.int .i64 X.sh) = Y at zr zk zb  ⊢
            refine hK.out _ _ zb (fun hHeld2 => ?_)
            clear hK hHeld hHeld2
            refine wpAnyH_done (by kernel_rfl) ?_ _
            have HPR : Hid (Below W3.heap.size W3 Y ∧ Y.rowIs xb 25 6 (rowN (alL X)) ∧ W3.heap.size ≤ xb) := ⟨zb, zr, HXL.out⟩
            clear zr zk zb
            go_wp2_with fail
            go_meet
            case rel => exact ⟨xb, rfl, HPR⟩
          · obtain ⟨Z3, hZ3⟩ : ∃ Z3, Z3 = Z2.alloc (.cells #[.int .i64 0, .int .i64 0, .int .i64 0, .int .i64 0, .int .i64 0, .int .i64 0] 25) := ⟨_, rfl⟩
            have hb : Below Z2.heap.size Z2 Z3 := by rw [hZ3]; exact nbel_alloc _ _
            have HV : Hid (Z3.rowIs Z2.heap.size 25 6 (rowN [.int .i64 0, .int .i64 0, .int .i64 0, .int .i64 0, .int .i64 0, .int .i64 0])) := by show World.rowIs _ _ _ _ _; rw [hZ3]; exact rowN_alloc _ _ _
            obtain ⟨xb, hxb⟩ : ∃ xb, xb = Z2.heap.size := ⟨_, rfl⟩
            rw [← hxb] at HV
            have HXL : Hid (W3.heap.size ≤ xb) := by show _ ≤ _; rw [hxb]; exact hHeld.size
            go_simp
            rw [← hZ3, ← hxb]
            clear hZ3
            refine hK.out _ _ (hHeld.trans (hb.mono hHeld.size)) (fun hHeld2 => ?_)
            clear hK hHeld hxb hb
            have hHeld := hHeld2
            clear hHeld2
            refine wpAnyH_ready (rs := [4]) (by kernel_rfl) (by simp) (AllReadyH.cons (at_drop (i := 4) rfl) (fun K2 hK => ?_) (AllReadyH.nil))
            go_simp
            refine (implAct_any a k v _).mono ?_
            rintro e Z4 ⟨rfl, hb⟩
            rw [← HX.out]
            have HV2 := Lib.hid (nrow_below HV.out hb)
            clear HV
            have HV := HV2
            clear HV2
            go_wp2_with fail
            refine hK.out _ _ (hHeld.trans (hb.mono hHeld.size)) (fun hHeld2 => ?_)
            clear hK hHeld hb
            have hHeld := hHeld2
            clear hHeld2
            have zr := al6put HV.out rfl (.int .i64 X.hi) (.int .i64 X.lo) (.int .i64 X.dl) (.int .i64 X.st) (.int .i64 X.ct) (.int .i64 X.sh)
            have zk := fun (k : Nat) (hk : k ≠ xb) => al6blk (W := Z4) hk (.int .i64 X.hi) (.int .i64 X.lo) (.int .i64 X.dl) (.int .i64 X.st) (.int .i64 X.ct) (.int .i64 X.sh)
            have zb := al6bel (g := xb) hHeld HXL.out (.int .i64 X.hi) (.int .i64 X.lo) (.int .i64 X.dl) (.int .i64 X.st) (.int .i64 X.ct) (.int .i64 X.sh)
            obtain ⟨⟨o0, o1, o2, o3, o4, o5⟩, z0, z1, z2, z3, z4, z5⟩ := rowN6 HV.out
            have hol := HV.out.lt
            refine take_call (i := 6) rfl (by kernel_rfl) (fun K2 hK => ?_)
            go_simp
            clear o0 o1 o2 o3 o4 o5 z0 z1 z2 z3 z4 z5
            generalize ((((((Z4).setCell ⟨xb, 0, none⟩ (.int .i64 X.hi)).setCell ⟨xb, 1, none⟩ (.int .i64 X.lo)).setCell ⟨xb, 2, none⟩ (.int .i64 X.dl)).setCell ⟨xb, 3, none⟩ (.int .i64 X.st)).setCell ⟨xb, 4, none⟩ (.int .i64 X.ct)).setCell ⟨xb, 5, none⟩ (.int .i64 X.sh) = Y at zr zk zb  ⊢
            refine hK.out _ _ zb (fun hHeld2 => ?_)
            clear hK hHeld hHeld2
            refine wpAnyH_done (by kernel_rfl) ?_ _
            have HPR : Hid (Below W3.heap.size W3 Y ∧ Y.rowIs xb 25 6 (rowN (alL X)) ∧ W3.heap.size ≤ xb) := ⟨zb, zr, HXL.out⟩
            clear zr zk zb
            go_wp2_with fail
            go_meet
            case rel => exact ⟨xb, rfl, HPR⟩
        · obtain ⟨Z2, hZ2⟩ : ∃ Z2, Z2 = Z1.alloc (.cells #[.int .i64 0, .int .i64 0, .int .i64 0, .int .i64 0, .int .i64 0, .int .i64 0] 25) := ⟨_, rfl⟩
          have hb : Below Z1.heap.size Z1 Z2 := by rw [hZ2]; exact nbel_alloc _ _
          have HV : Hid (Z2.rowIs Z1.heap.size 25 6 (rowN [.int .i64 0, .int .i64 0, .int .i64 0, .int .i64 0, .int .i64 0, .int .i64 0])) := by show World.rowIs _ _ _ _ _; rw [hZ2]; exact rowN_alloc _ _ _
          obtain ⟨xb, hxb⟩ : ∃ xb, xb = Z1.heap.size := ⟨_, rfl⟩
          rw [← hxb] at HV
          have HXL : Hid (W3.heap.size ≤ xb) := by show _ ≤ _; rw [hxb]; exact hHeld.size
          go_simp
          rw [← hZ2, ← hxb]
          clear hZ2
          refine hK.out _ _ (hHeld.trans (hb.mono hHeld.size)) (fun hHeld2 => ?_)
          clear hK hHeld hxb hb
          have hHeld := hHeld2
          clear hHeld2
          refine wpAnyH_ready (rs := [3]) (by kernel_rfl) (by simp) (AllReadyH.cons (at_drop (i := 3) rfl) (fun K2 hK => ?_) (AllReadyH.nil))
          go_simp
          refine (toAct_any k v _).mono ?_
          rintro e Z3 ⟨rfl, hb⟩
          have HV2 := Lib.hid (nrow_below HV.out hb)
          clear HV
          have HV := HV2
          clear HV2
          go_wp2_with fail
          refine hK.out _ _ (hHeld.trans (hb.mono hHeld.size)) (fun hHeld2 => ?_)
          clear hK hHeld hb
          have hHeld := hHeld2
          clear hHeld2
          refine wpAnyH_ready (rs := [4]) (by kernel_rfl) (by simp) (AllReadyH.cons (at_drop (i := 4) rfl) (fun K2 hK => ?_) (AllReadyH.nil))
          go_simp
          refine (implAct_any a k v _).mono ?_
          rintro e Z4 ⟨rfl, hb⟩
          rw [← HX.out]
          have HV2 := Lib.hid (nrow_below HV.out hb)
          clear HV
          have HV := HV2
          clear HV2
          go_wp2_with fail
          refine hK.out _ _ (hHeld.trans (hb.mono hHeld.size)) (fun hHeld2 => ?_)
          clear hK hHeld hb
          have hHeld := hHeld2
          clear hHeld2
          have zr := al6put HV.out rfl (.int .i64 X.hi) (.int .i64 X.lo) (.int .i64 X.dl) (.int .i64 X.st) (.int .i64 X.ct) (.int .i64 X.sh)
          have zk := fun (k : Nat) (hk : k ≠ xb) => al6blk (W := Z4) hk (.int .i64 X.hi) (.int .i64 X.lo) (.int .i64 X.dl) (.int .i64 X.st) (.int .i64 X.ct) (.int .i64 X.sh)
          have zb := al6bel (g := xb) hHeld HXL.out (.int .i64 X.hi) (.int .i64 X.lo) (.int .i64 X.dl) (.int .i64 X.st) (.int .i64 X.ct) (.int .i64 X.sh)
          obtain ⟨⟨o0, o1, o2, o3, o4, o5⟩, z0, z1, z2, z3, z4, z5⟩ := rowN6 HV.out
          have hol := HV.out.lt
          refine take_call (i := 6) rfl (by kernel_rfl) (fun K2 hK => ?_)
          go_simp
          clear o0 o1 o2 o3 o4 o5 z0 z1 z2 z3 z4 z5
          generalize ((((((Z4).setCell ⟨xb, 0, none⟩ (.int .i64 X.hi)).setCell ⟨xb, 1, none⟩ (.int .i64 X.lo)).setCell ⟨xb, 2, none⟩ (.int .i64 X.dl)).setCell ⟨xb, 3, none⟩ (.int .i64 X.st)).setCell ⟨xb, 4, none⟩ (.int .i64 X.ct)).setCell ⟨xb, 5, none⟩ (.int .i64 X.sh) = Y at zr zk zb  ⊢
          refine hK.out _ _ zb (fun hHeld2 => ?_)
          clear hK hHeld hHeld2
          refine wpAnyH_done (by kernel_rfl) ?_ _
          have HPR : Hid (Below W3.heap.size W3 Y ∧ Y.rowIs xb 25 6 (rowN (alL X)) ∧ W3.heap.size ≤ xb) := ⟨zb, zr, HXL.out⟩
          clear zr zk zb
          go_wp2_with fail
          go_meet
          case rel => exact ⟨xb, rfl, HPR⟩
      · obtain ⟨Z1, hZ1⟩ : ∃ Z1, Z1 = Z.alloc (.cells #[.int .i64 0, .int .i64 0, .int .i64 0, .int .i64 0, .int .i64 0, .int .i64 0] 25) := ⟨_, rfl⟩
        have hb : Below Z.heap.size Z Z1 := by rw [hZ1]; exact nbel_alloc _ _
        have HV : Hid (Z1.rowIs Z.heap.size 25 6 (rowN [.int .i64 0, .int .i64 0, .int .i64 0, .int .i64 0, .int .i64 0, .int .i64 0])) := by show World.rowIs _ _ _ _ _; rw [hZ1]; exact rowN_alloc _ _ _
        obtain ⟨xb, hxb⟩ : ∃ xb, xb = Z.heap.size := ⟨_, rfl⟩
        rw [← hxb] at HV
        have HXL : Hid (W3.heap.size ≤ xb) := by show _ ≤ _; rw [hxb]; exact hHeld.size
        go_simp
        rw [← hZ1, ← hxb]
        clear hZ1
        refine hK.out _ _ (hHeld.trans (hb.mono hHeld.size)) (fun hHeld2 => ?_)
        clear hK hHeld hxb hb
        have hHeld := hHeld2
        clear hHeld2
        refine wpAnyH_ready (rs := [1]) (by kernel_rfl) (by simp) (AllReadyH.cons (at_drop (i := 1) rfl) (fun K2 hK => ?_) (AllReadyH.nil))
        go_simp
        refine (toAlarm_any a _).mono ?_
        rintro e Z2 ⟨rfl, hb⟩
        have HV2 := Lib.hid (nrow_below HV.out hb)
        clear HV
        have HV := HV2
        clear HV2
        go_wp2_with fail
        refine hK.out _ _ (hHeld.trans (hb.mono hHeld.size)) (fun hHeld2 => ?_)
        clear hK hHeld hb
        have hHeld := hHeld2
        clear hHeld2
        refine wpAnyH_ready (rs := [3]) (by kernel_rfl) (by simp) (AllReadyH.cons (at_drop (i := 3) rfl) (fun K2 hK => ?_) (AllReadyH.nil))
        go_simp
        refine (toAct_any k v _).mono ?_
        rintro e Z3 ⟨rfl, hb⟩
        have HV2 := Lib.hid (nrow_below HV.out hb)
        clear HV
        have HV := HV2
        clear HV2
        go_wp2_with fail
        refine hK.out _ _ (hHeld.trans (hb.mono hHeld.size)) (fun hHeld2 => ?_)
        clear hK hHeld hb
        have hHeld := hHeld2
        clear hHeld2
        refine wpAnyH_ready (rs := [4]) (by kernel_rfl) (by simp) (AllReadyH.cons (at_drop (i := 4) rfl) (fun K2 hK => ?_) (AllReadyH.nil))
        go_simp
        refine (implAct_any a k v _).mono ?_
        rintro e Z4 ⟨rfl, hb⟩
        rw [← HX.out]
        have HV2 := Lib.hid (nrow_below HV.out hb)
        clear HV
        have HV := HV2
        clear HV2
        go_wp2_with fail
        refine hK.out _ _ (hHeld.trans (hb.mono hHeld.size)) (fun hHeld2 => ?_)
        clear hK hHeld hb
        have hHeld := hHeld2
        clear hHeld2
        have zr := al6put HV.out rfl (.int .i64 X.hi) (.int .i64 X.lo) (.int .i64 X.dl) (.int .i64 X.st) (.int .i64 X.ct) (.int .i64 X.sh)
        have zk := fun (k : Nat) (hk : k ≠ xb) => al6blk (W := Z4) hk (.int .i64 X.hi) (.int .i64 X.lo) (.int .i64 X.dl) (.int .i64 X.st) (.int .i64 X.ct) (.int .i64 X.sh)
        have zb := al6bel (g := xb) hHeld HXL.out (.int .i64 X.hi) (.int .i64 X.lo) (.int .i64 X.dl) (.int .i64 X.st) (.int .i64 X.ct) (.int .i64 X.sh)
        obtain ⟨⟨o0, o1, o2, o3, o4, o5⟩, z0, z1, z2, z3, z4, z5⟩ := rowN6 HV.out
        have hol := HV.out.lt
        refine take_call (i := 6) rfl (by kernel_rfl) (fun K2 hK => ?_)
        go_simp
        clear o0 o1 o2 o3 o4 o5 z0 z1 z2 z3 z4 z5
        generalize ((((((Z4).setCell ⟨xb, 0, none⟩ (.int .i64 X.hi)).setCell ⟨xb, 1, none⟩ (.int .i64 X.lo)).setCell ⟨xb, 2, none⟩ (.int .i64 X.dl)).setCell ⟨xb, 3, none⟩ (.int .i64 X.st)).setCell ⟨xb, 4, none⟩ (.int .i64 X.ct)).setCell ⟨xb, 5, none⟩ (.int .i64 X.sh) = Y at zr zk zb  ⊢
        refine hK.out _ _ zb (fun hHeld2 => ?_)
        clear hK hHeld hHeld2
        refine wpAnyH_done (by kernel_rfl) ?_ _
        have HPR : Hid (Below W3.heap.size W3 Y ∧ Y.rowIs xb 25 6 (rowN (alL X)) ∧ W3.heap.size ≤ xb) := ⟨zb, zr, HXL.out⟩
        clear zr zk zb
        go_wp2_with fail
        go_meet
        case rel => exact ⟨xb, rfl, HPR⟩
    case rest =>
      obtain ⟨s6, rfl, hPR⟩ := hcut
      obtain ⟨W5, hW5⟩ : ∃ W5, W5 = wc := ⟨_, rfl⟩
      rw [← hW5] at hPR ⊢
      clear hW5
      have S5 := Lib.hid (S3.out.below hPR.out.1)
      have R6 := Lib.hid hPR.out.2.1
      have R55 := Lib.hid (nrow_below R5.out hPR.out.1)
      clear hPR S3 R5
      obtain ⟨⟨y0, y1, y2, y3, y4, y5⟩, _⟩ := rowN6 R6.out
      obtain ⟨⟨u0, u1, u2, u3, u4, u5⟩, _⟩ := rowN6 R55.out
      go_wp2_with fail
      clear y0 y1 y2 y3 y4 y5 u0 u1 u2 u3 u4 u5
      refine (eqAlarm_same X _).mono ?_
      rintro e w6 ⟨rfl, hb⟩
      have B6 := Lib.hid (S5.out.below hb).b
      clear hb
      go_wp2_with fail
      go_ret
      exact ⟨rfl, B6.out⟩
end Go.Proofs.Ytnfdamkjkclnmaa
