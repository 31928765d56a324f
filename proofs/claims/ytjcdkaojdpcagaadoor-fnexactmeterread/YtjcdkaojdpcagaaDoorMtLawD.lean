/-
  The law FnExactMeterRead.
-/
import Derived.Test.YtjcdkaojdpcagaaDoorMtLo
import Derived.Test.YtjcdkaojdpcagaaDoorMtS2
import Derived.Deep.DeepCutAuto
namespace Go.Proofs.YtjcdkaojdpcagaaDoor
open Go.RowKit Go.Deep

set_option maxRecDepth 100000 in
set_option maxHeartbeats 16000000 in
theorem meterRead_law (w : World) (m : Mt.M) (rd rs : Int) (hg : Et w) :
    Calls Tryd.prog 3 #[mtV m, .agg #[.int .i64 rd, .int .i64 rs]] w fun e w' => e = .returned (.bool true) ∧ Below w.heap.size w w' := by
  obtain ⟨X, hX⟩ : ∃ X, X = Mt.ansM (Mt.ReadOk m rd rs) (Mt.next m rd rs) := ⟨_, rfl⟩
  obtain ⟨N, hN⟩ : ∃ N, N = Mt.ansN (Mt.ReadOk m rd rs) 1 := ⟨_, rfl⟩
  obtain ⟨x, hx⟩ : ∃ x, x = Mt.ansC (Mt.ReadOk m rd rs) 1 := ⟨_, rfl⟩
  obtain ⟨U, hU⟩ : ∃ U, U = Mt.use m (Mt.rd1 rd rs) := ⟨_, rfl⟩
  have hN1 : N ≤ 1048576 := by rw [hN]; unfold Mt.ansN; split <;> omega
  have HX := Lib.hid hX
  have HN := Lib.hid hN
  have Hx := Lib.hid hx
  have HU := Lib.hid hU
  have HN1 := Lib.hid hN1
  have HG := Lib.hid hg
  obtain ⟨W, hW⟩ : ∃ W, W = (w.alloc (.cells #[.int .i64 m.d, .int .i64 m.u, .int .i64 m.day, .int .i64 m.s] 23)).alloc (.cells #[.int .i64 rd, .int .i64 rs] 25) := ⟨_, rfl⟩
  have BW : Hid (Below w.heap.size w W) := by show Below _ _ _; rw [hW]; exact (nbel_alloc _ _).alloc (by simp) _
  have ARG : Hid (W.rowIs w.heap.size 23 4 (rowN (mtL m)) ∧ W.rowIs (w.heap.size + 1) 25 2 (rowN [.int .i64 rd, .int .i64 rs])) := by
    show World.rowIs _ _ _ _ _ ∧ _
    rw [hW]
    exact ⟨nrow_below (rowN_alloc w _ _) (nbel_alloc _ _), rowN_alloc' (by simp) _ _⟩
  have HW := Lib.hid hW
  have SB : ∀ h, w.heap.size + 1 < h → Stb h (fun V => V.rowIs w.heap.size 23 4 (rowN (mtL m)) ∧ V.rowIs (w.heap.size + 1) 25 2 (rowN [.int .i64 rd, .int .i64 rs])) := fun h hh W W' hb a => ⟨a.1.of_block (hb _ (by omega) a.1.lt), a.2.of_block (hb _ hh a.2.lt)⟩
  have HSB := Lib.hid SB
  clear hW hX hN hx hU hN1 hg SB
  go_enter Tryd.func3, Tryd.ntmps3
  go_wp2_with fail
  rw [← HW.out]
  clear HW
  go_cut [5] (fun q Wq => ∃ xb aN cN, q = .pointer (some ⟨xb, 0, none⟩) ∧ Hid (PrM W X N x U xb aN cN Wq))
  case first =>
    refine wp_region_held_drew (S := fun V => Below W.heap.size W V) (by kernel_rfl) (Below.refl _ _).drew (fun hHeld => ?_)
    obtain ⟨Z, hZ⟩ : ∃ Z, Z = W.drew := ⟨_, rfl⟩
    rw [← hZ] at hHeld ⊢
    clear hZ
    refine take_do (i := 0) (v := (mtV m)) rfl (by kernel_rfl) (by kernel_rfl) (by kernel_rfl) (fun _ _ _ h => h) (by rfl) ?_ (by assumption) ?_
    · intro w hSw
      obtain ⟨⟨a0, a1, a2, a3⟩, _⟩ := rowN4 (nrow_below ARG.out.1 hSw)
      obtain ⟨⟨b0, b1⟩, _⟩ := rowN2 (nrow_below ARG.out.2 hSw)
      go_simp
    simp only [Act.put, List.setIfInBounds_toArray, List.set_cons_zero, List.set_cons_succ]
    refine take_do (i := 2) (v := (.agg #[.int .i64 rd, .int .i64 rs])) rfl (by kernel_rfl) (by kernel_rfl) (by kernel_rfl) (fun _ _ _ h => h) (by rfl) ?_ (by assumption) ?_
    · intro w hSw
      obtain ⟨⟨a0, a1, a2, a3⟩, _⟩ := rowN4 (nrow_below ARG.out.1 hSw)
      obtain ⟨⟨b0, b1⟩, _⟩ := rowN2 (nrow_below ARG.out.2 hSw)
      go_simp
    simp only [Act.put, List.setIfInBounds_toArray, List.set_cons_zero, List.set_cons_succ]
    refine wpAnyH_ready (rs := [1, 5]) (by kernel_rfl) (by simp) (AllReadyH.cons (at_drop (i := 1) rfl) (fun K2 hK => ?_) (AllReadyH.cons (at_drop (i := 5) rfl) (fun K2 hK => ?_) (AllReadyH.nil)))
    · go_simp
      refine (toMeter_any m _).mono ?_
      rintro e Z1 ⟨rfl, hb⟩
      go_wp2_with fail
      refine hK.out _ _ (hHeld.trans (hb.mono hHeld.size)) (fun hHeld2 => ?_)
      clear hK hHeld hb
      have hHeld := hHeld2
      clear hHeld2
      refine wpAnyH_ready (rs := [3, 5]) (by kernel_rfl) (by simp) (AllReadyH.cons (at_drop (i := 3) rfl) (fun K2 hK => ?_) (AllReadyH.cons (at_drop (i := 5) rfl) (fun K2 hK => ?_) (AllReadyH.nil)))
      · go_simp
        refine (ntoRead_any rd rs _).mono ?_
        rintro e Z2 ⟨rfl, hb⟩
        go_wp2_with fail
        refine hK.out _ _ (hHeld.trans (hb.mono hHeld.size)) (fun hHeld2 => ?_)
        clear hK hHeld hb
        have hHeld := hHeld2
        clear hHeld2
        refine wpAnyH_ready (rs := [4, 5]) (by kernel_rfl) (by simp) (AllReadyH.cons (at_drop (i := 4) rfl) (fun K2 hK => ?_) (AllReadyH.cons (at_drop (i := 5) rfl) (fun K2 hK => ?_) (AllReadyH.nil)))
        · go_simp
          refine (specRead_any m rd rs _).mono ?_
          rintro e Z3 ⟨hE, hb⟩
          obtain ⟨aN, cN, rfl, hown⟩ := hE.tell
          rw [← HX.out, ← HN.out, ← Hx.out]
          rw [← HN.out, ← HU.out] at hown
          have HOW := Lib.hid (hown.low hHeld.size)
          clear hE hown
          go_wp2_with fail
          refine hK.out _ _ (hHeld.trans (hb.mono hHeld.size)) (fun hHeld2 => ?_)
          clear hK hHeld hb
          have hHeld := hHeld2
          clear hHeld2
          refine wpAnyH_ready (rs := [5]) (by kernel_rfl) (by simp) (AllReadyH.cons (at_drop (i := 5) rfl) (fun K2 hK => ?_) (AllReadyH.nil))
          obtain ⟨Z4, hZ4⟩ : ∃ Z4, Z4 = Z3.alloc (.cells #[.int .i64 0, .int .i64 0, .int .i64 0, .int .i64 0, .slice none 0 0, .int .i64 0] 29) := ⟨_, rfl⟩
          have hb : Below Z3.heap.size Z3 Z4 := by rw [hZ4]; exact nbel_alloc _ _
          have HV : Hid (Z4.rowIs Z3.heap.size 29 6 (rowN [.int .i64 0, .int .i64 0, .int .i64 0, .int .i64 0, .slice none 0 0, .int .i64 0])) := by show World.rowIs _ _ _ _ _; rw [hZ4]; exact rowN_alloc _ _ _
          obtain ⟨xb, hxb⟩ : ∃ xb, xb = Z3.heap.size := ⟨_, rfl⟩
          rw [← hxb] at HV
          have HXL : Hid (W.heap.size ≤ xb) := by show _ ≤ _; rw [hxb]; exact hHeld.size
          have HOW2 := Lib.hid (HOW.out.below hb)
          clear HOW
          have HOW := HOW2
          clear HOW2
          go_simp
          rw [← hZ4, ← hxb]
          clear hZ4
          refine hK.out _ _ (hHeld.trans (hb.mono hHeld.size)) (fun hHeld2 => ?_)
          clear hK hHeld hxb hb
          have hHeld := hHeld2
          clear hHeld2
          have zr := mput6 HV.out rfl (.int .i64 X.d) (.int .i64 X.u) (.int .i64 X.day) (.int .i64 X.s) (.slice aN N cN) (.int .i64 x)
          have zk := fun (k : Nat) (hk : k ≠ xb) => mblk6 (W := Z4) hk (.int .i64 X.d) (.int .i64 X.u) (.int .i64 X.day) (.int .i64 X.s) (.slice aN N cN) (.int .i64 x)
          have zb := mbel6 (g := xb) hHeld HXL.out (.int .i64 X.d) (.int .i64 X.u) (.int .i64 X.day) (.int .i64 X.s) (.slice aN N cN) (.int .i64 x)
          obtain ⟨⟨o0, o1, o2, o3, o4, o5⟩, z0, z1, z2, z3, z4, z5⟩ := rowN6 HV.out
          have hol := HV.out.lt
          refine take_call (i := 6) rfl (by kernel_rfl) (fun K2 hK => ?_)
          go_simp
          clear o0 o1 o2 o3 o4 o5 z0 z1 z2 z3 z4 z5
          have zo : UsOwn W.heap.size N aN cN U _ := HOW.out.same (fun k e _ => zk k (HOW.out.ne HV.out e))
          generalize ((((((Z4).setCell ⟨xb, 0, none⟩ (.int .i64 X.d)).setCell ⟨xb, 1, none⟩ (.int .i64 X.u)).setCell ⟨xb, 2, none⟩ (.int .i64 X.day)).setCell ⟨xb, 3, none⟩ (.int .i64 X.s)).setCell ⟨xb, 4, none⟩ (.slice aN N cN)).setCell ⟨xb, 5, none⟩ (.int .i64 x) = Y at zr zk zb zo ⊢
          refine hK.out _ _ zb (fun hHeld2 => ?_)
          clear hK hHeld hHeld2
          refine wpAnyH_done (by kernel_rfl) ?_ _
          have HPR : Hid (PrM W X N x U xb aN cN Y) := ⟨zb, zr, zo, HXL.out⟩
          clear zo
          clear zr zk zb
          go_wp2_with fail
          go_meet
          case rel => exact ⟨xb, aN, cN, rfl, HPR⟩
        · obtain ⟨Z3, hZ3⟩ : ∃ Z3, Z3 = Z2.alloc (.cells #[.int .i64 0, .int .i64 0, .int .i64 0, .int .i64 0, .slice none 0 0, .int .i64 0] 29) := ⟨_, rfl⟩
          have hb : Below Z2.heap.size Z2 Z3 := by rw [hZ3]; exact nbel_alloc _ _
          have HV : Hid (Z3.rowIs Z2.heap.size 29 6 (rowN [.int .i64 0, .int .i64 0, .int .i64 0, .int .i64 0, .slice none 0 0, .int .i64 0])) := by show World.rowIs _ _ _ _ _; rw [hZ3]; exact rowN_alloc _ _ _
          obtain ⟨xb, hxb⟩ : ∃ xb, xb = Z2.heap.size := ⟨_, rfl⟩
          rw [← hxb] at HV
          have HXL : Hid (W.heap.size ≤ xb) := by show _ ≤ _; rw [hxb]; exact hHeld.size
          go_simp
          rw [← hZ3, ← hxb]
          clear hZ3
          refine hK.out _ _ (hHeld.trans (hb.mono hHeld.size)) (fun hHeld2 => ?_)
          clear hK hHeld hxb hb
          have hHeld := hHeld2
          clear hHeld2
          refine wpAnyH_ready (rs := [4]) (by kernel_rfl) (by simp) (AllReadyH.cons (at_drop (i := 4) rfl) (fun K2 hK => ?_) (AllReadyH.nil))
          go_simp
          refine (specRead_any m rd rs _).mono ?_
          rintro e Z4 ⟨hE, hb⟩
          obtain ⟨aN, cN, rfl, hown⟩ := hE.tell
          rw [← HX.out, ← HN.out, ← Hx.out]
          rw [← HN.out, ← HU.out] at hown
          have HOW := Lib.hid (hown.low hHeld.size)
          clear hE hown
          have HV2 := Lib.hid (nrow_below HV.out hb)
          clear HV
          have HV := HV2
          clear HV2
          go_wp2_with fail
          refine hK.out _ _ (hHeld.trans (hb.mono hHeld.size)) (fun hHeld2 => ?_)
          clear hK hHeld hb
          have hHeld := hHeld2
          clear hHeld2
          have zr := mput6 HV.out rfl (.int .i64 X.d) (.int .i64 X.u) (.int .i64 X.day) (.int .i64 X.s) (.slice aN N cN) (.int .i64 x)
          have zk := fun (k : Nat) (hk : k ≠ xb) => mblk6 (W := Z4) hk (.int .i64 X.d) (.int .i64 X.u) (.int .i64 X.day) (.int .i64 X.s) (.slice aN N cN) (.int .i64 x)
          have zb := mbel6 (g := xb) hHeld HXL.out (.int .i64 X.d) (.int .i64 X.u) (.int .i64 X.day) (.int .i64 X.s) (.slice aN N cN) (.int .i64 x)
          obtain ⟨⟨o0, o1, o2, o3, o4, o5⟩, z0, z1, z2, z3, z4, z5⟩ := rowN6 HV.out
          have hol := HV.out.lt
          refine take_call (i := 6) rfl (by kernel_rfl) (fun K2 hK => ?_)
          go_simp
          clear o0 o1 o2 o3 o4 o5 z0 z1 z2 z3 z4 z5
          have zo : UsOwn W.heap.size N aN cN U _ := HOW.out.same (fun k e _ => zk k (HOW.out.ne HV.out e))
          generalize ((((((Z4).setCell ⟨xb, 0, none⟩ (.int .i64 X.d)).setCell ⟨xb, 1, none⟩ (.int .i64 X.u)).setCell ⟨xb, 2, none⟩ (.int .i64 X.day)).setCell ⟨xb, 3, none⟩ (.int .i64 X.s)).setCell ⟨xb, 4, none⟩ (.slice aN N cN)).setCell ⟨xb, 5, none⟩ (.int .i64 x) = Y at zr zk zb zo ⊢
          refine hK.out _ _ zb (fun hHeld2 => ?_)
          clear hK hHeld hHeld2
          refine wpAnyH_done (by kernel_rfl) ?_ _
          have HPR : Hid (PrM W X N x U xb aN cN Y) := ⟨zb, zr, zo, HXL.out⟩
          clear zo
          clear zr zk zb
          go_wp2_with fail
          go_meet
          case rel => exact ⟨xb, aN, cN, rfl, HPR⟩
      · obtain ⟨Z2, hZ2⟩ : ∃ Z2, Z2 = Z1.alloc (.cells #[.int .i64 0, .int .i64 0, .int .i64 0, .int .i64 0, .slice none 0 0, .int .i64 0] 29) := ⟨_, rfl⟩
        have hb : Below Z1.heap.size Z1 Z2 := by rw [hZ2]; exact nbel_alloc _ _
        have HV : Hid (Z2.rowIs Z1.heap.size 29 6 (rowN [.int .i64 0, .int .i64 0, .int .i64 0, .int .i64 0, .slice none 0 0, .int .i64 0])) := by show World.rowIs _ _ _ _ _; rw [hZ2]; exact rowN_alloc _ _ _
        obtain ⟨xb, hxb⟩ : ∃ xb, xb = Z1.heap.size := ⟨_, rfl⟩
        rw [← hxb] at HV
        have HXL : Hid (W.heap.size ≤ xb) := by show _ ≤ _; rw [hxb]; exact hHeld.size
        go_simp
        rw [← hZ2, ← hxb]
        clear hZ2
        refine hK.out _ _ (hHeld.trans (hb.mono hHeld.size)) (fun hHeld2 => ?_)
        clear hK hHeld hxb hb
        have hHeld := hHeld2
        clear hHeld2
        refine wpAnyH_ready (rs := [3]) (by kernel_rfl) (by simp) (AllReadyH.cons (at_drop (i := 3) rfl) (fun K2 hK => ?_) (AllReadyH.nil))
        go_simp
        refine (ntoRead_any rd rs _).mono ?_
        rintro e Z3 ⟨rfl, hb⟩
        have HV2 := Lib.hid (nrow_below HV.out hb)
        clear HV
        have HV := HV2
        clear HV2
        go_wp2_with fail
        refine hK.out _ _ (hHeld.trans (hb.mono hHeld.size)) (fun hHeld2 => ?_)
        clear hK hHeld hb
        have hHeld := hHeld2
        clear hHeld2
        refine wpAnyH_ready (rs := [4]) (by kernel_rfl) (by simp) (AllReadyH.cons (at_drop (i := 4) rfl) (fun K2 hK => ?_) (AllReadyH.nil))
        go_simp
        refine (specRead_any m rd rs _).mono ?_
        rintro e Z4 ⟨hE, hb⟩
        obtain ⟨aN, cN, rfl, hown⟩ := hE.tell
        rw [← HX.out, ← HN.out, ← Hx.out]
        rw [← HN.out, ← HU.out] at hown
        have HOW := Lib.hid (hown.low hHeld.size)
        clear hE hown
        have HV2 := Lib.hid (nrow_below HV.out hb)
        clear HV
        have HV := HV2
        clear HV2
        go_wp2_with fail
        refine hK.out _ _ (hHeld.trans (hb.mono hHeld.size)) (fun hHeld2 => ?_)
        clear hK hHeld hb
        have hHeld := hHeld2
        clear hHeld2
        have zr := mput6 HV.out rfl (.int .i64 X.d) (.int .i64 X.u) (.int .i64 X.day) (.int .i64 X.s) (.slice aN N cN) (.int .i64 x)
        have zk := fun (k : Nat) (hk : k ≠ xb) => mblk6 (W := Z4) hk (.int .i64 X.d) (.int .i64 X.u) (.int .i64 X.day) (.int .i64 X.s) (.slice aN N cN) (.int .i64 x)
        have zb := mbel6 (g := xb) hHeld HXL.out (.int .i64 X.d) (.int .i64 X.u) (.int .i64 X.day) (.int .i64 X.s) (.slice aN N cN) (.int .i64 x)
        obtain ⟨⟨o0, o1, o2, o3, o4, o5⟩, z0, z1, z2, z3, z4, z5⟩ := rowN6 HV.out
        have hol := HV.out.lt
        refine take_call (i := 6) rfl (by kernel_rfl) (fun K2 hK => ?_)
        go_simp
        clear o0 o1 o2 o3 o4 o5 z0 z1 z2 z3 z4 z5
        have zo : UsOwn W.heap.size N aN cN U _ := HOW.out.same (fun k e _ => zk k (HOW.out.ne HV.out e))
        generalize ((((((Z4).setCell ⟨xb, 0, none⟩ (.int .i64 X.d)).setCell ⟨xb, 1, none⟩ (.int .i64 X.u)).setCell ⟨xb, 2, none⟩ (.int .i64 X.day)).setCell ⟨xb, 3, none⟩ (.int .i64 X.s)).setCell ⟨xb, 4, none⟩ (.slice aN N cN)).setCell ⟨xb, 5, none⟩ (.int .i64 x) = Y at zr zk zb zo ⊢
        refine hK.out _ _ zb (fun hHeld2 => ?_)
        clear hK hHeld hHeld2
        refine wpAnyH_done (by kernel_rfl) ?_ _
        have HPR : Hid (PrM W X N x U xb aN cN Y) := ⟨zb, zr, zo, HXL.out⟩
        clear zo
        clear zr zk zb
        go_wp2_with fail
        go_meet
        case rel => exact ⟨xb, aN, cN, rfl, HPR⟩
    · obtain ⟨Z1, hZ1⟩ : ∃ Z1, Z1 = Z.alloc (.cells #[.int .i64 0, .int .i64 0, .int .i64 0, .int .i64 0, .slice none 0 0, .int .i64 0] 29) := ⟨_, rfl⟩
      have hb : Below Z.heap.size Z Z1 := by rw [hZ1]; exact nbel_alloc _ _
      have HV : Hid (Z1.rowIs Z.heap.size 29 6 (rowN [.int .i64 0, .int .i64 0, .int .i64 0, .int .i64 0, .slice none 0 0, .int .i64 0])) := by show World.rowIs _ _ _ _ _; rw [hZ1]; exact rowN_alloc _ _ _
      obtain ⟨xb, hxb⟩ : ∃ xb, xb = Z.heap.size := ⟨_, rfl⟩
      rw [← hxb] at HV
      have HXL : Hid (W.heap.size ≤ xb) := by show _ ≤ _; rw [hxb]; exact hHeld.size
      go_simp
      rw [← hZ1, ← hxb]
      clear hZ1
      refine hK.out _ _ (hHeld.trans (hb.mono hHeld.size)) (fun hHeld2 => ?_)
      clear hK hHeld hxb hb
      have hHeld := hHeld2
      clear hHeld2
      refine wpAnyH_ready (rs := [1]) (by kernel_rfl) (by simp) (AllReadyH.cons (at_drop (i := 1) rfl) (fun K2 hK => ?_) (AllReadyH.nil))
      go_simp
      refine (toMeter_any m _).mono ?_
      rintro e Z2 ⟨rfl, hb⟩
      have HV2 := Lib.hid (nrow_below HV.out hb)
      clear HV
      have HV := HV2
      clear HV2
      go_wp2_with fail
      refine hK.out _ _ (hHeld.trans (hb.mono hHeld.size)) (fun hHeld2 => ?_)
      clear hK hHeld hb
      have hHeld := hHeld2
      clear hHeld2
      refine wpAnyH_ready (rs := [3]) (by kernel_rfl) (by simp) (AllReadyH.cons (at_drop (i := 3) rfl) (fun K2 hK => ?_) (AllReadyH.nil))
      go_simp
      refine (ntoRead_any rd rs _).mono ?_
      rintro e Z3 ⟨rfl, hb⟩
      have HV2 := Lib.hid (nrow_below HV.out hb)
      clear HV
      have HV := HV2
      clear HV2
      go_wp2_with fail
      refine hK.out _ _ (hHeld.trans (hb.mono hHeld.size)) (fun hHeld2 => ?_)
      clear hK hHeld hb
      have hHeld := hHeld2
      clear hHeld2
      refine wpAnyH_ready (rs := [4]) (by kernel_rfl) (by simp) (AllReadyH.cons (at_drop (i := 4) rfl) (fun K2 hK => ?_) (AllReadyH.nil))
      go_simp
      refine (specRead_any m rd rs _).mono ?_
      rintro e Z4 ⟨hE, hb⟩
      obtain ⟨aN, cN, rfl, hown⟩ := hE.tell
      rw [← HX.out, ← HN.out, ← Hx.out]
      rw [← HN.out, ← HU.out] at hown
      have HOW := Lib.hid (hown.low hHeld.size)
      clear hE hown
      have HV2 := Lib.hid (nrow_below HV.out hb)
      clear HV
      have HV := HV2
      clear HV2
      go_wp2_with fail
      refine hK.out _ _ (hHeld.trans (hb.mono hHeld.size)) (fun hHeld2 => ?_)
      clear hK hHeld hb
      have hHeld := hHeld2
      clear hHeld2
      have zr := mput6 HV.out rfl (.int .i64 X.d) (.int .i64 X.u) (.int .i64 X.day) (.int .i64 X.s) (.slice aN N cN) (.int .i64 x)
      have zk := fun (k : Nat) (hk : k ≠ xb) => mblk6 (W := Z4) hk (.int .i64 X.d) (.int .i64 X.u) (.int .i64 X.day) (.int .i64 X.s) (.slice aN N cN) (.int .i64 x)
      have zb := mbel6 (g := xb) hHeld HXL.out (.int .i64 X.d) (.int .i64 X.u) (.int .i64 X.day) (.int .i64 X.s) (.slice aN N cN) (.int .i64 x)
      obtain ⟨⟨o0, o1, o2, o3, o4, o5⟩, z0, z1, z2, z3, z4, z5⟩ := rowN6 HV.out
      have hol := HV.out.lt
      refine take_call (i := 6) rfl (by kernel_rfl) (fun K2 hK => ?_)
      go_simp
      clear o0 o1 o2 o3 o4 o5 z0 z1 z2 z3 z4 z5
      have zo : UsOwn W.heap.size N aN cN U _ := HOW.out.same (fun k e _ => zk k (HOW.out.ne HV.out e))
      generalize ((((((Z4).setCell ⟨xb, 0, none⟩ (.int .i64 X.d)).setCell ⟨xb, 1, none⟩ (.int .i64 X.u)).setCell ⟨xb, 2, none⟩ (.int .i64 X.day)).setCell ⟨xb, 3, none⟩ (.int .i64 X.s)).setCell ⟨xb, 4, none⟩ (.slice aN N cN)).setCell ⟨xb, 5, none⟩ (.int .i64 x) = Y at zr zk zb zo ⊢
      refine hK.out _ _ zb (fun hHeld2 => ?_)
      clear hK hHeld hHeld2
      refine wpAnyH_done (by kernel_rfl) ?_ _
      have HPR : Hid (PrM W X N x U xb aN cN Y) := ⟨zb, zr, zo, HXL.out⟩
      clear zo
      clear zr zk zb
      go_wp2_with fail
      go_meet
      case rel => exact ⟨xb, aN, cN, rfl, HPR⟩
  case rest =>
    obtain ⟨s5, a5, c5, rfl, hPR⟩ := hcut
    obtain ⟨W3, hW3⟩ : ∃ W3, W3 = wc := ⟨_, rfl⟩
    rw [← hW3] at hPR ⊢
    clear hW3
    obtain ⟨h6, hh6⟩ : ∃ h6, h6 = W3.heap.size := ⟨_, rfl⟩
    have P5 := Lib.hid hPR.out
    have ARG3 : Hid ((fun V => V.rowIs w.heap.size 23 4 (rowN (mtL m)) ∧ V.rowIs (w.heap.size + 1) 25 2 (rowN [.int .i64 rd, .int .i64 rs])) W3) := ⟨nrow_below ARG.out.1 hPR.out.bel, nrow_below ARG.out.2 hPR.out.bel⟩
    have BW3 : Hid (Below w.heap.size w W3) := BW.out.trans (hPR.out.bel.mono BW.out.size)
    have H6 := Lib.hid hh6
    have HWL : Hid (w.heap.size + 1 < W.heap.size) := ARG.out.2.lt
    clear hPR hh6 ARG
    go_wp2_with fail
    go_cut [6] (fun q Wq => ∃ xb aN cN, q = .pointer (some ⟨xb, 0, none⟩) ∧ Hid (PrM W3 X N x U xb aN cN Wq))
    case first =>
      refine wp_region_held_drew (S := fun V => Below W3.heap.size W3 V) (by kernel_rfl) (Below.refl _ _).drew (fun hHeld => ?_)
      obtain ⟨Z, hZ⟩ : ∃ Z, Z = W3.drew := ⟨_, rfl⟩
      rw [← hZ] at hHeld ⊢
      clear hZ
      refine take_do (i := 0) (v := (mtV m)) rfl (by kernel_rfl) (by kernel_rfl) (by kernel_rfl) (fun _ _ _ h => h) (by rfl) ?_ (by assumption) ?_
      · intro w hSw
        obtain ⟨⟨a0, a1, a2, a3⟩, _⟩ := rowN4 (nrow_below ARG3.out.1 hSw)
        obtain ⟨⟨b0, b1⟩, _⟩ := rowN2 (nrow_below ARG3.out.2 hSw)
        go_simp
      simp only [Act.put, List.setIfInBounds_toArray, List.set_cons_zero, List.set_cons_succ]
      refine take_do (i := 2) (v := (.agg #[.int .i64 rd, .int .i64 rs])) rfl (by kernel_rfl) (by kernel_rfl) (by kernel_rfl) (fun _ _ _ h => h) (by rfl) ?_ (by assumption) ?_
      · intro w hSw
        obtain ⟨⟨a0, a1, a2, a3⟩, _⟩ := rowN4 (nrow_below ARG3.out.1 hSw)
        obtain ⟨⟨b0, b1⟩, _⟩ := rowN2 (nrow_below ARG3.out.2 hSw)
        go_simp
      simp only [Act.put, List.setIfInBounds_toArray, List.set_cons_zero, List.set_cons_succ]
      refine wpAnyH_ready (rs := [1, 5]) (by kernel_rfl) (by simp) (AllReadyH.cons (at_drop (i := 1) rfl) (fun K2 hK => ?_) (AllReadyH.cons (at_drop (i := 5) rfl) (fun K2 hK => ?_) (AllReadyH.nil)))
      · go_simp
        refine (toMeter_any m _).mono ?_
        rintro e Z1 ⟨rfl, hb⟩
        go_wp2_with fail
        refine hK.out _ _ (hHeld.trans (hb.mono hHeld.size)) (fun hHeld2 => ?_)
        clear hK hHeld hb
        have hHeld := hHeld2
        clear hHeld2
        refine wpAnyH_ready (rs := [3, 5]) (by kernel_rfl) (by simp) (AllReadyH.cons (at_drop (i := 3) rfl) (fun K2 hK => ?_) (AllReadyH.cons (at_drop (i := 5) rfl) (fun K2 hK => ?_) (AllReadyH.nil)))
        · go_simp
          refine (ntoRead_any rd rs _).mono ?_
          rintro e Z2 ⟨rfl, hb⟩
          go_wp2_with fail
          refine hK.out _ _ (hHeld.trans (hb.mono hHeld.size)) (fun hHeld2 => ?_)
          clear hK hHeld hb
          have hHeld := hHeld2
          clear hHeld2
          refine wpAnyH_ready (rs := [4, 5]) (by kernel_rfl) (by simp) (AllReadyH.cons (at_drop (i := 4) rfl) (fun K2 hK => ?_) (AllReadyH.cons (at_drop (i := 5) rfl) (fun K2 hK => ?_) (AllReadyH.nil)))
          · go_simp
            refine (implRead_any m rd rs _ ((HG.out.below BW3.out).below hHeld)).mono ?_
            rintro e Z3 ⟨hE, hb⟩
            obtain ⟨aN, cN, rfl, hown⟩ := hE.tell
            rw [← HX.out, ← HN.out, ← Hx.out]
            rw [← HN.out, ← HU.out] at hown
            have HOW := Lib.hid (hown.low hHeld.size)
            clear hE hown
            go_wp2_with fail
            refine hK.out _ _ (hHeld.trans (hb.mono hHeld.size)) (fun hHeld2 => ?_)
            clear hK hHeld hb
            have hHeld := hHeld2
            clear hHeld2
            refine wpAnyH_ready (rs := [5]) (by kernel_rfl) (by simp) (AllReadyH.cons (at_drop (i := 5) rfl) (fun K2 hK => ?_) (AllReadyH.nil))
            obtain ⟨Z4, hZ4⟩ : ∃ Z4, Z4 = Z3.alloc (.cells #[.int .i64 0, .int .i64 0, .int .i64 0, .int .i64 0, .slice none 0 0, .int .i64 0] 29) := ⟨_, rfl⟩
            have hb : Below Z3.heap.size Z3 Z4 := by rw [hZ4]; exact nbel_alloc _ _
            have HV : Hid (Z4.rowIs Z3.heap.size 29 6 (rowN [.int .i64 0, .int .i64 0, .int .i64 0, .int .i64 0, .slice none 0 0, .int .i64 0])) := by show World.rowIs _ _ _ _ _; rw [hZ4]; exact rowN_alloc _ _ _
            obtain ⟨xb, hxb⟩ : ∃ xb, xb = Z3.heap.size := ⟨_, rfl⟩
            rw [← hxb] at HV
            have HXL : Hid (W3.heap.size ≤ xb) := by show _ ≤ _; rw [hxb]; exact hHeld.size
            have HOW2 := Lib.hid (HOW.out.below hb)
            clear HOW
            have HOW := HOW2
            clear HOW2
            go_simp
            rw [← hZ4, ← hxb]
            clear hZ4
            refine hK.out _ _ (hHeld.trans (hb.mono hHeld.size)) (fun hHeld2 => ?_)
            clear hK hHeld hxb hb
            have hHeld := hHeld2
            clear hHeld2
            have zr := mput6 HV.out rfl (.int .i64 X.d) (.int .i64 X.u) (.int .i64 X.day) (.int .i64 X.s) (.slice aN N cN) (.int .i64 x)
            have zk := fun (k : Nat) (hk : k ≠ xb) => mblk6 (W := Z4) hk (.int .i64 X.d) (.int .i64 X.u) (.int .i64 X.day) (.int .i64 X.s) (.slice aN N cN) (.int .i64 x)
            have zb := mbel6 (g := xb) hHeld HXL.out (.int .i64 X.d) (.int .i64 X.u) (.int .i64 X.day) (.int .i64 X.s) (.slice aN N cN) (.int .i64 x)
            obtain ⟨⟨o0, o1, o2, o3, o4, o5⟩, z0, z1, z2, z3, z4, z5⟩ := rowN6 HV.out
            have hol := HV.out.lt
            refine take_call (i := 6) rfl (by kernel_rfl) (fun K2 hK => ?_)
            go_simp
            clear o0 o1 o2 o3 o4 o5 z0 z1 z2 z3 z4 z5
            have zo : UsOwn W3.heap.size N aN cN U _ := HOW.out.same (fun k e _ => zk k (HOW.out.ne HV.out e))
            generalize ((((((Z4).setCell ⟨xb, 0, none⟩ (.int .i64 X.d)).setCell ⟨xb, 1, none⟩ (.int .i64 X.u)).setCell ⟨xb, 2, none⟩ (.int .i64 X.day)).setCell ⟨xb, 3, none⟩ (.int .i64 X.s)).setCell ⟨xb, 4, none⟩ (.slice aN N cN)).setCell ⟨xb, 5, none⟩ (.int .i64 x) = Y at zr zk zb zo ⊢
            refine hK.out _ _ zb (fun hHeld2 => ?_)
            clear hK hHeld hHeld2
            refine wpAnyH_done (by kernel_rfl) ?_ _
            have HPR : Hid (PrM W3 X N x U xb aN cN Y) := ⟨zb, zr, zo, HXL.out⟩
            clear zo
            clear zr zk zb
            go_wp2_with fail
            go_meet
            case rel => exact ⟨xb, aN, cN, rfl, HPR⟩
          · obtain ⟨Z3, hZ3⟩ : ∃ Z3, Z3 = Z2.alloc (.cells #[.int .i64 0, .int .i64 0, .int .i64 0, .int .i64 0, .slice none 0 0, .int .i64 0] 29) := ⟨_, rfl⟩
            have hb : Below Z2.heap.size Z2 Z3 := by rw [hZ3]; exact nbel_alloc _ _
            have HV : Hid (Z3.rowIs Z2.heap.size 29 6 (rowN [.int .i64 0, .int .i64 0, .int .i64 0, .int .i64 0, .slice none 0 0, .int .i64 0])) := by show World.rowIs _ _ _ _ _; rw [hZ3]; exact rowN_alloc _ _ _
            obtain ⟨xb, hxb⟩ : ∃ xb, xb = Z2.heap.size := ⟨_, rfl⟩
            rw [← hxb] at HV
            have HXL : Hid (W3.heap.size ≤ xb) := by show _ ≤ _; rw [hxb]; exact hHeld.size
            go_simp
            rw [← hZ3, ← hxb]
            clear hZ3
            refine hK.out _ _ (hHeld.trans (hb.mono hHeld.size)) (fun hHeld2 => ?_)
            clear hK hHeld hxb hb
            have hHeld := hHeld2
            clear hHeld2
            refine wpAnyH_ready (rs := [4]) (by kernel_rfl) (by simp) (AllReadyH.cons (at_drop (i := 4) rfl) (fun K2 hK => ?_) (AllReadyH.nil))
            go_simp
            refine (implRead_any m rd rs _ ((HG.out.below BW3.out).below hHeld)).mono ?_
            rintro e Z4 ⟨hE, hb⟩
            obtain ⟨aN, cN, rfl, hown⟩ := hE.tell
            rw [← HX.out, ← HN.out, ← Hx.out]
            rw [← HN.out, ← HU.out] at hown
            have HOW := Lib.hid (hown.low hHeld.size)
            clear hE hown
            have HV2 := Lib.hid (nrow_below HV.out hb)
            clear HV
            have HV := HV2
            clear HV2
            go_wp2_with fail
            refine hK.out _ _ (hHeld.trans (hb.mono hHeld.size)) (fun hHeld2 => ?_)
            clear hK hHeld hb
            have hHeld := hHeld2
            clear hHeld2
            have zr := mput6 HV.out rfl (.int .i64 X.d) (.int .i64 X.u) (.int .i64 X.day) (.int .i64 X.s) (.slice aN N cN) (.int .i64 x)
            have zk := fun (k : Nat) (hk : k ≠ xb) => mblk6 (W := Z4) hk (.int .i64 X.d) (.int .i64 X.u) (.int .i64 X.day) (.int .i64 X.s) (.slice aN N cN) (.int .i64 x)
            have zb := mbel6 (g := xb) hHeld HXL.out (.int .i64 X.d) (.int .i64 X.u) (.int .i64 X.day) (.int .i64 X.s) (.slice aN N cN) (.int .i64 x)
            obtain ⟨⟨o0, o1, o2, o3, o4, o5⟩, z0, z1, z2, z3, z4, z5⟩ := rowN6 HV.out
            have hol := HV.out.lt
            refine take_call (i := 6) rfl (by kernel_rfl) (fun K2 hK => ?_)
            go_simp
            clear o0 o1 o2 o3 o4 o5 z0 z1 z2 z3 z4 z5
            have zo : UsOwn W3.heap.size N aN cN U _ := HOW.out.same (fun k e _ => zk k (HOW.out.ne HV.out e))
            generalize ((((((Z4).setCell ⟨xb, 0, none⟩ (.int .i64 X.d)).setCell ⟨xb, 1, none⟩ (.int .i64 X.u)).setCell ⟨xb, 2, none⟩ (.int .i64 X.day)).setCell ⟨xb, 3, none⟩ (.int .i64 X.s)).setCell ⟨xb, 4, none⟩ (.slice aN N cN)).setCell ⟨xb, 5, none⟩ (.int .i64 x) = Y at zr zk zb zo ⊢
            refine hK.out _ _ zb (fun hHeld2 => ?_)
            clear hK hHeld hHeld2
            refine wpAnyH_done (by kernel_rfl) ?_ _
            have HPR : Hid (PrM W3 X N x U xb aN cN Y) := ⟨zb, zr, zo, HXL.out⟩
            clear zo
            clear zr zk zb
            go_wp2_with fail
            go_meet
            case rel => exact ⟨xb, aN, cN, rfl, HPR⟩
        · obtain ⟨Z2, hZ2⟩ : ∃ Z2, Z2 = Z1.alloc (.cells #[.int .i64 0, .int .i64 0, .int .i64 0, .int .i64 0, .slice none 0 0, .int .i64 0] 29) := ⟨_, rfl⟩
          have hb : Below Z1.heap.size Z1 Z2 := by rw [hZ2]; exact nbel_alloc _ _
          have HV : Hid (Z2.rowIs Z1.heap.size 29 6 (rowN [.int .i64 0, .int .i64 0, .int .i64 0, .int .i64 0, .slice none 0 0, .int .i64 0])) := by show World.rowIs _ _ _ _ _; rw [hZ2]; exact rowN_alloc _ _ _
          obtain ⟨xb, hxb⟩ : ∃ xb, xb = Z1.heap.size := ⟨_, rfl⟩
          rw [← hxb] at HV
          have HXL : Hid (W3.heap.size ≤ xb) := by show _ ≤ _; rw [hxb]; exact hHeld.size
          go_simp
          rw [← hZ2, ← hxb]
          clear hZ2
          refine hK.out _ _ (hHeld.trans (hb.mono hHeld.size)) (fun hHeld2 => ?_)
          clear hK hHeld hxb hb
          have hHeld := hHeld2
          clear hHeld2
          refine wpAnyH_ready (rs := [3]) (by kernel_rfl) (by simp) (AllReadyH.cons (at_drop (i := 3) rfl) (fun K2 hK => ?_) (AllReadyH.nil))
          go_simp
          refine (ntoRead_any rd rs _).mono ?_
          rintro e Z3 ⟨rfl, hb⟩
          have HV2 := Lib.hid (nrow_below HV.out hb)
          clear HV
          have HV := HV2
          clear HV2
          go_wp2_with fail
          refine hK.out _ _ (hHeld.trans (hb.mono hHeld.size)) (fun hHeld2 => ?_)
          clear hK hHeld hb
          have hHeld := hHeld2
          clear hHeld2
          refine wpAnyH_ready (rs := [4]) (by kernel_rfl) (by simp) (AllReadyH.cons (at_drop (i := 4) rfl) (fun K2 hK => ?_) (AllReadyH.nil))
          go_simp
          refine (implRead_any m rd rs _ ((HG.out.below BW3.out).below hHeld)).mono ?_
          rintro e Z4 ⟨hE, hb⟩
          obtain ⟨aN, cN, rfl, hown⟩ := hE.tell
          rw [← HX.out, ← HN.out, ← Hx.out]
          rw [← HN.out, ← HU.out] at hown
          have HOW := Lib.hid (hown.low hHeld.size)
          clear hE hown
          have HV2 := Lib.hid (nrow_below HV.out hb)
          clear HV
          have HV := HV2
          clear HV2
          go_wp2_with fail
          refine hK.out _ _ (hHeld.trans (hb.mono hHeld.size)) (fun hHeld2 => ?_)
          clear hK hHeld hb
          have hHeld := hHeld2
          clear hHeld2
          have zr := mput6 HV.out rfl (.int .i64 X.d) (.int .i64 X.u) (.int .i64 X.day) (.int .i64 X.s) (.slice aN N cN) (.int .i64 x)
          have zk := fun (k : Nat) (hk : k ≠ xb) => mblk6 (W := Z4) hk (.int .i64 X.d) (.int .i64 X.u) (.int .i64 X.day) (.int .i64 X.s) (.slice aN N cN) (.int .i64 x)
          have zb := mbel6 (g := xb) hHeld HXL.out (.int .i64 X.d) (.int .i64 X.u) (.int .i64 X.day) (.int .i64 X.s) (.slice aN N cN) (.int .i64 x)
          obtain ⟨⟨o0, o1, o2, o3, o4, o5⟩, z0, z1, z2, z3, z4, z5⟩ := rowN6 HV.out
          have hol := HV.out.lt
          refine take_call (i := 6) rfl (by kernel_rfl) (fun K2 hK => ?_)
          go_simp
          clear o0 o1 o2 o3 o4 o5 z0 z1 z2 z3 z4 z5
          have zo : UsOwn W3.heap.size N aN cN U _ := HOW.out.same (fun k e _ => zk k (HOW.out.ne HV.out e))
          generalize ((((((Z4).setCell ⟨xb, 0, none⟩ (.int .i64 X.d)).setCell ⟨xb, 1, none⟩ (.int .i64 X.u)).setCell ⟨xb, 2, none⟩ (.int .i64 X.day)).setCell ⟨xb, 3, none⟩ (.int .i64 X.s)).setCell ⟨xb, 4, none⟩ (.slice aN N cN)).setCell ⟨xb, 5, none⟩ (.int .i64 x) = Y at zr zk zb zo ⊢
          refine hK.out _ _ zb (fun hHeld2 => ?_)
          clear hK hHeld hHeld2
          refine wpAnyH_done (by kernel_rfl) ?_ _
          have HPR : Hid (PrM W3 X N x U xb aN cN Y) := ⟨zb, zr, zo, HXL.out⟩
          clear zo
          clear zr zk zb
          go_wp2_with fail
          go_meet
          case rel => exact ⟨xb, aN, cN, rfl, HPR⟩
      · obtain ⟨Z1, hZ1⟩ : ∃ Z1, Z1 = Z.alloc (.cells #[.int .i64 0, .int .i64 0, .int .i64 0, .int .i64 0, .slice none 0 0, .int .i64 0] 29) := ⟨_, rfl⟩
        have hb : Below Z.heap.size Z Z1 := by rw [hZ1]; exact nbel_alloc _ _
        have HV : Hid (Z1.rowIs Z.heap.size 29 6 (rowN [.int .i64 0, .int .i64 0, .int .i64 0, .int .i64 0, .slice none 0 0, .int .i64 0])) := by show World.rowIs _ _ _ _ _; rw [hZ1]; exact rowN_alloc _ _ _
        obtain ⟨xb, hxb⟩ : ∃ xb, xb = Z.heap.size := ⟨_, rfl⟩
        rw [← hxb] at HV
        have HXL : Hid (W3.heap.size ≤ xb) := by show _ ≤ _; rw [hxb]; exact hHeld.size
        go_simp
        rw [← hZ1, ← hxb]
        clear hZ1
        refine hK.out _ _ (hHeld.trans (hb.mono hHeld.size)) (fun hHeld2 => ?_)
        clear hK hHeld hxb hb
        have hHeld := hHeld2
        clear hHeld2
        refine wpAnyH_ready (rs := [1]) (by kernel_rfl) (by simp) (AllReadyH.cons (at_drop (i := 1) rfl) (fun K2 hK => ?_) (AllReadyH.nil))
        go_simp
        refine (toMeter_any m _).mono ?_
        rintro e Z2 ⟨rfl, hb⟩
        have HV2 := Lib.hid (nrow_below HV.out hb)
        clear HV
        have HV := HV2
        clear HV2
        go_wp2_with fail
        refine hK.out _ _ (hHeld.trans (hb.mono hHeld.size)) (fun hHeld2 => ?_)
        clear hK hHeld hb
        have hHeld := hHeld2
        clear hHeld2
        refine wpAnyH_ready (rs := [3]) (by kernel_rfl) (by simp) (AllReadyH.cons (at_drop (i := 3) rfl) (fun K2 hK => ?_) (AllReadyH.nil))
        go_simp
        refine (ntoRead_any rd rs _).mono ?_
        rintro e Z3 ⟨rfl, hb⟩
        have HV2 := Lib.hid (nrow_below HV.out hb)
        clear HV
        have HV := HV2
        clear HV2
        go_wp2_with fail
        refine hK.out _ _ (hHeld.trans (hb.mono hHeld.size)) (fun hHeld2 => ?_)
        clear hK hHeld hb
        have hHeld := hHeld2
        clear hHeld2
        refine wpAnyH_ready (rs := [4]) (by kernel_rfl) (by simp) (AllReadyH.cons (at_drop (i := 4) rfl) (fun K2 hK => ?_) (AllReadyH.nil))
        go_simp
        refine (implRead_any m rd rs _ ((HG.out.below BW3.out).below hHeld)).mono ?_
        rintro e Z4 ⟨hE, hb⟩
        obtain ⟨aN, cN, rfl, hown⟩ := hE.tell
        rw [← HX.out, ← HN.out, ← Hx.out]
        rw [← HN.out, ← HU.out] at hown
        have HOW := Lib.hid (hown.low hHeld.size)
        clear hE hown
        have HV2 := Lib.hid (nrow_below HV.out hb)
        clear HV
        have HV := HV2
        clear HV2
        go_wp2_with fail
        refine hK.out _ _ (hHeld.trans (hb.mono hHeld.size)) (fun hHeld2 => ?_)
        clear hK hHeld hb
        have hHeld := hHeld2
        clear hHeld2
        have zr := mput6 HV.out rfl (.int .i64 X.d) (.int .i64 X.u) (.int .i64 X.day) (.int .i64 X.s) (.slice aN N cN) (.int .i64 x)
        have zk := fun (k : Nat) (hk : k ≠ xb) => mblk6 (W := Z4) hk (.int .i64 X.d) (.int .i64 X.u) (.int .i64 X.day) (.int .i64 X.s) (.slice aN N cN) (.int .i64 x)
        have zb := mbel6 (g := xb) hHeld HXL.out (.int .i64 X.d) (.int .i64 X.u) (.int .i64 X.day) (.int .i64 X.s) (.slice aN N cN) (.int .i64 x)
        obtain ⟨⟨o0, o1, o2, o3, o4, o5⟩, z0, z1, z2, z3, z4, z5⟩ := rowN6 HV.out
        have hol := HV.out.lt
        refine take_call (i := 6) rfl (by kernel_rfl) (fun K2 hK => ?_)
        go_simp
        clear o0 o1 o2 o3 o4 o5 z0 z1 z2 z3 z4 z5
        have zo : UsOwn W3.heap.size N aN cN U _ := HOW.out.same (fun k e _ => zk k (HOW.out.ne HV.out e))
        generalize ((((((Z4).setCell ⟨xb, 0, none⟩ (.int .i64 X.d)).setCell ⟨xb, 1, none⟩ (.int .i64 X.u)).setCell ⟨xb, 2, none⟩ (.int .i64 X.day)).setCell ⟨xb, 3, none⟩ (.int .i64 X.s)).setCell ⟨xb, 4, none⟩ (.slice aN N cN)).setCell ⟨xb, 5, none⟩ (.int .i64 x) = Y at zr zk zb zo ⊢
        refine hK.out _ _ zb (fun hHeld2 => ?_)
        clear hK hHeld hHeld2
        refine wpAnyH_done (by kernel_rfl) ?_ _
        have HPR : Hid (PrM W3 X N x U xb aN cN Y) := ⟨zb, zr, zo, HXL.out⟩
        clear zo
        clear zr zk zb
        go_wp2_with fail
        go_meet
        case rel => exact ⟨xb, aN, cN, rfl, HPR⟩
    case rest =>
      obtain ⟨s6, a6, c6, rfl, hPR⟩ := hcut
      obtain ⟨W5, hW5⟩ : ∃ W5, W5 = wc := ⟨_, rfl⟩
      rw [← hW5] at hPR ⊢
      clear hW5
      have LS0 : Hid (Lm w.heap.size h6 (fun V => V.rowIs w.heap.size 23 4 (rowN (mtL m)) ∧ V.rowIs (w.heap.size + 1) 25 2 (rowN [.int .i64 rd, .int .i64 rs])) X N x s5 a5 c5 s6 a6 c6 U (U) w W5) := by
        have b := hPR.out.bel
        have q := P5.out
        have hw := BW.out.size
        refine ⟨⟨nrow_below ARG3.out.1 b, nrow_below ARG3.out.2 b⟩, nrow_below q.row b, (q.own.low hw).below b, hPR.out.row, by rw [H6.out]; exact hPR.out.own, ⟨Nat.le_trans hw q.lo, by rw [H6.out]; exact q.row.lt, by rw [H6.out]; exact hPR.out.lo, fun k e => by rw [H6.out]; exact (q.own.lt e).2⟩, BW3.out.trans (b.mono BW3.out.size)⟩
      have hst : Stb h6 (fun V => V.rowIs w.heap.size 23 4 (rowN (mtL m)) ∧ V.rowIs (w.heap.size + 1) 25 2 (rowN [.int .i64 rd, .int .i64 rs])) := HSB.out h6 (by have h1 := HWL.out; have h2 := P5.out.lo; have h3 := P5.out.row.lt; rw [H6.out]; omega)
      have HST := Lib.hid hst
      clear hPR P5 ARG3 BW3 H6 HWL hst
      obtain ⟨⟨y0, y1, y2, y3, y4, y5⟩, _⟩ := rowN6 LS0.out.r6
      obtain ⟨⟨u0, u1, u2, u3, u4, u5⟩, _⟩ := rowN6 LS0.out.r5
      go_wp2_with fail
      clear y0 y1 y2 y3 y4 y5 u0 u1 u2 u3 u4 u5
      refine (eqMeterOut_same X a6 a5 N c6 c5 x U _ LS0.out.t6.at_ LS0.out.t5.at_ HN1.out).mono ?_
      rintro e w6 ⟨rfl, hb⟩
      have LS1 : Hid (Lm w.heap.size h6 (fun V => V.rowIs w.heap.size 23 4 (rowN (mtL m)) ∧ V.rowIs (w.heap.size + 1) 25 2 (rowN [.int .i64 rd, .int .i64 rs])) X N x s5 a5 c5 s6 a6 c6 U (U) w w6) := LS0.out.below HST.out hb
      clear hb LS0
      obtain ⟨⟨y0, y1, y2, y3, y4, y5⟩, _⟩ := rowN6 LS1.out.r6
      go_wp2_with fail
      clear y0 y1 y2 y3 y4 y5
      refine (markMeterOut_any X x _ LS1.out.t6 HN1.out).mono ?_
      rintro e w7 ⟨rfl, hm, hk, hr⟩
      have LS2 : Hid (Lm w.heap.size h6 (fun V => V.rowIs w.heap.size 23 4 (rowN (mtL m)) ∧ V.rowIs (w.heap.size + 1) 25 2 (rowN [.int .i64 rd, .int .i64 rs])) X N x s5 a5 c5 s6 a6 c6 U (mk1 1) w w7) := LS1.out.mark HST.out hm hk hr
      clear hm hk hr LS1
      obtain ⟨Q, hQ⟩ : ∃ Q : Nat, Q = 1 + N * 4 := ⟨_, rfl⟩
      have HQ : Hid (1 + N * 4 = Q) := hQ.symm
      rw [← hQ]
      have hQ0 : ¬ (Q : Int) < 0 := by omega
      have hQQ : ((Q : Int) != (Q : Int)) = false := by simp
      clear hQ
      obtain ⟨⟨y0, y1, y2, y3, y4, y5⟩, _⟩ := rowN6 LS2.out.r6
      go_wp2_with fail
      clear y0 y1 y2 y3 y4 y5
      refine (heldMeterOut_any X x _ LS2.out.t6 HN1.out).mono ?_
      rintro e w8 ⟨rfl, hb⟩
      rw [HQ.out]
      have LS3 : Hid (Lm w.heap.size h6 (fun V => V.rowIs w.heap.size 23 4 (rowN (mtL m)) ∧ V.rowIs (w.heap.size + 1) 25 2 (rowN [.int .i64 rd, .int .i64 rs])) X N x s5 a5 c5 s6 a6 c6 U (mk1 1) w w8) := LS2.out.below HST.out hb
      clear hb LS2
      go_wp2_with fail
      have BW8 := Lib.hid LS3.out.bel
      go_cut [9] (fun q Wq => ∃ xb aN cN, q = .pointer (some ⟨xb, 0, none⟩) ∧ Hid (PrM w8 X N x U xb aN cN Wq))
      case first =>
        refine wp_region_held_drew (S := fun V => Below w8.heap.size w8 V) (by kernel_rfl) (Below.refl _ _).drew (fun hHeld => ?_)
        obtain ⟨Z, hZ⟩ : ∃ Z, Z = w8.drew := ⟨_, rfl⟩
        rw [← hZ] at hHeld ⊢
        clear hZ
        refine take_do (i := 0) (v := (mtV m)) rfl (by kernel_rfl) (by kernel_rfl) (by kernel_rfl) (fun _ _ _ h => h) (by rfl) ?_ (by assumption) ?_
        · intro w hSw
          obtain ⟨⟨a0, a1, a2, a3⟩, _⟩ := rowN4 (nrow_below LS3.out.a.1 hSw)
          obtain ⟨⟨b0, b1⟩, _⟩ := rowN2 (nrow_below LS3.out.a.2 hSw)
          go_simp
        simp only [Act.put, List.setIfInBounds_toArray, List.set_cons_zero, List.set_cons_succ]
        refine take_do (i := 2) (v := (.agg #[.int .i64 rd, .int .i64 rs])) rfl (by kernel_rfl) (by kernel_rfl) (by kernel_rfl) (fun _ _ _ h => h) (by rfl) ?_ (by assumption) ?_
        · intro w hSw
          obtain ⟨⟨a0, a1, a2, a3⟩, _⟩ := rowN4 (nrow_below LS3.out.a.1 hSw)
          obtain ⟨⟨b0, b1⟩, _⟩ := rowN2 (nrow_below LS3.out.a.2 hSw)
          go_simp
        simp only [Act.put, List.setIfInBounds_toArray, List.set_cons_zero, List.set_cons_succ]
        refine wpAnyH_ready (rs := [1, 5]) (by kernel_rfl) (by simp) (AllReadyH.cons (at_drop (i := 1) rfl) (fun K2 hK => ?_) (AllReadyH.cons (at_drop (i := 5) rfl) (fun K2 hK => ?_) (AllReadyH.nil)))
        · go_simp
          refine (toMeter_any m _).mono ?_
          rintro e Z1 ⟨rfl, hb⟩
          go_wp2_with fail
          refine hK.out _ _ (hHeld.trans (hb.mono hHeld.size)) (fun hHeld2 => ?_)
          clear hK hHeld hb
          have hHeld := hHeld2
          clear hHeld2
          refine wpAnyH_ready (rs := [3, 5]) (by kernel_rfl) (by simp) (AllReadyH.cons (at_drop (i := 3) rfl) (fun K2 hK => ?_) (AllReadyH.cons (at_drop (i := 5) rfl) (fun K2 hK => ?_) (AllReadyH.nil)))
          · go_simp
            refine (ntoRead_any rd rs _).mono ?_
            rintro e Z2 ⟨rfl, hb⟩
            go_wp2_with fail
            refine hK.out _ _ (hHeld.trans (hb.mono hHeld.size)) (fun hHeld2 => ?_)
            clear hK hHeld hb
            have hHeld := hHeld2
            clear hHeld2
            refine wpAnyH_ready (rs := [4, 5]) (by kernel_rfl) (by simp) (AllReadyH.cons (at_drop (i := 4) rfl) (fun K2 hK => ?_) (AllReadyH.cons (at_drop (i := 5) rfl) (fun K2 hK => ?_) (AllReadyH.nil)))
            · go_simp
              refine (implRead_any m rd rs _ ((HG.out.below BW8.out).below hHeld)).mono ?_
              rintro e Z3 ⟨hE, hb⟩
              obtain ⟨aN, cN, rfl, hown⟩ := hE.tell
              rw [← HX.out, ← HN.out, ← Hx.out]
              rw [← HN.out, ← HU.out] at hown
              have HOW := Lib.hid (hown.low hHeld.size)
              clear hE hown
              go_wp2_with fail
              refine hK.out _ _ (hHeld.trans (hb.mono hHeld.size)) (fun hHeld2 => ?_)
              clear hK hHeld hb
              have hHeld := hHeld2
              clear hHeld2
              refine wpAnyH_ready (rs := [5]) (by kernel_rfl) (by simp) (AllReadyH.cons (at_drop (i := 5) rfl) (fun K2 hK => ?_) (AllReadyH.nil))
              obtain ⟨Z4, hZ4⟩ : ∃ Z4, Z4 = Z3.alloc (.cells #[.int .i64 0, .int .i64 0, .int .i64 0, .int .i64 0, .slice none 0 0, .int .i64 0] 29) := ⟨_, rfl⟩
              have hb : Below Z3.heap.size Z3 Z4 := by rw [hZ4]; exact nbel_alloc _ _
              have HV : Hid (Z4.rowIs Z3.heap.size 29 6 (rowN [.int .i64 0, .int .i64 0, .int .i64 0, .int .i64 0, .slice none 0 0, .int .i64 0])) := by show World.rowIs _ _ _ _ _; rw [hZ4]; exact rowN_alloc _ _ _
              obtain ⟨xb, hxb⟩ : ∃ xb, xb = Z3.heap.size := ⟨_, rfl⟩
              rw [← hxb] at HV
              have HXL : Hid (w8.heap.size ≤ xb) := by show _ ≤ _; rw [hxb]; exact hHeld.size
              have HOW2 := Lib.hid (HOW.out.below hb)
              clear HOW
              have HOW := HOW2
              clear HOW2
              go_simp
              rw [← hZ4, ← hxb]
              clear hZ4
              refine hK.out _ _ (hHeld.trans (hb.mono hHeld.size)) (fun hHeld2 => ?_)
              clear hK hHeld hxb hb
              have hHeld := hHeld2
              clear hHeld2
              have zr := mput6 HV.out rfl (.int .i64 X.d) (.int .i64 X.u) (.int .i64 X.day) (.int .i64 X.s) (.slice aN N cN) (.int .i64 x)
              have zk := fun (k : Nat) (hk : k ≠ xb) => mblk6 (W := Z4) hk (.int .i64 X.d) (.int .i64 X.u) (.int .i64 X.day) (.int .i64 X.s) (.slice aN N cN) (.int .i64 x)
              have zb := mbel6 (g := xb) hHeld HXL.out (.int .i64 X.d) (.int .i64 X.u) (.int .i64 X.day) (.int .i64 X.s) (.slice aN N cN) (.int .i64 x)
              obtain ⟨⟨o0, o1, o2, o3, o4, o5⟩, z0, z1, z2, z3, z4, z5⟩ := rowN6 HV.out
              have hol := HV.out.lt
              refine take_call (i := 6) rfl (by kernel_rfl) (fun K2 hK => ?_)
              go_simp
              clear o0 o1 o2 o3 o4 o5 z0 z1 z2 z3 z4 z5
              have zo : UsOwn w8.heap.size N aN cN U _ := HOW.out.same (fun k e _ => zk k (HOW.out.ne HV.out e))
              generalize ((((((Z4).setCell ⟨xb, 0, none⟩ (.int .i64 X.d)).setCell ⟨xb, 1, none⟩ (.int .i64 X.u)).setCell ⟨xb, 2, none⟩ (.int .i64 X.day)).setCell ⟨xb, 3, none⟩ (.int .i64 X.s)).setCell ⟨xb, 4, none⟩ (.slice aN N cN)).setCell ⟨xb, 5, none⟩ (.int .i64 x) = Y at zr zk zb zo ⊢
              refine hK.out _ _ zb (fun hHeld2 => ?_)
              clear hK hHeld hHeld2
              refine wpAnyH_done (by kernel_rfl) ?_ _
              have HPR : Hid (PrM w8 X N x U xb aN cN Y) := ⟨zb, zr, zo, HXL.out⟩
              clear zo
              clear zr zk zb
              go_wp2_with fail
              go_meet
              case rel => exact ⟨xb, aN, cN, rfl, HPR⟩
            · obtain ⟨Z3, hZ3⟩ : ∃ Z3, Z3 = Z2.alloc (.cells #[.int .i64 0, .int .i64 0, .int .i64 0, .int .i64 0, .slice none 0 0, .int .i64 0] 29) := ⟨_, rfl⟩
              have hb : Below Z2.heap.size Z2 Z3 := by rw [hZ3]; exact nbel_alloc _ _
              have HV : Hid (Z3.rowIs Z2.heap.size 29 6 (rowN [.int .i64 0, .int .i64 0, .int .i64 0, .int .i64 0, .slice none 0 0, .int .i64 0])) := by show World.rowIs _ _ _ _ _; rw [hZ3]; exact rowN_alloc _ _ _
              obtain ⟨xb, hxb⟩ : ∃ xb, xb = Z2.heap.size := ⟨_, rfl⟩
              rw [← hxb] at HV
              have HXL : Hid (w8.heap.size ≤ xb) := by show _ ≤ _; rw [hxb]; exact hHeld.size
              go_simp
              rw [← hZ3, ← hxb]
              clear hZ3
              refine hK.out _ _ (hHeld.trans (hb.mono hHeld.size)) (fun hHeld2 => ?_)
              clear hK hHeld hxb hb
              have hHeld := hHeld2
              clear hHeld2
              refine wpAnyH_ready (rs := [4]) (by kernel_rfl) (by simp) (AllReadyH.cons (at_drop (i := 4) rfl) (fun K2 hK => ?_) (AllReadyH.nil))
              go_simp
              refine (implRead_any m rd rs _ ((HG.out.below BW8.out).below hHeld)).mono ?_
              rintro e Z4 ⟨hE, hb⟩
              obtain ⟨aN, cN, rfl, hown⟩ := hE.tell
              rw [← HX.out, ← HN.out, ← Hx.out]
              rw [← HN.out, ← HU.out] at hown
              have HOW := Lib.hid (hown.low hHeld.size)
              clear hE hown
              have HV2 := Lib.hid (nrow_below HV.out hb)
              clear HV
              have HV := HV2
              clear HV2
              go_wp2_with fail
              refine hK.out _ _ (hHeld.trans (hb.mono hHeld.size)) (fun hHeld2 => ?_)
              clear hK hHeld hb
              have hHeld := hHeld2
              clear hHeld2
              have zr := mput6 HV.out rfl (.int .i64 X.d) (.int .i64 X.u) (.int .i64 X.day) (.int .i64 X.s) (.slice aN N cN) (.int .i64 x)
              have zk := fun (k : Nat) (hk : k ≠ xb) => mblk6 (W := Z4) hk (.int .i64 X.d) (.int .i64 X.u) (.int .i64 X.day) (.int .i64 X.s) (.slice aN N cN) (.int .i64 x)
              have zb := mbel6 (g := xb) hHeld HXL.out (.int .i64 X.d) (.int .i64 X.u) (.int .i64 X.day) (.int .i64 X.s) (.slice aN N cN) (.int .i64 x)
              obtain ⟨⟨o0, o1, o2, o3, o4, o5⟩, z0, z1, z2, z3, z4, z5⟩ := rowN6 HV.out
              have hol := HV.out.lt
              refine take_call (i := 6) rfl (by kernel_rfl) (fun K2 hK => ?_)
              go_simp
              clear o0 o1 o2 o3 o4 o5 z0 z1 z2 z3 z4 z5
              have zo : UsOwn w8.heap.size N aN cN U _ := HOW.out.same (fun k e _ => zk k (HOW.out.ne HV.out e))
              generalize ((((((Z4).setCell ⟨xb, 0, none⟩ (.int .i64 X.d)).setCell ⟨xb, 1, none⟩ (.int .i64 X.u)).setCell ⟨xb, 2, none⟩ (.int .i64 X.day)).setCell ⟨xb, 3, none⟩ (.int .i64 X.s)).setCell ⟨xb, 4, none⟩ (.slice aN N cN)).setCell ⟨xb, 5, none⟩ (.int .i64 x) = Y at zr zk zb zo ⊢
              refine hK.out _ _ zb (fun hHeld2 => ?_)
              clear hK hHeld hHeld2
              refine wpAnyH_done (by kernel_rfl) ?_ _
              have HPR : Hid (PrM w8 X N x U xb aN cN Y) := ⟨zb, zr, zo, HXL.out⟩
              clear zo
              clear zr zk zb
              go_wp2_with fail
              go_meet
              case rel => exact ⟨xb, aN, cN, rfl, HPR⟩
          · obtain ⟨Z2, hZ2⟩ : ∃ Z2, Z2 = Z1.alloc (.cells #[.int .i64 0, .int .i64 0, .int .i64 0, .int .i64 0, .slice none 0 0, .int .i64 0] 29) := ⟨_, rfl⟩
            have hb : Below Z1.heap.size Z1 Z2 := by rw [hZ2]; exact nbel_alloc _ _
            have HV : Hid (Z2.rowIs Z1.heap.size 29 6 (rowN [.int .i64 0, .int .i64 0, .int .i64 0, .int .i64 0, .slice none 0 0, .int .i64 0])) := by show World.rowIs _ _ _ _ _; rw [hZ2]; exact rowN_alloc _ _ _
            obtain ⟨xb, hxb⟩ : ∃ xb, xb = Z1.heap.size := ⟨_, rfl⟩
            rw [← hxb] at HV
            have HXL : Hid (w8.heap.size ≤ xb) := by show _ ≤ _; rw [hxb]; exact hHeld.size
            go_simp
            rw [← hZ2, ← hxb]
            clear hZ2
            refine hK.out _ _ (hHeld.trans (hb.mono hHeld.size)) (fun hHeld2 => ?_)
            clear hK hHeld hxb hb
            have hHeld := hHeld2
            clear hHeld2
            refine wpAnyH_ready (rs := [3]) (by kernel_rfl) (by simp) (AllReadyH.cons (at_drop (i := 3) rfl) (fun K2 hK => ?_) (AllReadyH.nil))
            go_simp
            refine (ntoRead_any rd rs _).mono ?_
            rintro e Z3 ⟨rfl, hb⟩
            have HV2 := Lib.hid (nrow_below HV.out hb)
            clear HV
            have HV := HV2
            clear HV2
            go_wp2_with fail
            refine hK.out _ _ (hHeld.trans (hb.mono hHeld.size)) (fun hHeld2 => ?_)
            clear hK hHeld hb
            have hHeld := hHeld2
            clear hHeld2
            refine wpAnyH_ready (rs := [4]) (by kernel_rfl) (by simp) (AllReadyH.cons (at_drop (i := 4) rfl) (fun K2 hK => ?_) (AllReadyH.nil))
            go_simp
            refine (implRead_any m rd rs _ ((HG.out.below BW8.out).below hHeld)).mono ?_
            rintro e Z4 ⟨hE, hb⟩
            obtain ⟨aN, cN, rfl, hown⟩ := hE.tell
            rw [← HX.out, ← HN.out, ← Hx.out]
            rw [← HN.out, ← HU.out] at hown
            have HOW := Lib.hid (hown.low hHeld.size)
            clear hE hown
            have HV2 := Lib.hid (nrow_below HV.out hb)
            clear HV
            have HV := HV2
            clear HV2
            go_wp2_with fail
            refine hK.out _ _ (hHeld.trans (hb.mono hHeld.size)) (fun hHeld2 => ?_)
            clear hK hHeld hb
            have hHeld := hHeld2
            clear hHeld2
            have zr := mput6 HV.out rfl (.int .i64 X.d) (.int .i64 X.u) (.int .i64 X.day) (.int .i64 X.s) (.slice aN N cN) (.int .i64 x)
            have zk := fun (k : Nat) (hk : k ≠ xb) => mblk6 (W := Z4) hk (.int .i64 X.d) (.int .i64 X.u) (.int .i64 X.day) (.int .i64 X.s) (.slice aN N cN) (.int .i64 x)
            have zb := mbel6 (g := xb) hHeld HXL.out (.int .i64 X.d) (.int .i64 X.u) (.int .i64 X.day) (.int .i64 X.s) (.slice aN N cN) (.int .i64 x)
            obtain ⟨⟨o0, o1, o2, o3, o4, o5⟩, z0, z1, z2, z3, z4, z5⟩ := rowN6 HV.out
            have hol := HV.out.lt
            refine take_call (i := 6) rfl (by kernel_rfl) (fun K2 hK => ?_)
            go_simp
            clear o0 o1 o2 o3 o4 o5 z0 z1 z2 z3 z4 z5
            have zo : UsOwn w8.heap.size N aN cN U _ := HOW.out.same (fun k e _ => zk k (HOW.out.ne HV.out e))
            generalize ((((((Z4).setCell ⟨xb, 0, none⟩ (.int .i64 X.d)).setCell ⟨xb, 1, none⟩ (.int .i64 X.u)).setCell ⟨xb, 2, none⟩ (.int .i64 X.day)).setCell ⟨xb, 3, none⟩ (.int .i64 X.s)).setCell ⟨xb, 4, none⟩ (.slice aN N cN)).setCell ⟨xb, 5, none⟩ (.int .i64 x) = Y at zr zk zb zo ⊢
            refine hK.out _ _ zb (fun hHeld2 => ?_)
            clear hK hHeld hHeld2
            refine wpAnyH_done (by kernel_rfl) ?_ _
            have HPR : Hid (PrM w8 X N x U xb aN cN Y) := ⟨zb, zr, zo, HXL.out⟩
            clear zo
            clear zr zk zb
            go_wp2_with fail
            go_meet
            case rel => exact ⟨xb, aN, cN, rfl, HPR⟩
        · obtain ⟨Z1, hZ1⟩ : ∃ Z1, Z1 = Z.alloc (.cells #[.int .i64 0, .int .i64 0, .int .i64 0, .int .i64 0, .slice none 0 0, .int .i64 0] 29) := ⟨_, rfl⟩
          have hb : Below Z.heap.size Z Z1 := by rw [hZ1]; exact nbel_alloc _ _
          have HV : Hid (Z1.rowIs Z.heap.size 29 6 (rowN [.int .i64 0, .int .i64 0, .int .i64 0, .int .i64 0, .slice none 0 0, .int .i64 0])) := by show World.rowIs _ _ _ _ _; rw [hZ1]; exact rowN_alloc _ _ _
          obtain ⟨xb, hxb⟩ : ∃ xb, xb = Z.heap.size := ⟨_, rfl⟩
          rw [← hxb] at HV
          have HXL : Hid (w8.heap.size ≤ xb) := by show _ ≤ _; rw [hxb]; exact hHeld.size
          go_simp
          rw [← hZ1, ← hxb]
          clear hZ1
          refine hK.out _ _ (hHeld.trans (hb.mono hHeld.size)) (fun hHeld2 => ?_)
          clear hK hHeld hxb hb
          have hHeld := hHeld2
          clear hHeld2
          refine wpAnyH_ready (rs := [1]) (by kernel_rfl) (by simp) (AllReadyH.cons (at_drop (i := 1) rfl) (fun K2 hK => ?_) (AllReadyH.nil))
          go_simp
          refine (toMeter_any m _).mono ?_
          rintro e Z2 ⟨rfl, hb⟩
          have HV2 := Lib.hid (nrow_below HV.out hb)
          clear HV
          have HV := HV2
          clear HV2
          go_wp2_with fail
          refine hK.out _ _ (hHeld.trans (hb.mono hHeld.size)) (fun hHeld2 => ?_)
          clear hK hHeld hb
          have hHeld := hHeld2
          clear hHeld2
          refine wpAnyH_ready (rs := [3]) (by kernel_rfl) (by simp) (AllReadyH.cons (at_drop (i := 3) rfl) (fun K2 hK => ?_) (AllReadyH.nil))
          go_simp
          refine (ntoRead_any rd rs _).mono ?_
          rintro e Z3 ⟨rfl, hb⟩
          have HV2 := Lib.hid (nrow_below HV.out hb)
          clear HV
          have HV := HV2
          clear HV2
          go_wp2_with fail
          refine hK.out _ _ (hHeld.trans (hb.mono hHeld.size)) (fun hHeld2 => ?_)
          clear hK hHeld hb
          have hHeld := hHeld2
          clear hHeld2
          refine wpAnyH_ready (rs := [4]) (by kernel_rfl) (by simp) (AllReadyH.cons (at_drop (i := 4) rfl) (fun K2 hK => ?_) (AllReadyH.nil))
          go_simp
          refine (implRead_any m rd rs _ ((HG.out.below BW8.out).below hHeld)).mono ?_
          rintro e Z4 ⟨hE, hb⟩
          obtain ⟨aN, cN, rfl, hown⟩ := hE.tell
          rw [← HX.out, ← HN.out, ← Hx.out]
          rw [← HN.out, ← HU.out] at hown
          have HOW := Lib.hid (hown.low hHeld.size)
          clear hE hown
          have HV2 := Lib.hid (nrow_below HV.out hb)
          clear HV
          have HV := HV2
          clear HV2
          go_wp2_with fail
          refine hK.out _ _ (hHeld.trans (hb.mono hHeld.size)) (fun hHeld2 => ?_)
          clear hK hHeld hb
          have hHeld := hHeld2
          clear hHeld2
          have zr := mput6 HV.out rfl (.int .i64 X.d) (.int .i64 X.u) (.int .i64 X.day) (.int .i64 X.s) (.slice aN N cN) (.int .i64 x)
          have zk := fun (k : Nat) (hk : k ≠ xb) => mblk6 (W := Z4) hk (.int .i64 X.d) (.int .i64 X.u) (.int .i64 X.day) (.int .i64 X.s) (.slice aN N cN) (.int .i64 x)
          have zb := mbel6 (g := xb) hHeld HXL.out (.int .i64 X.d) (.int .i64 X.u) (.int .i64 X.day) (.int .i64 X.s) (.slice aN N cN) (.int .i64 x)
          obtain ⟨⟨o0, o1, o2, o3, o4, o5⟩, z0, z1, z2, z3, z4, z5⟩ := rowN6 HV.out
          have hol := HV.out.lt
          refine take_call (i := 6) rfl (by kernel_rfl) (fun K2 hK => ?_)
          go_simp
          clear o0 o1 o2 o3 o4 o5 z0 z1 z2 z3 z4 z5
          have zo : UsOwn w8.heap.size N aN cN U _ := HOW.out.same (fun k e _ => zk k (HOW.out.ne HV.out e))
          generalize ((((((Z4).setCell ⟨xb, 0, none⟩ (.int .i64 X.d)).setCell ⟨xb, 1, none⟩ (.int .i64 X.u)).setCell ⟨xb, 2, none⟩ (.int .i64 X.day)).setCell ⟨xb, 3, none⟩ (.int .i64 X.s)).setCell ⟨xb, 4, none⟩ (.slice aN N cN)).setCell ⟨xb, 5, none⟩ (.int .i64 x) = Y at zr zk zb zo ⊢
          refine hK.out _ _ zb (fun hHeld2 => ?_)
          clear hK hHeld hHeld2
          refine wpAnyH_done (by kernel_rfl) ?_ _
          have HPR : Hid (PrM w8 X N x U xb aN cN Y) := ⟨zb, zr, zo, HXL.out⟩
          clear zo
          clear zr zk zb
          go_wp2_with fail
          go_meet
          case rel => exact ⟨xb, aN, cN, rfl, HPR⟩
      case rest =>
        obtain ⟨s9, a9, c9, rfl, hPR⟩ := hcut
        obtain ⟨W9, hW9⟩ : ∃ W9, W9 = wc := ⟨_, rfl⟩
        rw [← hW9] at hPR ⊢
        clear hW9
        have LS4 : Hid (Lm w.heap.size h6 (fun V => V.rowIs w.heap.size 23 4 (rowN (mtL m)) ∧ V.rowIs (w.heap.size + 1) 25 2 (rowN [.int .i64 rd, .int .i64 rs])) X N x s5 a5 c5 s6 a6 c6 U (mk1 1) w W9) := LS3.out.below HST.out hPR.out.bel
        have P9 := Lib.hid hPR.out
        clear hPR LS3 BW8
        obtain ⟨⟨y0, y1, y2, y3, y4, y5⟩, _⟩ := rowN6 P9.out.row
        obtain ⟨⟨u0, u1, u2, u3, u4, u5⟩, _⟩ := rowN6 LS4.out.r5
        go_wp2_with fail
        clear y0 y1 y2 y3 y4 y5 u0 u1 u2 u3 u4 u5
        refine (eqMeterOut_same X a9 a5 N c9 c5 x U _ P9.out.own.at_ LS4.out.t5.at_ HN1.out).mono ?_
        rintro e w10 ⟨rfl, hb⟩
        have LS5 : Hid (Lm w.heap.size h6 (fun V => V.rowIs w.heap.size 23 4 (rowN (mtL m)) ∧ V.rowIs (w.heap.size + 1) 25 2 (rowN [.int .i64 rd, .int .i64 rs])) X N x s5 a5 c5 s6 a6 c6 U (mk1 1) w w10) := LS4.out.below HST.out hb
        clear hb LS4 P9
        obtain ⟨⟨y0, y1, y2, y3, y4, y5⟩, _⟩ := rowN6 LS5.out.r6
        go_wp2_with fail
        clear y0 y1 y2 y3 y4 y5
        refine (heldMeterOut_any X x _ LS5.out.t6 HN1.out).mono ?_
        rintro e w11 ⟨rfl, hb⟩
        rw [HQ.out]
        have LS6 : Hid (Lm w.heap.size h6 (fun V => V.rowIs w.heap.size 23 4 (rowN (mtL m)) ∧ V.rowIs (w.heap.size + 1) 25 2 (rowN [.int .i64 rd, .int .i64 rs])) X N x s5 a5 c5 s6 a6 c6 U (mk1 1) w w11) := LS5.out.below HST.out hb
        clear hb LS5
        go_wp2_with fail
        go_ret
        exact ⟨rfl, LS6.out.bel⟩
end Go.Proofs.YtjcdkaojdpcagaaDoor
