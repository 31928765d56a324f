/-
  The two regions of the draw of an account's entries that draw their order.
-/
import Derived.Test.YtnbnfifgajfomaaDoorBiDs
namespace Go.Proofs.YtnbnfifgajfomaaDoor
open Go Go.RowKit Go.Deep

theorem dwrap {x : Int} (h1 : -9223372036854775808 ≤ x) (h2 : x ≤ 9223372036854775807) : IntKind.i64.wrap x = x := by
  simp [IntKind.wrap, IntKind.bits, IntKind.signed]
  omega
theorem L_strong {P : Program} {ops : Array Oper} {Q : Exit → Act → World → Prop} {md : Region.Mode} {S S' : World → Prop} {st : Nat} (hS : ∀ w, S' w → S w) : ∀ (fuel : Nat) (listed : Array Bool) (a : Act) (w : World), wpL P md ops Q S' st fuel listed a w → wpL P md ops Q S st fuel listed a w
  | 0, _, _, _, h => h
  | fuel + 1, _, _, _, h => ⟨h.1, fun i hi => wpOp_mono (fun a' w' k => ⟨fun hne => hS _ (k.1 hne), L_strong hS fuel _ a' w' k.2⟩) (h.2 i hi)⟩
set_option maxRecDepth 100000 in
set_option maxHeartbeats 32000000 in
theorem bireg8 {w : World} (lv : Value) (n : Nat) (zs : List Int) (x0 x1 x2 x4 x5 x6 x7 x8 x9 x10 x11 x12 x13 x14 x15 x16 x17 x18 x19 x20 x21 x22 x23 x24 x25 x26 x27 x28 x29 x30 x31 x32 x33 x34 x35 x36 x37 x38 x39 x40 x41 x42 x43 x44 x45 x46 x47 x48 x49 x50 x51 x52 x53 x54 x55 x56 x57 x58 x59 x60 x61 x62 x63 x64 x65 x66 x67 x68 x69 x70 x71 x72 : Value) (ds : _) (Q : Exit → Act → World → Prop) (W0 : World)
    (HD : Hid (DaS lv n zs w W0)) (hP : ∀ c (a : Act) o v w, Q (.panic c) (a.put o v) w → Q (.panic c) a w)
    (hQ : ∀ (y26 y27 y28 y29 y30 y31 y32 y33 y34 : Value) (xb : Nat) (k m : Int) (WZ : World), Hid (DeS lv n zs xb k m w WZ) → Q .normal { tmps := #[x0, x1, x2, (.pointer (some ⟨w.heap.size, 0, none⟩)), x4, x5, (.pointer (some ⟨xb, 0, none⟩)), x7, x8, x9, x10, x11, x12, x13, x14, x15, x16, x17, x18, x19, x20, x21, x22, x23, x24, x25, y26, y27, y28, y29, y30, y31, y32, y33, y34, x35, x36, x37, x38, x39, x40, x41, x42, x43, x44, x45, x46, x47, x48, x49, x50, x51, x52, x53, x54, x55, x56, x57, x58, x59, x60, x61, x62, x63, x64, x65, x66, x67, x68, x69, x70, x71, x72], defers := ds } WZ) :
    (Code.region 8 #[{ dst := some 26, op := Op.buildSlice 28 5 #[(0, Operand.const (Value.int IntKind.i64 1)), (1, Operand.const (Value.int IntKind.i64 1)), (2, Operand.const (Value.int IntKind.i64 2)), (3, Operand.const (Value.int IntKind.i64 2)), (4, Operand.const (Value.int IntKind.i64 3))], type := 28, pos := "l16_bills.go:203", after := #[], guard := none }, { dst := some 27, op := Op.move (Operand.tmp 3), type := 64, pos := "l16_bills.go:203", after := #[], guard := none }, { dst := some 28, op := Op.call { callee := Callee.value (Operand.func 35), args := #[Operand.tmp 27, Operand.const (Value.int IntKind.i64 5)], argTypes := #[64, 2] }, type := 2, pos := "l16_bills.go:203", after := #[{ on := 1, ground := Ground.data }], guard := none }, { dst := some 29, op := Op.indexAddr 28 (Operand.tmp 26) (Operand.tmp 28), type := 0, pos := "l16_bills.go:203", after := #[{ on := 0, ground := Ground.data }, { on := 2, ground := Ground.data }], guard := none }, { dst := some 30, op := Op.load 2 (Operand.tmp 29), type := 2, pos := "l16_bills.go:203", after := #[{ on := 3, ground := Ground.data }], guard := none }, { dst := some 31, op := Op.move (Operand.tmp 3), type := 64, pos := "l16_bills.go:203", after := #[], guard := none }, { dst := some 32, op := Op.call { callee := Callee.value (Operand.func 35), args := #[Operand.tmp 31, Operand.const (Value.int IntKind.i64 90)], argTypes := #[64, 2] }, type := 2, pos := "l16_bills.go:203", after := #[{ on := 5, ground := Ground.data }, { on := 2, ground := Ground.chain }], guard := none }, { dst := some 33, op := Op.binOp BinOp.add 2 (Operand.const (Value.int IntKind.i64 1)) (Operand.tmp 32) 2, type := 2, pos := "l16_bills.go:203", after := #[{ on := 6, ground := Ground.data }], guard := none }, { dst := some 34, op := Op.build 41 #[(0, Operand.tmp 30), (1, Operand.tmp 33)], type := 41, pos := "l16_bills.go:203", after := #[{ on := 4, ground := Ground.data }, { on := 7, ground := Ground.data }], guard := none }, { dst := some 6, op := Op.alloc 41, type := 0, pos := "l16_bills.go:203", after := #[], guard := none }, { dst := none, op := Op.store 41 (Operand.tmp 6) (Operand.tmp 34), type := 0, pos := "l16_bills.go:203", after := #[{ on := 9, ground := Ground.data }, { on := 8, ground := Ground.data }, { on := 6, ground := Ground.chain }, { on := 0, ground := Ground.phase }, { on := 1, ground := Ground.phase }, { on := 2, ground := Ground.phase }, { on := 3, ground := Ground.phase }, { on := 4, ground := Ground.phase }, { on := 5, ground := Ground.phase }, { on := 6, ground := Ground.phase }, { on := 7, ground := Ground.phase }, { on := 8, ground := Ground.phase }, { on := 9, ground := Ground.phase }], guard := none }] true).wp Tryd.prog Q { tmps := #[x0, x1, x2, (.pointer (some ⟨w.heap.size, 0, none⟩)), x4, x5, x6, x7, x8, x9, x10, x11, x12, x13, x14, x15, x16, x17, x18, x19, x20, x21, x22, x23, x24, x25, x26, x27, x28, x29, x30, x31, x32, x33, x34, x35, x36, x37, x38, x39, x40, x41, x42, x43, x44, x45, x46, x47, x48, x49, x50, x51, x52, x53, x54, x55, x56, x57, x58, x59, x60, x61, x62, x63, x64, x65, x66, x67, x68, x69, x70, x71, x72], defers := ds } W0 := by
  refine region_L (fun _ => True) 10 (by kernel_rfl) trivial (fun hHeld => ?_)
  obtain ⟨Z, hZ⟩ : ∃ Z, Z = W0.drew := ⟨_, rfl⟩
  replace HD := Lib.hid (HD.out.below (Below.refl _ _).drew)
  rw [← hZ] at HD ⊢
  clear hZ
  refine takeL_do (i := 1) (v := (.pointer (some ⟨w.heap.size, 0, none⟩))) rfl (by kernel_rfl) (by kernel_rfl) (by kernel_rfl) (by kernel_rfl) (fun _ _ _ h => hP _ _ _ _ _ h) (by rfl) ?_ (by assumption) ?_
  · intro w hSw
    skip
    go_simp
  simp only [Act.put, List.setIfInBounds_toArray, List.set_cons_zero, List.set_cons_succ]
  refine takeL_do (i := 5) (v := (.pointer (some ⟨w.heap.size, 0, none⟩))) rfl (by kernel_rfl) (by kernel_rfl) (by kernel_rfl) (by kernel_rfl) (fun _ _ _ h => hP _ _ _ _ _ h) (by rfl) ?_ (by assumption) ?_
  · intro w hSw
    skip
    go_simp
  simp only [Act.put, List.setIfInBounds_toArray, List.set_cons_zero, List.set_cons_succ]
  refine L_ready (rs := [0, 2, 9]) (by kernel_rfl) (by simp) (AllL.cons (i := 0) rfl (fun K2 hK => ?_) (AllL.cons (i := 2) rfl (fun K2 hK => ?_) (AllL.cons (i := 9) rfl (fun K2 hK => ?_) (AllL.nil))))
  · obtain ⟨Z1, hZ1⟩ : ∃ Z1, Z1 = Z.alloc (.cells #[.int .i64 1, .int .i64 1, .int .i64 2, .int .i64 2, .int .i64 3] 2) := ⟨_, rfl⟩
    have hb : Below Z.heap.size Z Z1 := by rw [hZ1]; exact nbel_alloc _ _
    obtain ⟨gq, hgq⟩ : ∃ gq, gq = Z.heap.size := ⟨_, rfl⟩
    have HQL : Hid (w.heap.size < gq) := by show _ < _; rw [hgq]; exact HD.out.src.lt
    replace HD := Lib.hid (HD.out.below hb)
    have HQ : Hid (Z1.rowIs gq 2 5 (rowN [.int .i64 1, .int .i64 1, .int .i64 2, .int .i64 2, .int .i64 3])) := by show World.rowIs _ _ _ _ _; rw [hZ1, hgq]; exact rowN_alloc _ _ _
    go_simp
    rw [← hZ1, ← hgq]
    clear hb hZ1 hgq
    refine hK.out _ _ trivial (fun hHeld2 => ?_)
    clear hK hHeld
    have hHeld := hHeld2
    clear hHeld2
    try simp only [Act.put, List.setIfInBounds_toArray, List.set_cons_zero, List.set_cons_succ]
    refine L_ready (rs := [2, 9]) (by kernel_rfl) (by simp) (AllL.cons (i := 2) rfl (fun K2 hK => ?_) (AllL.cons (i := 9) rfl (fun K2 hK => ?_) (AllL.nil)))
    · go_simp
      refine (n_any w.heap.size 5 _ HD.out.src (by omega)).mono ?_
      rintro e Z2 ⟨⟨z, rfl, z0, z1, _⟩, hD⟩
      replace HD := Lib.hid (HD.out.drew hD)
      replace HQ := Lib.hid (HQ.out.of_block (hD.2.2.2.2.2 _ HQ.out.lt (by have := HQL.out; omega)))
      have zb : 0 ≤ z ∧ z < 5 := ⟨z0, z1 (by omega)⟩
      clear hD z0 z1
      go_wp2_with fail
      refine hK.out _ _ trivial (fun hHeld2 => ?_)
      clear hK hHeld
      have hHeld := hHeld2
      clear hHeld2
      try simp only [Act.put, List.setIfInBounds_toArray, List.set_cons_zero, List.set_cons_succ]
      obtain ⟨KL, hKL⟩ : ∃ KL : Int, rowN [.int .i64 1, .int .i64 1, .int .i64 2, .int .i64 2, .int .i64 3] z.toNat = .int .i64 KL := by
        have h6 : z.toNat = 0 ∨ z.toNat = 1 ∨ z.toNat = 2 ∨ z.toNat = 3 ∨ z.toNat = 4 := by omega
        rcases h6 with h | h | h | h | h <;> rw [h] <;> exact ⟨_, rfl⟩
      have HKL := Lib.hid hKL
      clear hKL
      refine L_strong (S' := fun V => V.rowIs gq 2 5 (rowN [.int .i64 1, .int .i64 1, .int .i64 2, .int .i64 2, .int .i64 3])) (fun _ _ => trivial) _ _ _ _ ?_
      replace hHeld := HQ.out
      obtain ⟨q0, q1⟩ := zb
      refine takeL_do (i := 3) (v := (.pointer (some ⟨gq, z.toNat, none⟩))) rfl (by kernel_rfl) (by kernel_rfl) (by kernel_rfl) (by kernel_rfl) (fun _ _ _ h => hP _ _ _ _ _ h) (by rfl) ?_ (by assumption) ?_
      · intro w hSw
        skip
        go_simp
        try (intro hq; exfalso; omega)
      simp only [Act.put, List.setIfInBounds_toArray, List.set_cons_zero, List.set_cons_succ]
      refine takeL_do (i := 4) (v := (.int .i64 KL)) rfl (by kernel_rfl) (by kernel_rfl) (by kernel_rfl) (by kernel_rfl) (fun _ _ _ h => hP _ _ _ _ _ h) (by rfl) ?_ (by assumption) ?_
      · intro w hSw
        have c := hSw.cell (i := z.toNat) (by omega)
        rw [HKL.out] at c
        go_simp
      simp only [Act.put, List.setIfInBounds_toArray, List.set_cons_zero, List.set_cons_succ]
      clear q0 q1
      refine L_ready (rs := [6, 9]) (by kernel_rfl) (by simp) (AllL.cons (i := 6) rfl (fun K2 hK => ?_) (AllL.cons (i := 9) rfl (fun K2 hK => ?_) (AllL.nil)))
      · go_simp
        refine (n_any w.heap.size 90 _ HD.out.src (by omega)).mono ?_
        rintro e Z3 ⟨⟨d2, rfl, d20, d21, _⟩, hD⟩
        replace HD := Lib.hid (HD.out.drew hD)
        replace HQ := Lib.hid (HQ.out.of_block (hD.2.2.2.2.2 _ HQ.out.lt (by have := HQL.out; omega)))
        have d2b : 0 ≤ d2 ∧ d2 < 90 := ⟨d20, d21 (by omega)⟩
        clear hD d20 d21
        go_wp2_with fail
        refine hK.out _ _ HQ.out (fun hHeld2 => ?_)
        clear hK hHeld
        have hHeld := hHeld2
        clear hHeld2
        try simp only [Act.put, List.setIfInBounds_toArray, List.set_cons_zero, List.set_cons_succ]
        refine takeL_do (i := 7) (v := (.int .i64 (1 + d2))) rfl (by kernel_rfl) (by kernel_rfl) (by kernel_rfl) (by kernel_rfl) (fun _ _ _ h => hP _ _ _ _ _ h) (by rfl) ?_ (by assumption) ?_
        · intro w hSw
          obtain ⟨q0, q1⟩ := d2b
          go_simp
          exact dwrap (by omega) (by omega)
        simp only [Act.put, List.setIfInBounds_toArray, List.set_cons_zero, List.set_cons_succ]
        refine takeL_do (i := 8) (v := (.agg #[.int .i64 KL, .int .i64 (1 + d2)])) rfl (by kernel_rfl) (by kernel_rfl) (by kernel_rfl) (by kernel_rfl) (fun _ _ _ h => hP _ _ _ _ _ h) (by rfl) ?_ (by assumption) ?_
        · intro w hSw
          skip
          go_simp
        simp only [Act.put, List.setIfInBounds_toArray, List.set_cons_zero, List.set_cons_succ]
        refine takeL_call (i := 9) rfl (by kernel_rfl) (fun K2 hK => ?_)
        obtain ⟨Z4, hZ4⟩ : ∃ Z4, Z4 = Z3.alloc (.cells #[.int .i64 0, .int .i64 0] 41) := ⟨_, rfl⟩
        have hb : Below Z3.heap.size Z3 Z4 := by rw [hZ4]; exact nbel_alloc _ _
        obtain ⟨xb, hxb⟩ : ∃ xb, xb = Z3.heap.size := ⟨_, rfl⟩
        have HXL : Hid (w.heap.size < xb) := by show _ < _; rw [hxb]; exact HD.out.src.lt
        have HXN : Hid (lv.ownBlock ≠ some xb) := fun e => by have := (HD.out.own.lt _ e).2; omega
        replace HD := Lib.hid (HD.out.below hb)
        replace HQ := Lib.hid (nrow_below HQ.out hb)
        have HX : Hid (Z4.rowIs xb 41 2 (rowN [.int .i64 0, .int .i64 0])) := by show World.rowIs _ _ _ _ _; rw [hZ4, hxb]; exact rowN_alloc _ _ _
        go_simp
        rw [← hZ4, ← hxb]
        clear hb hZ4 hxb
        refine hK.out _ _ HQ.out (fun hHeld2 => ?_)
        clear hK hHeld
        have hHeld := hHeld2
        clear hHeld2
        try simp only [Act.put, List.setIfInBounds_toArray, List.set_cons_zero, List.set_cons_succ]
        obtain ⟨⟨o0, o1⟩, z0, z1⟩ := rowN2 HX.out
        have l0 := HX.out.lt
        obtain ⟨WZ, hWZ⟩ : ∃ WZ, WZ = (Z4.setCell ⟨xb, 0, none⟩ (.int .i64 KL)).setCell ⟨xb, 1, none⟩ (.int .i64 (1 + d2)) := ⟨_, rfl⟩
        have HY : Hid (DeS lv n zs xb KL (1 + d2) w WZ) := by
          show DeS _ _ _ _ _ _ _ _
          rw [hWZ]
          exact DeS.money (m := 0) (DeS.kind (k := 0) ⟨HD.out, HX.out, HXL.out, HXN.out⟩ KL) (1 + d2)
        have HWZ := Lib.hid hWZ
        clear hWZ
        refine takeL_last rfl (by kernel_rfl) (by kernel_rfl) (fun K2 hK => ?_)
        go_simp
        rw [← HWZ.out]
        refine hK.out _ _ ?_
        clear hK hHeld HWZ o0 o1 z0 z1 l0 HD HX HQ
        exact hQ _ _ _ _ _ _ _ _ _ xb KL (1 + d2) WZ HY
      · obtain ⟨Z5, hZ5⟩ : ∃ Z5, Z5 = Z2.alloc (.cells #[.int .i64 0, .int .i64 0] 41) := ⟨_, rfl⟩
        have hb : Below Z2.heap.size Z2 Z5 := by rw [hZ5]; exact nbel_alloc _ _
        obtain ⟨xb, hxb⟩ : ∃ xb, xb = Z2.heap.size := ⟨_, rfl⟩
        have HXL : Hid (w.heap.size < xb) := by show _ < _; rw [hxb]; exact HD.out.src.lt
        have HXN : Hid (lv.ownBlock ≠ some xb) := fun e => by have := (HD.out.own.lt _ e).2; omega
        replace HD := Lib.hid (HD.out.below hb)
        replace HQ := Lib.hid (nrow_below HQ.out hb)
        have HX : Hid (Z5.rowIs xb 41 2 (rowN [.int .i64 0, .int .i64 0])) := by show World.rowIs _ _ _ _ _; rw [hZ5, hxb]; exact rowN_alloc _ _ _
        go_simp
        rw [← hZ5, ← hxb]
        clear hb hZ5 hxb
        refine hK.out _ _ HQ.out (fun hHeld2 => ?_)
        clear hK hHeld
        have hHeld := hHeld2
        clear hHeld2
        try simp only [Act.put, List.setIfInBounds_toArray, List.set_cons_zero, List.set_cons_succ]
        refine takeL_call (i := 6) rfl (by kernel_rfl) (fun K2 hK => ?_)
        go_simp
        refine (n_any w.heap.size 90 _ HD.out.src (by omega)).mono ?_
        rintro e Z6 ⟨⟨d2, rfl, d20, d21, _⟩, hD⟩
        replace HD := Lib.hid (HD.out.drew hD)
        replace HQ := Lib.hid (HQ.out.of_block (hD.2.2.2.2.2 _ HQ.out.lt (by have := HQL.out; omega)))
        replace HX := Lib.hid (HX.out.of_block (hD.2.2.2.2.2 _ HX.out.lt (by have := HXL.out; omega)))
        have d2b : 0 ≤ d2 ∧ d2 < 90 := ⟨d20, d21 (by omega)⟩
        clear hD d20 d21
        go_wp2_with fail
        refine hK.out _ _ HQ.out (fun hHeld2 => ?_)
        clear hK hHeld
        have hHeld := hHeld2
        clear hHeld2
        try simp only [Act.put, List.setIfInBounds_toArray, List.set_cons_zero, List.set_cons_succ]
        refine takeL_do (i := 7) (v := (.int .i64 (1 + d2))) rfl (by kernel_rfl) (by kernel_rfl) (by kernel_rfl) (by kernel_rfl) (fun _ _ _ h => hP _ _ _ _ _ h) (by rfl) ?_ (by assumption) ?_
        · intro w hSw
          obtain ⟨q0, q1⟩ := d2b
          go_simp
          exact dwrap (by omega) (by omega)
        simp only [Act.put, List.setIfInBounds_toArray, List.set_cons_zero, List.set_cons_succ]
        refine takeL_do (i := 8) (v := (.agg #[.int .i64 KL, .int .i64 (1 + d2)])) rfl (by kernel_rfl) (by kernel_rfl) (by kernel_rfl) (by kernel_rfl) (fun _ _ _ h => hP _ _ _ _ _ h) (by rfl) ?_ (by assumption) ?_
        · intro w hSw
          skip
          go_simp
        simp only [Act.put, List.setIfInBounds_toArray, List.set_cons_zero, List.set_cons_succ]
        obtain ⟨⟨o0, o1⟩, z0, z1⟩ := rowN2 HX.out
        have l0 := HX.out.lt
        obtain ⟨WZ, hWZ⟩ : ∃ WZ, WZ = (Z6.setCell ⟨xb, 0, none⟩ (.int .i64 KL)).setCell ⟨xb, 1, none⟩ (.int .i64 (1 + d2)) := ⟨_, rfl⟩
        have HY : Hid (DeS lv n zs xb KL (1 + d2) w WZ) := by
          show DeS _ _ _ _ _ _ _ _
          rw [hWZ]
          exact DeS.money (m := 0) (DeS.kind (k := 0) ⟨HD.out, HX.out, HXL.out, HXN.out⟩ KL) (1 + d2)
        have HWZ := Lib.hid hWZ
        clear hWZ
        refine takeL_last rfl (by kernel_rfl) (by kernel_rfl) (fun K2 hK => ?_)
        go_simp
        rw [← HWZ.out]
        refine hK.out _ _ ?_
        clear hK hHeld HWZ o0 o1 z0 z1 l0 HD HX HQ
        exact hQ _ _ _ _ _ _ _ _ _ xb KL (1 + d2) WZ HY
    · obtain ⟨Z7, hZ7⟩ : ∃ Z7, Z7 = Z1.alloc (.cells #[.int .i64 0, .int .i64 0] 41) := ⟨_, rfl⟩
      have hb : Below Z1.heap.size Z1 Z7 := by rw [hZ7]; exact nbel_alloc _ _
      obtain ⟨xb, hxb⟩ : ∃ xb, xb = Z1.heap.size := ⟨_, rfl⟩
      have HXL : Hid (w.heap.size < xb) := by show _ < _; rw [hxb]; exact HD.out.src.lt
      have HXN : Hid (lv.ownBlock ≠ some xb) := fun e => by have := (HD.out.own.lt _ e).2; omega
      replace HD := Lib.hid (HD.out.below hb)
      replace HQ := Lib.hid (nrow_below HQ.out hb)
      have HX : Hid (Z7.rowIs xb 41 2 (rowN [.int .i64 0, .int .i64 0])) := by show World.rowIs _ _ _ _ _; rw [hZ7, hxb]; exact rowN_alloc _ _ _
      go_simp
      rw [← hZ7, ← hxb]
      clear hb hZ7 hxb
      refine hK.out _ _ trivial (fun hHeld2 => ?_)
      clear hK hHeld
      have hHeld := hHeld2
      clear hHeld2
      try simp only [Act.put, List.setIfInBounds_toArray, List.set_cons_zero, List.set_cons_succ]
      refine takeL_call (i := 2) rfl (by kernel_rfl) (fun K2 hK => ?_)
      go_simp
      refine (n_any w.heap.size 5 _ HD.out.src (by omega)).mono ?_
      rintro e Z8 ⟨⟨z, rfl, z0, z1, _⟩, hD⟩
      replace HD := Lib.hid (HD.out.drew hD)
      replace HQ := Lib.hid (HQ.out.of_block (hD.2.2.2.2.2 _ HQ.out.lt (by have := HQL.out; omega)))
      replace HX := Lib.hid (HX.out.of_block (hD.2.2.2.2.2 _ HX.out.lt (by have := HXL.out; omega)))
      have zb : 0 ≤ z ∧ z < 5 := ⟨z0, z1 (by omega)⟩
      clear hD z0 z1
      go_wp2_with fail
      refine hK.out _ _ trivial (fun hHeld2 => ?_)
      clear hK hHeld
      have hHeld := hHeld2
      clear hHeld2
      try simp only [Act.put, List.setIfInBounds_toArray, List.set_cons_zero, List.set_cons_succ]
      obtain ⟨KL, hKL⟩ : ∃ KL : Int, rowN [.int .i64 1, .int .i64 1, .int .i64 2, .int .i64 2, .int .i64 3] z.toNat = .int .i64 KL := by
        have h6 : z.toNat = 0 ∨ z.toNat = 1 ∨ z.toNat = 2 ∨ z.toNat = 3 ∨ z.toNat = 4 := by omega
        rcases h6 with h | h | h | h | h <;> rw [h] <;> exact ⟨_, rfl⟩
      have HKL := Lib.hid hKL
      clear hKL
      refine L_strong (S' := fun V => V.rowIs gq 2 5 (rowN [.int .i64 1, .int .i64 1, .int .i64 2, .int .i64 2, .int .i64 3])) (fun _ _ => trivial) _ _ _ _ ?_
      replace hHeld := HQ.out
      obtain ⟨q0, q1⟩ := zb
      refine takeL_do (i := 3) (v := (.pointer (some ⟨gq, z.toNat, none⟩))) rfl (by kernel_rfl) (by kernel_rfl) (by kernel_rfl) (by kernel_rfl) (fun _ _ _ h => hP _ _ _ _ _ h) (by rfl) ?_ (by assumption) ?_
      · intro w hSw
        skip
        go_simp
        try (intro hq; exfalso; omega)
      simp only [Act.put, List.setIfInBounds_toArray, List.set_cons_zero, List.set_cons_succ]
      refine takeL_do (i := 4) (v := (.int .i64 KL)) rfl (by kernel_rfl) (by kernel_rfl) (by kernel_rfl) (by kernel_rfl) (fun _ _ _ h => hP _ _ _ _ _ h) (by rfl) ?_ (by assumption) ?_
      · intro w hSw
        have c := hSw.cell (i := z.toNat) (by omega)
        rw [HKL.out] at c
        go_simp
      simp only [Act.put, List.setIfInBounds_toArray, List.set_cons_zero, List.set_cons_succ]
      clear q0 q1
      refine takeL_call (i := 6) rfl (by kernel_rfl) (fun K2 hK => ?_)
      go_simp
      refine (n_any w.heap.size 90 _ HD.out.src (by omega)).mono ?_
      rintro e Z9 ⟨⟨d2, rfl, d20, d21, _⟩, hD⟩
      replace HD := Lib.hid (HD.out.drew hD)
      replace HQ := Lib.hid (HQ.out.of_block (hD.2.2.2.2.2 _ HQ.out.lt (by have := HQL.out; omega)))
      replace HX := Lib.hid (HX.out.of_block (hD.2.2.2.2.2 _ HX.out.lt (by have := HXL.out; omega)))
      have d2b : 0 ≤ d2 ∧ d2 < 90 := ⟨d20, d21 (by omega)⟩
      clear hD d20 d21
      go_wp2_with fail
      refine hK.out _ _ HQ.out (fun hHeld2 => ?_)
      clear hK hHeld
      have hHeld := hHeld2
      clear hHeld2
      try simp only [Act.put, List.setIfInBounds_toArray, List.set_cons_zero, List.set_cons_succ]
      refine takeL_do (i := 7) (v := (.int .i64 (1 + d2))) rfl (by kernel_rfl) (by kernel_rfl) (by kernel_rfl) (by kernel_rfl) (fun _ _ _ h => hP _ _ _ _ _ h) (by rfl) ?_ (by assumption) ?_
      · intro w hSw
        obtain ⟨q0, q1⟩ := d2b
        go_simp
        exact dwrap (by omega) (by omega)
      simp only [Act.put, List.setIfInBounds_toArray, List.set_cons_zero, List.set_cons_succ]
      refine takeL_do (i := 8) (v := (.agg #[.int .i64 KL, .int .i64 (1 + d2)])) rfl (by kernel_rfl) (by kernel_rfl) (by kernel_rfl) (by kernel_rfl) (fun _ _ _ h => hP _ _ _ _ _ h) (by rfl) ?_ (by assumption) ?_
      · intro w hSw
        skip
        go_simp
      simp only [Act.put, List.setIfInBounds_toArray, List.set_cons_zero, List.set_cons_succ]
      obtain ⟨⟨o0, o1⟩, z0, z1⟩ := rowN2 HX.out
      have l0 := HX.out.lt
      obtain ⟨WZ, hWZ⟩ : ∃ WZ, WZ = (Z9.setCell ⟨xb, 0, none⟩ (.int .i64 KL)).setCell ⟨xb, 1, none⟩ (.int .i64 (1 + d2)) := ⟨_, rfl⟩
      have HY : Hid (DeS lv n zs xb KL (1 + d2) w WZ) := by
        show DeS _ _ _ _ _ _ _ _
        rw [hWZ]
        exact DeS.money (m := 0) (DeS.kind (k := 0) ⟨HD.out, HX.out, HXL.out, HXN.out⟩ KL) (1 + d2)
      have HWZ := Lib.hid hWZ
      clear hWZ
      refine takeL_last rfl (by kernel_rfl) (by kernel_rfl) (fun K2 hK => ?_)
      go_simp
      rw [← HWZ.out]
      refine hK.out _ _ ?_
      clear hK hHeld HWZ o0 o1 z0 z1 l0 HD HX HQ
      exact hQ _ _ _ _ _ _ _ _ _ xb KL (1 + d2) WZ HY
  · go_simp
    refine (n_any w.heap.size 5 _ HD.out.src (by omega)).mono ?_
    rintro e Z10 ⟨⟨z, rfl, z0, z1, _⟩, hD⟩
    replace HD := Lib.hid (HD.out.drew hD)
    have zb : 0 ≤ z ∧ z < 5 := ⟨z0, z1 (by omega)⟩
    clear hD z0 z1
    go_wp2_with fail
    refine hK.out _ _ trivial (fun hHeld2 => ?_)
    clear hK hHeld
    have hHeld := hHeld2
    clear hHeld2
    try simp only [Act.put, List.setIfInBounds_toArray, List.set_cons_zero, List.set_cons_succ]
    refine L_ready (rs := [0, 6, 9]) (by kernel_rfl) (by simp) (AllL.cons (i := 0) rfl (fun K2 hK => ?_) (AllL.cons (i := 6) rfl (fun K2 hK => ?_) (AllL.cons (i := 9) rfl (fun K2 hK => ?_) (AllL.nil))))
    · obtain ⟨Z11, hZ11⟩ : ∃ Z11, Z11 = Z10.alloc (.cells #[.int .i64 1, .int .i64 1, .int .i64 2, .int .i64 2, .int .i64 3] 2) := ⟨_, rfl⟩
      have hb : Below Z10.heap.size Z10 Z11 := by rw [hZ11]; exact nbel_alloc _ _
      obtain ⟨gq, hgq⟩ : ∃ gq, gq = Z10.heap.size := ⟨_, rfl⟩
      have HQL : Hid (w.heap.size < gq) := by show _ < _; rw [hgq]; exact HD.out.src.lt
      replace HD := Lib.hid (HD.out.below hb)
      have HQ : Hid (Z11.rowIs gq 2 5 (rowN [.int .i64 1, .int .i64 1, .int .i64 2, .int .i64 2, .int .i64 3])) := by show World.rowIs _ _ _ _ _; rw [hZ11, hgq]; exact rowN_alloc _ _ _
      go_simp
      rw [← hZ11, ← hgq]
      clear hb hZ11 hgq
      refine hK.out _ _ trivial (fun hHeld2 => ?_)
      clear hK hHeld
      have hHeld := hHeld2
      clear hHeld2
      try simp only [Act.put, List.setIfInBounds_toArray, List.set_cons_zero, List.set_cons_succ]
      obtain ⟨KL, hKL⟩ : ∃ KL : Int, rowN [.int .i64 1, .int .i64 1, .int .i64 2, .int .i64 2, .int .i64 3] z.toNat = .int .i64 KL := by
        have h6 : z.toNat = 0 ∨ z.toNat = 1 ∨ z.toNat = 2 ∨ z.toNat = 3 ∨ z.toNat = 4 := by omega
        rcases h6 with h | h | h | h | h <;> rw [h] <;> exact ⟨_, rfl⟩
      have HKL := Lib.hid hKL
      clear hKL
      refine L_strong (S' := fun V => V.rowIs gq 2 5 (rowN [.int .i64 1, .int .i64 1, .int .i64 2, .int .i64 2, .int .i64 3])) (fun _ _ => trivial) _ _ _ _ ?_
      replace hHeld := HQ.out
      obtain ⟨q0, q1⟩ := zb
      refine takeL_do (i := 3) (v := (.pointer (some ⟨gq, z.toNat, none⟩))) rfl (by kernel_rfl) (by kernel_rfl) (by kernel_rfl) (by kernel_rfl) (fun _ _ _ h => hP _ _ _ _ _ h) (by rfl) ?_ (by assumption) ?_
      · intro w hSw
        skip
        go_simp
        try (intro hq; exfalso; omega)
      simp only [Act.put, List.setIfInBounds_toArray, List.set_cons_zero, List.set_cons_succ]
      refine takeL_do (i := 4) (v := (.int .i64 KL)) rfl (by kernel_rfl) (by kernel_rfl) (by kernel_rfl) (by kernel_rfl) (fun _ _ _ h => hP _ _ _ _ _ h) (by rfl) ?_ (by assumption) ?_
      · intro w hSw
        have c := hSw.cell (i := z.toNat) (by omega)
        rw [HKL.out] at c
        go_simp
      simp only [Act.put, List.setIfInBounds_toArray, List.set_cons_zero, List.set_cons_succ]
      clear q0 q1
      refine L_ready (rs := [6, 9]) (by kernel_rfl) (by simp) (AllL.cons (i := 6) rfl (fun K2 hK => ?_) (AllL.cons (i := 9) rfl (fun K2 hK => ?_) (AllL.nil)))
      · go_simp
        refine (n_any w.heap.size 90 _ HD.out.src (by omega)).mono ?_
        rintro e Z12 ⟨⟨d2, rfl, d20, d21, _⟩, hD⟩
        replace HD := Lib.hid (HD.out.drew hD)
        replace HQ := Lib.hid (HQ.out.of_block (hD.2.2.2.2.2 _ HQ.out.lt (by have := HQL.out; omega)))
        have d2b : 0 ≤ d2 ∧ d2 < 90 := ⟨d20, d21 (by omega)⟩
        clear hD d20 d21
        go_wp2_with fail
        refine hK.out _ _ HQ.out (fun hHeld2 => ?_)
        clear hK hHeld
        have hHeld := hHeld2
        clear hHeld2
        try simp only [Act.put, List.setIfInBounds_toArray, List.set_cons_zero, List.set_cons_succ]
        refine takeL_do (i := 7) (v := (.int .i64 (1 + d2))) rfl (by kernel_rfl) (by kernel_rfl) (by kernel_rfl) (by kernel_rfl) (fun _ _ _ h => hP _ _ _ _ _ h) (by rfl) ?_ (by assumption) ?_
        · intro w hSw
          obtain ⟨q0, q1⟩ := d2b
          go_simp
          exact dwrap (by omega) (by omega)
        simp only [Act.put, List.setIfInBounds_toArray, List.set_cons_zero, List.set_cons_succ]
        refine takeL_do (i := 8) (v := (.agg #[.int .i64 KL, .int .i64 (1 + d2)])) rfl (by kernel_rfl) (by kernel_rfl) (by kernel_rfl) (by kernel_rfl) (fun _ _ _ h => hP _ _ _ _ _ h) (by rfl) ?_ (by assumption) ?_
        · intro w hSw
          skip
          go_simp
        simp only [Act.put, List.setIfInBounds_toArray, List.set_cons_zero, List.set_cons_succ]
        refine takeL_call (i := 9) rfl (by kernel_rfl) (fun K2 hK => ?_)
        obtain ⟨Z13, hZ13⟩ : ∃ Z13, Z13 = Z12.alloc (.cells #[.int .i64 0, .int .i64 0] 41) := ⟨_, rfl⟩
        have hb : Below Z12.heap.size Z12 Z13 := by rw [hZ13]; exact nbel_alloc _ _
        obtain ⟨xb, hxb⟩ : ∃ xb, xb = Z12.heap.size := ⟨_, rfl⟩
        have HXL : Hid (w.heap.size < xb) := by show _ < _; rw [hxb]; exact HD.out.src.lt
        have HXN : Hid (lv.ownBlock ≠ some xb) := fun e => by have := (HD.out.own.lt _ e).2; omega
        replace HD := Lib.hid (HD.out.below hb)
        replace HQ := Lib.hid (nrow_below HQ.out hb)
        have HX : Hid (Z13.rowIs xb 41 2 (rowN [.int .i64 0, .int .i64 0])) := by show World.rowIs _ _ _ _ _; rw [hZ13, hxb]; exact rowN_alloc _ _ _
        go_simp
        rw [← hZ13, ← hxb]
        clear hb hZ13 hxb
        refine hK.out _ _ HQ.out (fun hHeld2 => ?_)
        clear hK hHeld
        have hHeld := hHeld2
        clear hHeld2
        try simp only [Act.put, List.setIfInBounds_toArray, List.set_cons_zero, List.set_cons_succ]
        obtain ⟨⟨o0, o1⟩, z0, z1⟩ := rowN2 HX.out
        have l0 := HX.out.lt
        obtain ⟨WZ, hWZ⟩ : ∃ WZ, WZ = (Z13.setCell ⟨xb, 0, none⟩ (.int .i64 KL)).setCell ⟨xb, 1, none⟩ (.int .i64 (1 + d2)) := ⟨_, rfl⟩
        have HY : Hid (DeS lv n zs xb KL (1 + d2) w WZ) := by
          show DeS _ _ _ _ _ _ _ _
          rw [hWZ]
          exact DeS.money (m := 0) (DeS.kind (k := 0) ⟨HD.out, HX.out, HXL.out, HXN.out⟩ KL) (1 + d2)
        have HWZ := Lib.hid hWZ
        clear hWZ
        refine takeL_last rfl (by kernel_rfl) (by kernel_rfl) (fun K2 hK => ?_)
        go_simp
        rw [← HWZ.out]
        refine hK.out _ _ ?_
        clear hK hHeld HWZ o0 o1 z0 z1 l0 HD HX HQ
        exact hQ _ _ _ _ _ _ _ _ _ xb KL (1 + d2) WZ HY
      · obtain ⟨Z14, hZ14⟩ : ∃ Z14, Z14 = Z11.alloc (.cells #[.int .i64 0, .int .i64 0] 41) := ⟨_, rfl⟩
        have hb : Below Z11.heap.size Z11 Z14 := by rw [hZ14]; exact nbel_alloc _ _
        obtain ⟨xb, hxb⟩ : ∃ xb, xb = Z11.heap.size := ⟨_, rfl⟩
        have HXL : Hid (w.heap.size < xb) := by show _ < _; rw [hxb]; exact HD.out.src.lt
        have HXN : Hid (lv.ownBlock ≠ some xb) := fun e => by have := (HD.out.own.lt _ e).2; omega
        replace HD := Lib.hid (HD.out.below hb)
        replace HQ := Lib.hid (nrow_below HQ.out hb)
        have HX : Hid (Z14.rowIs xb 41 2 (rowN [.int .i64 0, .int .i64 0])) := by show World.rowIs _ _ _ _ _; rw [hZ14, hxb]; exact rowN_alloc _ _ _
        go_simp
        rw [← hZ14, ← hxb]
        clear hb hZ14 hxb
        refine hK.out _ _ HQ.out (fun hHeld2 => ?_)
        clear hK hHeld
        have hHeld := hHeld2
        clear hHeld2
        try simp only [Act.put, List.setIfInBounds_toArray, List.set_cons_zero, List.set_cons_succ]
        refine takeL_call (i := 6) rfl (by kernel_rfl) (fun K2 hK => ?_)
        go_simp
        refine (n_any w.heap.size 90 _ HD.out.src (by omega)).mono ?_
        rintro e Z15 ⟨⟨d2, rfl, d20, d21, _⟩, hD⟩
        replace HD := Lib.hid (HD.out.drew hD)
        replace HQ := Lib.hid (HQ.out.of_block (hD.2.2.2.2.2 _ HQ.out.lt (by have := HQL.out; omega)))
        replace HX := Lib.hid (HX.out.of_block (hD.2.2.2.2.2 _ HX.out.lt (by have := HXL.out; omega)))
        have d2b : 0 ≤ d2 ∧ d2 < 90 := ⟨d20, d21 (by omega)⟩
        clear hD d20 d21
        go_wp2_with fail
        refine hK.out _ _ HQ.out (fun hHeld2 => ?_)
        clear hK hHeld
        have hHeld := hHeld2
        clear hHeld2
        try simp only [Act.put, List.setIfInBounds_toArray, List.set_cons_zero, List.set_cons_succ]
        refine takeL_do (i := 7) (v := (.int .i64 (1 + d2))) rfl (by kernel_rfl) (by kernel_rfl) (by kernel_rfl) (by kernel_rfl) (fun _ _ _ h => hP _ _ _ _ _ h) (by rfl) ?_ (by assumption) ?_
        · intro w hSw
          obtain ⟨q0, q1⟩ := d2b
          go_simp
          exact dwrap (by omega) (by omega)
        simp only [Act.put, List.setIfInBounds_toArray, List.set_cons_zero, List.set_cons_succ]
        refine takeL_do (i := 8) (v := (.agg #[.int .i64 KL, .int .i64 (1 + d2)])) rfl (by kernel_rfl) (by kernel_rfl) (by kernel_rfl) (by kernel_rfl) (fun _ _ _ h => hP _ _ _ _ _ h) (by rfl) ?_ (by assumption) ?_
        · intro w hSw
          skip
          go_simp
        simp only [Act.put, List.setIfInBounds_toArray, List.set_cons_zero, List.set_cons_succ]
        obtain ⟨⟨o0, o1⟩, z0, z1⟩ := rowN2 HX.out
        have l0 := HX.out.lt
        obtain ⟨WZ, hWZ⟩ : ∃ WZ, WZ = (Z15.setCell ⟨xb, 0, none⟩ (.int .i64 KL)).setCell ⟨xb, 1, none⟩ (.int .i64 (1 + d2)) := ⟨_, rfl⟩
        have HY : Hid (DeS lv n zs xb KL (1 + d2) w WZ) := by
          show DeS _ _ _ _ _ _ _ _
          rw [hWZ]
          exact DeS.money (m := 0) (DeS.kind (k := 0) ⟨HD.out, HX.out, HXL.out, HXN.out⟩ KL) (1 + d2)
        have HWZ := Lib.hid hWZ
        clear hWZ
        refine takeL_last rfl (by kernel_rfl) (by kernel_rfl) (fun K2 hK => ?_)
        go_simp
        rw [← HWZ.out]
        refine hK.out _ _ ?_
        clear hK hHeld HWZ o0 o1 z0 z1 l0 HD HX HQ
        exact hQ _ _ _ _ _ _ _ _ _ xb KL (1 + d2) WZ HY
    · go_simp
      refine (n_any w.heap.size 90 _ HD.out.src (by omega)).mono ?_
      rintro e Z16 ⟨⟨d2, rfl, d20, d21, _⟩, hD⟩
      replace HD := Lib.hid (HD.out.drew hD)
      have d2b : 0 ≤ d2 ∧ d2 < 90 := ⟨d20, d21 (by omega)⟩
      clear hD d20 d21
      go_wp2_with fail
      refine hK.out _ _ trivial (fun hHeld2 => ?_)
      clear hK hHeld
      have hHeld := hHeld2
      clear hHeld2
      try simp only [Act.put, List.setIfInBounds_toArray, List.set_cons_zero, List.set_cons_succ]
      refine takeL_do (i := 7) (v := (.int .i64 (1 + d2))) rfl (by kernel_rfl) (by kernel_rfl) (by kernel_rfl) (by kernel_rfl) (fun _ _ _ h => hP _ _ _ _ _ h) (by rfl) ?_ (by assumption) ?_
      · intro w hSw
        obtain ⟨q0, q1⟩ := d2b
        go_simp
        exact dwrap (by omega) (by omega)
      simp only [Act.put, List.setIfInBounds_toArray, List.set_cons_zero, List.set_cons_succ]
      refine L_ready (rs := [0, 9]) (by kernel_rfl) (by simp) (AllL.cons (i := 0) rfl (fun K2 hK => ?_) (AllL.cons (i := 9) rfl (fun K2 hK => ?_) (AllL.nil)))
      · obtain ⟨Z17, hZ17⟩ : ∃ Z17, Z17 = Z16.alloc (.cells #[.int .i64 1, .int .i64 1, .int .i64 2, .int .i64 2, .int .i64 3] 2) := ⟨_, rfl⟩
        have hb : Below Z16.heap.size Z16 Z17 := by rw [hZ17]; exact nbel_alloc _ _
        obtain ⟨gq, hgq⟩ : ∃ gq, gq = Z16.heap.size := ⟨_, rfl⟩
        have HQL : Hid (w.heap.size < gq) := by show _ < _; rw [hgq]; exact HD.out.src.lt
        replace HD := Lib.hid (HD.out.below hb)
        have HQ : Hid (Z17.rowIs gq 2 5 (rowN [.int .i64 1, .int .i64 1, .int .i64 2, .int .i64 2, .int .i64 3])) := by show World.rowIs _ _ _ _ _; rw [hZ17, hgq]; exact rowN_alloc _ _ _
        go_simp
        rw [← hZ17, ← hgq]
        clear hb hZ17 hgq
        refine hK.out _ _ trivial (fun hHeld2 => ?_)
        clear hK hHeld
        have hHeld := hHeld2
        clear hHeld2
        try simp only [Act.put, List.setIfInBounds_toArray, List.set_cons_zero, List.set_cons_succ]
        obtain ⟨KL, hKL⟩ : ∃ KL : Int, rowN [.int .i64 1, .int .i64 1, .int .i64 2, .int .i64 2, .int .i64 3] z.toNat = .int .i64 KL := by
          have h6 : z.toNat = 0 ∨ z.toNat = 1 ∨ z.toNat = 2 ∨ z.toNat = 3 ∨ z.toNat = 4 := by omega
          rcases h6 with h | h | h | h | h <;> rw [h] <;> exact ⟨_, rfl⟩
        have HKL := Lib.hid hKL
        clear hKL
        refine L_strong (S' := fun V => V.rowIs gq 2 5 (rowN [.int .i64 1, .int .i64 1, .int .i64 2, .int .i64 2, .int .i64 3])) (fun _ _ => trivial) _ _ _ _ ?_
        replace hHeld := HQ.out
        obtain ⟨q0, q1⟩ := zb
        refine takeL_do (i := 3) (v := (.pointer (some ⟨gq, z.toNat, none⟩))) rfl (by kernel_rfl) (by kernel_rfl) (by kernel_rfl) (by kernel_rfl) (fun _ _ _ h => hP _ _ _ _ _ h) (by rfl) ?_ (by assumption) ?_
        · intro w hSw
          skip
          go_simp
          try (intro hq; exfalso; omega)
        simp only [Act.put, List.setIfInBounds_toArray, List.set_cons_zero, List.set_cons_succ]
        refine takeL_do (i := 4) (v := (.int .i64 KL)) rfl (by kernel_rfl) (by kernel_rfl) (by kernel_rfl) (by kernel_rfl) (fun _ _ _ h => hP _ _ _ _ _ h) (by rfl) ?_ (by assumption) ?_
        · intro w hSw
          have c := hSw.cell (i := z.toNat) (by omega)
          rw [HKL.out] at c
          go_simp
        simp only [Act.put, List.setIfInBounds_toArray, List.set_cons_zero, List.set_cons_succ]
        clear q0 q1
        refine takeL_do (i := 8) (v := (.agg #[.int .i64 KL, .int .i64 (1 + d2)])) rfl (by kernel_rfl) (by kernel_rfl) (by kernel_rfl) (by kernel_rfl) (fun _ _ _ h => hP _ _ _ _ _ h) (by rfl) ?_ (by assumption) ?_
        · intro w hSw
          skip
          go_simp
        simp only [Act.put, List.setIfInBounds_toArray, List.set_cons_zero, List.set_cons_succ]
        refine takeL_call (i := 9) rfl (by kernel_rfl) (fun K2 hK => ?_)
        obtain ⟨Z18, hZ18⟩ : ∃ Z18, Z18 = Z17.alloc (.cells #[.int .i64 0, .int .i64 0] 41) := ⟨_, rfl⟩
        have hb : Below Z17.heap.size Z17 Z18 := by rw [hZ18]; exact nbel_alloc _ _
        obtain ⟨xb, hxb⟩ : ∃ xb, xb = Z17.heap.size := ⟨_, rfl⟩
        have HXL : Hid (w.heap.size < xb) := by show _ < _; rw [hxb]; exact HD.out.src.lt
        have HXN : Hid (lv.ownBlock ≠ some xb) := fun e => by have := (HD.out.own.lt _ e).2; omega
        replace HD := Lib.hid (HD.out.below hb)
        replace HQ := Lib.hid (nrow_below HQ.out hb)
        have HX : Hid (Z18.rowIs xb 41 2 (rowN [.int .i64 0, .int .i64 0])) := by show World.rowIs _ _ _ _ _; rw [hZ18, hxb]; exact rowN_alloc _ _ _
        go_simp
        rw [← hZ18, ← hxb]
        clear hb hZ18 hxb
        refine hK.out _ _ HQ.out (fun hHeld2 => ?_)
        clear hK hHeld
        have hHeld := hHeld2
        clear hHeld2
        try simp only [Act.put, List.setIfInBounds_toArray, List.set_cons_zero, List.set_cons_succ]
        obtain ⟨⟨o0, o1⟩, z0, z1⟩ := rowN2 HX.out
        have l0 := HX.out.lt
        obtain ⟨WZ, hWZ⟩ : ∃ WZ, WZ = (Z18.setCell ⟨xb, 0, none⟩ (.int .i64 KL)).setCell ⟨xb, 1, none⟩ (.int .i64 (1 + d2)) := ⟨_, rfl⟩
        have HY : Hid (DeS lv n zs xb KL (1 + d2) w WZ) := by
          show DeS _ _ _ _ _ _ _ _
          rw [hWZ]
          exact DeS.money (m := 0) (DeS.kind (k := 0) ⟨HD.out, HX.out, HXL.out, HXN.out⟩ KL) (1 + d2)
        have HWZ := Lib.hid hWZ
        clear hWZ
        refine takeL_last rfl (by kernel_rfl) (by kernel_rfl) (fun K2 hK => ?_)
        go_simp
        rw [← HWZ.out]
        refine hK.out _ _ ?_
        clear hK hHeld HWZ o0 o1 z0 z1 l0 HD HX HQ
        exact hQ _ _ _ _ _ _ _ _ _ xb KL (1 + d2) WZ HY
      · obtain ⟨Z19, hZ19⟩ : ∃ Z19, Z19 = Z16.alloc (.cells #[.int .i64 0, .int .i64 0] 41) := ⟨_, rfl⟩
        have hb : Below Z16.heap.size Z16 Z19 := by rw [hZ19]; exact nbel_alloc _ _
        obtain ⟨xb, hxb⟩ : ∃ xb, xb = Z16.heap.size := ⟨_, rfl⟩
        have HXL : Hid (w.heap.size < xb) := by show _ < _; rw [hxb]; exact HD.out.src.lt
        have HXN : Hid (lv.ownBlock ≠ some xb) := fun e => by have := (HD.out.own.lt _ e).2; omega
        replace HD := Lib.hid (HD.out.below hb)
        have HX : Hid (Z19.rowIs xb 41 2 (rowN [.int .i64 0, .int .i64 0])) := by show World.rowIs _ _ _ _ _; rw [hZ19, hxb]; exact rowN_alloc _ _ _
        go_simp
        rw [← hZ19, ← hxb]
        clear hb hZ19 hxb
        refine hK.out _ _ trivial (fun hHeld2 => ?_)
        clear hK hHeld
        have hHeld := hHeld2
        clear hHeld2
        try simp only [Act.put, List.setIfInBounds_toArray, List.set_cons_zero, List.set_cons_succ]
        refine takeL_call (i := 0) rfl (by kernel_rfl) (fun K2 hK => ?_)
        obtain ⟨Z20, hZ20⟩ : ∃ Z20, Z20 = Z19.alloc (.cells #[.int .i64 1, .int .i64 1, .int .i64 2, .int .i64 2, .int .i64 3] 2) := ⟨_, rfl⟩
        have hb : Below Z19.heap.size Z19 Z20 := by rw [hZ20]; exact nbel_alloc _ _
        obtain ⟨gq, hgq⟩ : ∃ gq, gq = Z19.heap.size := ⟨_, rfl⟩
        have HQL : Hid (w.heap.size < gq) := by show _ < _; rw [hgq]; exact HD.out.src.lt
        replace HD := Lib.hid (HD.out.below hb)
        replace HX := Lib.hid (nrow_below HX.out hb)
        have HQ : Hid (Z20.rowIs gq 2 5 (rowN [.int .i64 1, .int .i64 1, .int .i64 2, .int .i64 2, .int .i64 3])) := by show World.rowIs _ _ _ _ _; rw [hZ20, hgq]; exact rowN_alloc _ _ _
        go_simp
        rw [← hZ20, ← hgq]
        clear hb hZ20 hgq
        refine hK.out _ _ trivial (fun hHeld2 => ?_)
        clear hK hHeld
        have hHeld := hHeld2
        clear hHeld2
        try simp only [Act.put, List.setIfInBounds_toArray, List.set_cons_zero, List.set_cons_succ]
        obtain ⟨KL, hKL⟩ : ∃ KL : Int, rowN [.int .i64 1, .int .i64 1, .int .i64 2, .int .i64 2, .int .i64 3] z.toNat = .int .i64 KL := by
          have h6 : z.toNat = 0 ∨ z.toNat = 1 ∨ z.toNat = 2 ∨ z.toNat = 3 ∨ z.toNat = 4 := by omega
          rcases h6 with h | h | h | h | h <;> rw [h] <;> exact ⟨_, rfl⟩
        have HKL := Lib.hid hKL
        clear hKL
        refine L_strong (S' := fun V => V.rowIs gq 2 5 (rowN [.int .i64 1, .int .i64 1, .int .i64 2, .int .i64 2, .int .i64 3])) (fun _ _ => trivial) _ _ _ _ ?_
        replace hHeld := HQ.out
        obtain ⟨q0, q1⟩ := zb
        refine takeL_do (i := 3) (v := (.pointer (some ⟨gq, z.toNat, none⟩))) rfl (by kernel_rfl) (by kernel_rfl) (by kernel_rfl) (by kernel_rfl) (fun _ _ _ h => hP _ _ _ _ _ h) (by rfl) ?_ (by assumption) ?_
        · intro w hSw
          skip
          go_simp
          try (intro hq; exfalso; omega)
        simp only [Act.put, List.setIfInBounds_toArray, List.set_cons_zero, List.set_cons_succ]
        refine takeL_do (i := 4) (v := (.int .i64 KL)) rfl (by kernel_rfl) (by kernel_rfl) (by kernel_rfl) (by kernel_rfl) (fun _ _ _ h => hP _ _ _ _ _ h) (by rfl) ?_ (by assumption) ?_
        · intro w hSw
          have c := hSw.cell (i := z.toNat) (by omega)
          rw [HKL.out] at c
          go_simp
        simp only [Act.put, List.setIfInBounds_toArray, List.set_cons_zero, List.set_cons_succ]
        clear q0 q1
        refine takeL_do (i := 8) (v := (.agg #[.int .i64 KL, .int .i64 (1 + d2)])) rfl (by kernel_rfl) (by kernel_rfl) (by kernel_rfl) (by kernel_rfl) (fun _ _ _ h => hP _ _ _ _ _ h) (by rfl) ?_ (by assumption) ?_
        · intro w hSw
          skip
          go_simp
        simp only [Act.put, List.setIfInBounds_toArray, List.set_cons_zero, List.set_cons_succ]
        obtain ⟨⟨o0, o1⟩, z0, z1⟩ := rowN2 HX.out
        have l0 := HX.out.lt
        obtain ⟨WZ, hWZ⟩ : ∃ WZ, WZ = (Z20.setCell ⟨xb, 0, none⟩ (.int .i64 KL)).setCell ⟨xb, 1, none⟩ (.int .i64 (1 + d2)) := ⟨_, rfl⟩
        have HY : Hid (DeS lv n zs xb KL (1 + d2) w WZ) := by
          show DeS _ _ _ _ _ _ _ _
          rw [hWZ]
          exact DeS.money (m := 0) (DeS.kind (k := 0) ⟨HD.out, HX.out, HXL.out, HXN.out⟩ KL) (1 + d2)
        have HWZ := Lib.hid hWZ
        clear hWZ
        refine takeL_last rfl (by kernel_rfl) (by kernel_rfl) (fun K2 hK => ?_)
        go_simp
        rw [← HWZ.out]
        refine hK.out _ _ ?_
        clear hK hHeld HWZ o0 o1 z0 z1 l0 HD HX HQ
        exact hQ _ _ _ _ _ _ _ _ _ xb KL (1 + d2) WZ HY
    · obtain ⟨Z21, hZ21⟩ : ∃ Z21, Z21 = Z10.alloc (.cells #[.int .i64 0, .int .i64 0] 41) := ⟨_, rfl⟩
      have hb : Below Z10.heap.size Z10 Z21 := by rw [hZ21]; exact nbel_alloc _ _
      obtain ⟨xb, hxb⟩ : ∃ xb, xb = Z10.heap.size := ⟨_, rfl⟩
      have HXL : Hid (w.heap.size < xb) := by show _ < _; rw [hxb]; exact HD.out.src.lt
      have HXN : Hid (lv.ownBlock ≠ some xb) := fun e => by have := (HD.out.own.lt _ e).2; omega
      replace HD := Lib.hid (HD.out.below hb)
      have HX : Hid (Z21.rowIs xb 41 2 (rowN [.int .i64 0, .int .i64 0])) := by show World.rowIs _ _ _ _ _; rw [hZ21, hxb]; exact rowN_alloc _ _ _
      go_simp
      rw [← hZ21, ← hxb]
      clear hb hZ21 hxb
      refine hK.out _ _ trivial (fun hHeld2 => ?_)
      clear hK hHeld
      have hHeld := hHeld2
      clear hHeld2
      try simp only [Act.put, List.setIfInBounds_toArray, List.set_cons_zero, List.set_cons_succ]
      refine L_ready (rs := [0, 6]) (by kernel_rfl) (by simp) (AllL.cons (i := 0) rfl (fun K2 hK => ?_) (AllL.cons (i := 6) rfl (fun K2 hK => ?_) (AllL.nil)))
      · obtain ⟨Z22, hZ22⟩ : ∃ Z22, Z22 = Z21.alloc (.cells #[.int .i64 1, .int .i64 1, .int .i64 2, .int .i64 2, .int .i64 3] 2) := ⟨_, rfl⟩
        have hb : Below Z21.heap.size Z21 Z22 := by rw [hZ22]; exact nbel_alloc _ _
        obtain ⟨gq, hgq⟩ : ∃ gq, gq = Z21.heap.size := ⟨_, rfl⟩
        have HQL : Hid (w.heap.size < gq) := by show _ < _; rw [hgq]; exact HD.out.src.lt
        replace HD := Lib.hid (HD.out.below hb)
        replace HX := Lib.hid (nrow_below HX.out hb)
        have HQ : Hid (Z22.rowIs gq 2 5 (rowN [.int .i64 1, .int .i64 1, .int .i64 2, .int .i64 2, .int .i64 3])) := by show World.rowIs _ _ _ _ _; rw [hZ22, hgq]; exact rowN_alloc _ _ _
        go_simp
        rw [← hZ22, ← hgq]
        clear hb hZ22 hgq
        refine hK.out _ _ trivial (fun hHeld2 => ?_)
        clear hK hHeld
        have hHeld := hHeld2
        clear hHeld2
        try simp only [Act.put, List.setIfInBounds_toArray, List.set_cons_zero, List.set_cons_succ]
        obtain ⟨KL, hKL⟩ : ∃ KL : Int, rowN [.int .i64 1, .int .i64 1, .int .i64 2, .int .i64 2, .int .i64 3] z.toNat = .int .i64 KL := by
          have h6 : z.toNat = 0 ∨ z.toNat = 1 ∨ z.toNat = 2 ∨ z.toNat = 3 ∨ z.toNat = 4 := by omega
          rcases h6 with h | h | h | h | h <;> rw [h] <;> exact ⟨_, rfl⟩
        have HKL := Lib.hid hKL
        clear hKL
        refine L_strong (S' := fun V => V.rowIs gq 2 5 (rowN [.int .i64 1, .int .i64 1, .int .i64 2, .int .i64 2, .int .i64 3])) (fun _ _ => trivial) _ _ _ _ ?_
        replace hHeld := HQ.out
        obtain ⟨q0, q1⟩ := zb
        refine takeL_do (i := 3) (v := (.pointer (some ⟨gq, z.toNat, none⟩))) rfl (by kernel_rfl) (by kernel_rfl) (by kernel_rfl) (by kernel_rfl) (fun _ _ _ h => hP _ _ _ _ _ h) (by rfl) ?_ (by assumption) ?_
        · intro w hSw
          skip
          go_simp
          try (intro hq; exfalso; omega)
        simp only [Act.put, List.setIfInBounds_toArray, List.set_cons_zero, List.set_cons_succ]
        refine takeL_do (i := 4) (v := (.int .i64 KL)) rfl (by kernel_rfl) (by kernel_rfl) (by kernel_rfl) (by kernel_rfl) (fun _ _ _ h => hP _ _ _ _ _ h) (by rfl) ?_ (by assumption) ?_
        · intro w hSw
          have c := hSw.cell (i := z.toNat) (by omega)
          rw [HKL.out] at c
          go_simp
        simp only [Act.put, List.setIfInBounds_toArray, List.set_cons_zero, List.set_cons_succ]
        clear q0 q1
        refine takeL_call (i := 6) rfl (by kernel_rfl) (fun K2 hK => ?_)
        go_simp
        refine (n_any w.heap.size 90 _ HD.out.src (by omega)).mono ?_
        rintro e Z23 ⟨⟨d2, rfl, d20, d21, _⟩, hD⟩
        replace HD := Lib.hid (HD.out.drew hD)
        replace HQ := Lib.hid (HQ.out.of_block (hD.2.2.2.2.2 _ HQ.out.lt (by have := HQL.out; omega)))
        replace HX := Lib.hid (HX.out.of_block (hD.2.2.2.2.2 _ HX.out.lt (by have := HXL.out; omega)))
        have d2b : 0 ≤ d2 ∧ d2 < 90 := ⟨d20, d21 (by omega)⟩
        clear hD d20 d21
        go_wp2_with fail
        refine hK.out _ _ HQ.out (fun hHeld2 => ?_)
        clear hK hHeld
        have hHeld := hHeld2
        clear hHeld2
        try simp only [Act.put, List.setIfInBounds_toArray, List.set_cons_zero, List.set_cons_succ]
        refine takeL_do (i := 7) (v := (.int .i64 (1 + d2))) rfl (by kernel_rfl) (by kernel_rfl) (by kernel_rfl) (by kernel_rfl) (fun _ _ _ h => hP _ _ _ _ _ h) (by rfl) ?_ (by assumption) ?_
        · intro w hSw
          obtain ⟨q0, q1⟩ := d2b
          go_simp
          exact dwrap (by omega) (by omega)
        simp only [Act.put, List.setIfInBounds_toArray, List.set_cons_zero, List.set_cons_succ]
        refine takeL_do (i := 8) (v := (.agg #[.int .i64 KL, .int .i64 (1 + d2)])) rfl (by kernel_rfl) (by kernel_rfl) (by kernel_rfl) (by kernel_rfl) (fun _ _ _ h => hP _ _ _ _ _ h) (by rfl) ?_ (by assumption) ?_
        · intro w hSw
          skip
          go_simp
        simp only [Act.put, List.setIfInBounds_toArray, List.set_cons_zero, List.set_cons_succ]
        obtain ⟨⟨o0, o1⟩, z0, z1⟩ := rowN2 HX.out
        have l0 := HX.out.lt
        obtain ⟨WZ, hWZ⟩ : ∃ WZ, WZ = (Z23.setCell ⟨xb, 0, none⟩ (.int .i64 KL)).setCell ⟨xb, 1, none⟩ (.int .i64 (1 + d2)) := ⟨_, rfl⟩
        have HY : Hid (DeS lv n zs xb KL (1 + d2) w WZ) := by
          show DeS _ _ _ _ _ _ _ _
          rw [hWZ]
          exact DeS.money (m := 0) (DeS.kind (k := 0) ⟨HD.out, HX.out, HXL.out, HXN.out⟩ KL) (1 + d2)
        have HWZ := Lib.hid hWZ
        clear hWZ
        refine takeL_last rfl (by kernel_rfl) (by kernel_rfl) (fun K2 hK => ?_)
        go_simp
        rw [← HWZ.out]
        refine hK.out _ _ ?_
        clear hK hHeld HWZ o0 o1 z0 z1 l0 HD HX HQ
        exact hQ _ _ _ _ _ _ _ _ _ xb KL (1 + d2) WZ HY
      · go_simp
        refine (n_any w.heap.size 90 _ HD.out.src (by omega)).mono ?_
        rintro e Z24 ⟨⟨d2, rfl, d20, d21, _⟩, hD⟩
        replace HD := Lib.hid (HD.out.drew hD)
        replace HX := Lib.hid (HX.out.of_block (hD.2.2.2.2.2 _ HX.out.lt (by have := HXL.out; omega)))
        have d2b : 0 ≤ d2 ∧ d2 < 90 := ⟨d20, d21 (by omega)⟩
        clear hD d20 d21
        go_wp2_with fail
        refine hK.out _ _ trivial (fun hHeld2 => ?_)
        clear hK hHeld
        have hHeld := hHeld2
        clear hHeld2
        try simp only [Act.put, List.setIfInBounds_toArray, List.set_cons_zero, List.set_cons_succ]
        refine takeL_do (i := 7) (v := (.int .i64 (1 + d2))) rfl (by kernel_rfl) (by kernel_rfl) (by kernel_rfl) (by kernel_rfl) (fun _ _ _ h => hP _ _ _ _ _ h) (by rfl) ?_ (by assumption) ?_
        · intro w hSw
          obtain ⟨q0, q1⟩ := d2b
          go_simp
          exact dwrap (by omega) (by omega)
        simp only [Act.put, List.setIfInBounds_toArray, List.set_cons_zero, List.set_cons_succ]
        refine takeL_call (i := 0) rfl (by kernel_rfl) (fun K2 hK => ?_)
        obtain ⟨Z25, hZ25⟩ : ∃ Z25, Z25 = Z24.alloc (.cells #[.int .i64 1, .int .i64 1, .int .i64 2, .int .i64 2, .int .i64 3] 2) := ⟨_, rfl⟩
        have hb : Below Z24.heap.size Z24 Z25 := by rw [hZ25]; exact nbel_alloc _ _
        obtain ⟨gq, hgq⟩ : ∃ gq, gq = Z24.heap.size := ⟨_, rfl⟩
        have HQL : Hid (w.heap.size < gq) := by show _ < _; rw [hgq]; exact HD.out.src.lt
        replace HD := Lib.hid (HD.out.below hb)
        replace HX := Lib.hid (nrow_below HX.out hb)
        have HQ : Hid (Z25.rowIs gq 2 5 (rowN [.int .i64 1, .int .i64 1, .int .i64 2, .int .i64 2, .int .i64 3])) := by show World.rowIs _ _ _ _ _; rw [hZ25, hgq]; exact rowN_alloc _ _ _
        go_simp
        rw [← hZ25, ← hgq]
        clear hb hZ25 hgq
        refine hK.out _ _ trivial (fun hHeld2 => ?_)
        clear hK hHeld
        have hHeld := hHeld2
        clear hHeld2
        try simp only [Act.put, List.setIfInBounds_toArray, List.set_cons_zero, List.set_cons_succ]
        obtain ⟨KL, hKL⟩ : ∃ KL : Int, rowN [.int .i64 1, .int .i64 1, .int .i64 2, .int .i64 2, .int .i64 3] z.toNat = .int .i64 KL := by
          have h6 : z.toNat = 0 ∨ z.toNat = 1 ∨ z.toNat = 2 ∨ z.toNat = 3 ∨ z.toNat = 4 := by omega
          rcases h6 with h | h | h | h | h <;> rw [h] <;> exact ⟨_, rfl⟩
        have HKL := Lib.hid hKL
        clear hKL
        refine L_strong (S' := fun V => V.rowIs gq 2 5 (rowN [.int .i64 1, .int .i64 1, .int .i64 2, .int .i64 2, .int .i64 3])) (fun _ _ => trivial) _ _ _ _ ?_
        replace hHeld := HQ.out
        obtain ⟨q0, q1⟩ := zb
        refine takeL_do (i := 3) (v := (.pointer (some ⟨gq, z.toNat, none⟩))) rfl (by kernel_rfl) (by kernel_rfl) (by kernel_rfl) (by kernel_rfl) (fun _ _ _ h => hP _ _ _ _ _ h) (by rfl) ?_ (by assumption) ?_
        · intro w hSw
          skip
          go_simp
          try (intro hq; exfalso; omega)
        simp only [Act.put, List.setIfInBounds_toArray, List.set_cons_zero, List.set_cons_succ]
        refine takeL_do (i := 4) (v := (.int .i64 KL)) rfl (by kernel_rfl) (by kernel_rfl) (by kernel_rfl) (by kernel_rfl) (fun _ _ _ h => hP _ _ _ _ _ h) (by rfl) ?_ (by assumption) ?_
        · intro w hSw
          have c := hSw.cell (i := z.toNat) (by omega)
          rw [HKL.out] at c
          go_simp
        simp only [Act.put, List.setIfInBounds_toArray, List.set_cons_zero, List.set_cons_succ]
        clear q0 q1
        refine takeL_do (i := 8) (v := (.agg #[.int .i64 KL, .int .i64 (1 + d2)])) rfl (by kernel_rfl) (by kernel_rfl) (by kernel_rfl) (by kernel_rfl) (fun _ _ _ h => hP _ _ _ _ _ h) (by rfl) ?_ (by assumption) ?_
        · intro w hSw
          skip
          go_simp
        simp only [Act.put, List.setIfInBounds_toArray, List.set_cons_zero, List.set_cons_succ]
        obtain ⟨⟨o0, o1⟩, z0, z1⟩ := rowN2 HX.out
        have l0 := HX.out.lt
        obtain ⟨WZ, hWZ⟩ : ∃ WZ, WZ = (Z25.setCell ⟨xb, 0, none⟩ (.int .i64 KL)).setCell ⟨xb, 1, none⟩ (.int .i64 (1 + d2)) := ⟨_, rfl⟩
        have HY : Hid (DeS lv n zs xb KL (1 + d2) w WZ) := by
          show DeS _ _ _ _ _ _ _ _
          rw [hWZ]
          exact DeS.money (m := 0) (DeS.kind (k := 0) ⟨HD.out, HX.out, HXL.out, HXN.out⟩ KL) (1 + d2)
        have HWZ := Lib.hid hWZ
        clear hWZ
        refine takeL_last rfl (by kernel_rfl) (by kernel_rfl) (fun K2 hK => ?_)
        go_simp
        rw [← HWZ.out]
        refine hK.out _ _ ?_
        clear hK hHeld HWZ o0 o1 z0 z1 l0 HD HX HQ
        exact hQ _ _ _ _ _ _ _ _ _ xb KL (1 + d2) WZ HY
  · obtain ⟨Z26, hZ26⟩ : ∃ Z26, Z26 = Z.alloc (.cells #[.int .i64 0, .int .i64 0] 41) := ⟨_, rfl⟩
    have hb : Below Z.heap.size Z Z26 := by rw [hZ26]; exact nbel_alloc _ _
    obtain ⟨xb, hxb⟩ : ∃ xb, xb = Z.heap.size := ⟨_, rfl⟩
    have HXL : Hid (w.heap.size < xb) := by show _ < _; rw [hxb]; exact HD.out.src.lt
    have HXN : Hid (lv.ownBlock ≠ some xb) := fun e => by have := (HD.out.own.lt _ e).2; omega
    replace HD := Lib.hid (HD.out.below hb)
    have HX : Hid (Z26.rowIs xb 41 2 (rowN [.int .i64 0, .int .i64 0])) := by show World.rowIs _ _ _ _ _; rw [hZ26, hxb]; exact rowN_alloc _ _ _
    go_simp
    rw [← hZ26, ← hxb]
    clear hb hZ26 hxb
    refine hK.out _ _ trivial (fun hHeld2 => ?_)
    clear hK hHeld
    have hHeld := hHeld2
    clear hHeld2
    try simp only [Act.put, List.setIfInBounds_toArray, List.set_cons_zero, List.set_cons_succ]
    refine L_ready (rs := [0, 2]) (by kernel_rfl) (by simp) (AllL.cons (i := 0) rfl (fun K2 hK => ?_) (AllL.cons (i := 2) rfl (fun K2 hK => ?_) (AllL.nil)))
    · obtain ⟨Z27, hZ27⟩ : ∃ Z27, Z27 = Z26.alloc (.cells #[.int .i64 1, .int .i64 1, .int .i64 2, .int .i64 2, .int .i64 3] 2) := ⟨_, rfl⟩
      have hb : Below Z26.heap.size Z26 Z27 := by rw [hZ27]; exact nbel_alloc _ _
      obtain ⟨gq, hgq⟩ : ∃ gq, gq = Z26.heap.size := ⟨_, rfl⟩
      have HQL : Hid (w.heap.size < gq) := by show _ < _; rw [hgq]; exact HD.out.src.lt
      replace HD := Lib.hid (HD.out.below hb)
      replace HX := Lib.hid (nrow_below HX.out hb)
      have HQ : Hid (Z27.rowIs gq 2 5 (rowN [.int .i64 1, .int .i64 1, .int .i64 2, .int .i64 2, .int .i64 3])) := by show World.rowIs _ _ _ _ _; rw [hZ27, hgq]; exact rowN_alloc _ _ _
      go_simp
      rw [← hZ27, ← hgq]
      clear hb hZ27 hgq
      refine hK.out _ _ trivial (fun hHeld2 => ?_)
      clear hK hHeld
      have hHeld := hHeld2
      clear hHeld2
      try simp only [Act.put, List.setIfInBounds_toArray, List.set_cons_zero, List.set_cons_succ]
      refine takeL_call (i := 2) rfl (by kernel_rfl) (fun K2 hK => ?_)
      go_simp
      refine (n_any w.heap.size 5 _ HD.out.src (by omega)).mono ?_
      rintro e Z28 ⟨⟨z, rfl, z0, z1, _⟩, hD⟩
      replace HD := Lib.hid (HD.out.drew hD)
      replace HQ := Lib.hid (HQ.out.of_block (hD.2.2.2.2.2 _ HQ.out.lt (by have := HQL.out; omega)))
      replace HX := Lib.hid (HX.out.of_block (hD.2.2.2.2.2 _ HX.out.lt (by have := HXL.out; omega)))
      have zb : 0 ≤ z ∧ z < 5 := ⟨z0, z1 (by omega)⟩
      clear hD z0 z1
      go_wp2_with fail
      refine hK.out _ _ trivial (fun hHeld2 => ?_)
      clear hK hHeld
      have hHeld := hHeld2
      clear hHeld2
      try simp only [Act.put, List.setIfInBounds_toArray, List.set_cons_zero, List.set_cons_succ]
      obtain ⟨KL, hKL⟩ : ∃ KL : Int, rowN [.int .i64 1, .int .i64 1, .int .i64 2, .int .i64 2, .int .i64 3] z.toNat = .int .i64 KL := by
        have h6 : z.toNat = 0 ∨ z.toNat = 1 ∨ z.toNat = 2 ∨ z.toNat = 3 ∨ z.toNat = 4 := by omega
        rcases h6 with h | h | h | h | h <;> rw [h] <;> exact ⟨_, rfl⟩
      have HKL := Lib.hid hKL
      clear hKL
      refine L_strong (S' := fun V => V.rowIs gq 2 5 (rowN [.int .i64 1, .int .i64 1, .int .i64 2, .int .i64 2, .int .i64 3])) (fun _ _ => trivial) _ _ _ _ ?_
      replace hHeld := HQ.out
      obtain ⟨q0, q1⟩ := zb
      refine takeL_do (i := 3) (v := (.pointer (some ⟨gq, z.toNat, none⟩))) rfl (by kernel_rfl) (by kernel_rfl) (by kernel_rfl) (by kernel_rfl) (fun _ _ _ h => hP _ _ _ _ _ h) (by rfl) ?_ (by assumption) ?_
      · intro w hSw
        skip
        go_simp
        try (intro hq; exfalso; omega)
      simp only [Act.put, List.setIfInBounds_toArray, List.set_cons_zero, List.set_cons_succ]
      refine takeL_do (i := 4) (v := (.int .i64 KL)) rfl (by kernel_rfl) (by kernel_rfl) (by kernel_rfl) (by kernel_rfl) (fun _ _ _ h => hP _ _ _ _ _ h) (by rfl) ?_ (by assumption) ?_
      · intro w hSw
        have c := hSw.cell (i := z.toNat) (by omega)
        rw [HKL.out] at c
        go_simp
      simp only [Act.put, List.setIfInBounds_toArray, List.set_cons_zero, List.set_cons_succ]
      clear q0 q1
      refine takeL_call (i := 6) rfl (by kernel_rfl) (fun K2 hK => ?_)
      go_simp
      refine (n_any w.heap.size 90 _ HD.out.src (by omega)).mono ?_
      rintro e Z29 ⟨⟨d2, rfl, d20, d21, _⟩, hD⟩
      replace HD := Lib.hid (HD.out.drew hD)
      replace HQ := Lib.hid (HQ.out.of_block (hD.2.2.2.2.2 _ HQ.out.lt (by have := HQL.out; omega)))
      replace HX := Lib.hid (HX.out.of_block (hD.2.2.2.2.2 _ HX.out.lt (by have := HXL.out; omega)))
      have d2b : 0 ≤ d2 ∧ d2 < 90 := ⟨d20, d21 (by omega)⟩
      clear hD d20 d21
      go_wp2_with fail
      refine hK.out _ _ HQ.out (fun hHeld2 => ?_)
      clear hK hHeld
      have hHeld := hHeld2
      clear hHeld2
      try simp only [Act.put, List.setIfInBounds_toArray, List.set_cons_zero, List.set_cons_succ]
      refine takeL_do (i := 7) (v := (.int .i64 (1 + d2))) rfl (by kernel_rfl) (by kernel_rfl) (by kernel_rfl) (by kernel_rfl) (fun _ _ _ h => hP _ _ _ _ _ h) (by rfl) ?_ (by assumption) ?_
      · intro w hSw
        obtain ⟨q0, q1⟩ := d2b
        go_simp
        exact dwrap (by omega) (by omega)
      simp only [Act.put, List.setIfInBounds_toArray, List.set_cons_zero, List.set_cons_succ]
      refine takeL_do (i := 8) (v := (.agg #[.int .i64 KL, .int .i64 (1 + d2)])) rfl (by kernel_rfl) (by kernel_rfl) (by kernel_rfl) (by kernel_rfl) (fun _ _ _ h => hP _ _ _ _ _ h) (by rfl) ?_ (by assumption) ?_
      · intro w hSw
        skip
        go_simp
      simp only [Act.put, List.setIfInBounds_toArray, List.set_cons_zero, List.set_cons_succ]
      obtain ⟨⟨o0, o1⟩, z0, z1⟩ := rowN2 HX.out
      have l0 := HX.out.lt
      obtain ⟨WZ, hWZ⟩ : ∃ WZ, WZ = (Z29.setCell ⟨xb, 0, none⟩ (.int .i64 KL)).setCell ⟨xb, 1, none⟩ (.int .i64 (1 + d2)) := ⟨_, rfl⟩
      have HY : Hid (DeS lv n zs xb KL (1 + d2) w WZ) := by
        show DeS _ _ _ _ _ _ _ _
        rw [hWZ]
        exact DeS.money (m := 0) (DeS.kind (k := 0) ⟨HD.out, HX.out, HXL.out, HXN.out⟩ KL) (1 + d2)
      have HWZ := Lib.hid hWZ
      clear hWZ
      refine takeL_last rfl (by kernel_rfl) (by kernel_rfl) (fun K2 hK => ?_)
      go_simp
      rw [← HWZ.out]
      refine hK.out _ _ ?_
      clear hK hHeld HWZ o0 o1 z0 z1 l0 HD HX HQ
      exact hQ _ _ _ _ _ _ _ _ _ xb KL (1 + d2) WZ HY
    · go_simp
      refine (n_any w.heap.size 5 _ HD.out.src (by omega)).mono ?_
      rintro e Z30 ⟨⟨z, rfl, z0, z1, _⟩, hD⟩
      replace HD := Lib.hid (HD.out.drew hD)
      replace HX := Lib.hid (HX.out.of_block (hD.2.2.2.2.2 _ HX.out.lt (by have := HXL.out; omega)))
      have zb : 0 ≤ z ∧ z < 5 := ⟨z0, z1 (by omega)⟩
      clear hD z0 z1
      go_wp2_with fail
      refine hK.out _ _ trivial (fun hHeld2 => ?_)
      clear hK hHeld
      have hHeld := hHeld2
      clear hHeld2
      try simp only [Act.put, List.setIfInBounds_toArray, List.set_cons_zero, List.set_cons_succ]
      refine L_ready (rs := [0, 6]) (by kernel_rfl) (by simp) (AllL.cons (i := 0) rfl (fun K2 hK => ?_) (AllL.cons (i := 6) rfl (fun K2 hK => ?_) (AllL.nil)))
      · obtain ⟨Z31, hZ31⟩ : ∃ Z31, Z31 = Z30.alloc (.cells #[.int .i64 1, .int .i64 1, .int .i64 2, .int .i64 2, .int .i64 3] 2) := ⟨_, rfl⟩
        have hb : Below Z30.heap.size Z30 Z31 := by rw [hZ31]; exact nbel_alloc _ _
        obtain ⟨gq, hgq⟩ : ∃ gq, gq = Z30.heap.size := ⟨_, rfl⟩
        have HQL : Hid (w.heap.size < gq) := by show _ < _; rw [hgq]; exact HD.out.src.lt
        replace HD := Lib.hid (HD.out.below hb)
        replace HX := Lib.hid (nrow_below HX.out hb)
        have HQ : Hid (Z31.rowIs gq 2 5 (rowN [.int .i64 1, .int .i64 1, .int .i64 2, .int .i64 2, .int .i64 3])) := by show World.rowIs _ _ _ _ _; rw [hZ31, hgq]; exact rowN_alloc _ _ _
        go_simp
        rw [← hZ31, ← hgq]
        clear hb hZ31 hgq
        refine hK.out _ _ trivial (fun hHeld2 => ?_)
        clear hK hHeld
        have hHeld := hHeld2
        clear hHeld2
        try simp only [Act.put, List.setIfInBounds_toArray, List.set_cons_zero, List.set_cons_succ]
        obtain ⟨KL, hKL⟩ : ∃ KL : Int, rowN [.int .i64 1, .int .i64 1, .int .i64 2, .int .i64 2, .int .i64 3] z.toNat = .int .i64 KL := by
          have h6 : z.toNat = 0 ∨ z.toNat = 1 ∨ z.toNat = 2 ∨ z.toNat = 3 ∨ z.toNat = 4 := by omega
          rcases h6 with h | h | h | h | h <;> rw [h] <;> exact ⟨_, rfl⟩
        have HKL := Lib.hid hKL
        clear hKL
        refine L_strong (S' := fun V => V.rowIs gq 2 5 (rowN [.int .i64 1, .int .i64 1, .int .i64 2, .int .i64 2, .int .i64 3])) (fun _ _ => trivial) _ _ _ _ ?_
        replace hHeld := HQ.out
        obtain ⟨q0, q1⟩ := zb
        refine takeL_do (i := 3) (v := (.pointer (some ⟨gq, z.toNat, none⟩))) rfl (by kernel_rfl) (by kernel_rfl) (by kernel_rfl) (by kernel_rfl) (fun _ _ _ h => hP _ _ _ _ _ h) (by rfl) ?_ (by assumption) ?_
        · intro w hSw
          skip
          go_simp
          try (intro hq; exfalso; omega)
        simp only [Act.put, List.setIfInBounds_toArray, List.set_cons_zero, List.set_cons_succ]
        refine takeL_do (i := 4) (v := (.int .i64 KL)) rfl (by kernel_rfl) (by kernel_rfl) (by kernel_rfl) (by kernel_rfl) (fun _ _ _ h => hP _ _ _ _ _ h) (by rfl) ?_ (by assumption) ?_
        · intro w hSw
          have c := hSw.cell (i := z.toNat) (by omega)
          rw [HKL.out] at c
          go_simp
        simp only [Act.put, List.setIfInBounds_toArray, List.set_cons_zero, List.set_cons_succ]
        clear q0 q1
        refine takeL_call (i := 6) rfl (by kernel_rfl) (fun K2 hK => ?_)
        go_simp
        refine (n_any w.heap.size 90 _ HD.out.src (by omega)).mono ?_
        rintro e Z32 ⟨⟨d2, rfl, d20, d21, _⟩, hD⟩
        replace HD := Lib.hid (HD.out.drew hD)
        replace HQ := Lib.hid (HQ.out.of_block (hD.2.2.2.2.2 _ HQ.out.lt (by have := HQL.out; omega)))
        replace HX := Lib.hid (HX.out.of_block (hD.2.2.2.2.2 _ HX.out.lt (by have := HXL.out; omega)))
        have d2b : 0 ≤ d2 ∧ d2 < 90 := ⟨d20, d21 (by omega)⟩
        clear hD d20 d21
        go_wp2_with fail
        refine hK.out _ _ HQ.out (fun hHeld2 => ?_)
        clear hK hHeld
        have hHeld := hHeld2
        clear hHeld2
        try simp only [Act.put, List.setIfInBounds_toArray, List.set_cons_zero, List.set_cons_succ]
        refine takeL_do (i := 7) (v := (.int .i64 (1 + d2))) rfl (by kernel_rfl) (by kernel_rfl) (by kernel_rfl) (by kernel_rfl) (fun _ _ _ h => hP _ _ _ _ _ h) (by rfl) ?_ (by assumption) ?_
        · intro w hSw
          obtain ⟨q0, q1⟩ := d2b
          go_simp
          exact dwrap (by omega) (by omega)
        simp only [Act.put, List.setIfInBounds_toArray, List.set_cons_zero, List.set_cons_succ]
        refine takeL_do (i := 8) (v := (.agg #[.int .i64 KL, .int .i64 (1 + d2)])) rfl (by kernel_rfl) (by kernel_rfl) (by kernel_rfl) (by kernel_rfl) (fun _ _ _ h => hP _ _ _ _ _ h) (by rfl) ?_ (by assumption) ?_
        · intro w hSw
          skip
          go_simp
        simp only [Act.put, List.setIfInBounds_toArray, List.set_cons_zero, List.set_cons_succ]
        obtain ⟨⟨o0, o1⟩, z0, z1⟩ := rowN2 HX.out
        have l0 := HX.out.lt
        obtain ⟨WZ, hWZ⟩ : ∃ WZ, WZ = (Z32.setCell ⟨xb, 0, none⟩ (.int .i64 KL)).setCell ⟨xb, 1, none⟩ (.int .i64 (1 + d2)) := ⟨_, rfl⟩
        have HY : Hid (DeS lv n zs xb KL (1 + d2) w WZ) := by
          show DeS _ _ _ _ _ _ _ _
          rw [hWZ]
          exact DeS.money (m := 0) (DeS.kind (k := 0) ⟨HD.out, HX.out, HXL.out, HXN.out⟩ KL) (1 + d2)
        have HWZ := Lib.hid hWZ
        clear hWZ
        refine takeL_last rfl (by kernel_rfl) (by kernel_rfl) (fun K2 hK => ?_)
        go_simp
        rw [← HWZ.out]
        refine hK.out _ _ ?_
        clear hK hHeld HWZ o0 o1 z0 z1 l0 HD HX HQ
        exact hQ _ _ _ _ _ _ _ _ _ xb KL (1 + d2) WZ HY
      · go_simp
        refine (n_any w.heap.size 90 _ HD.out.src (by omega)).mono ?_
        rintro e Z33 ⟨⟨d2, rfl, d20, d21, _⟩, hD⟩
        replace HD := Lib.hid (HD.out.drew hD)
        replace HX := Lib.hid (HX.out.of_block (hD.2.2.2.2.2 _ HX.out.lt (by have := HXL.out; omega)))
        have d2b : 0 ≤ d2 ∧ d2 < 90 := ⟨d20, d21 (by omega)⟩
        clear hD d20 d21
        go_wp2_with fail
        refine hK.out _ _ trivial (fun hHeld2 => ?_)
        clear hK hHeld
        have hHeld := hHeld2
        clear hHeld2
        try simp only [Act.put, List.setIfInBounds_toArray, List.set_cons_zero, List.set_cons_succ]
        refine takeL_do (i := 7) (v := (.int .i64 (1 + d2))) rfl (by kernel_rfl) (by kernel_rfl) (by kernel_rfl) (by kernel_rfl) (fun _ _ _ h => hP _ _ _ _ _ h) (by rfl) ?_ (by assumption) ?_
        · intro w hSw
          obtain ⟨q0, q1⟩ := d2b
          go_simp
          exact dwrap (by omega) (by omega)
        simp only [Act.put, List.setIfInBounds_toArray, List.set_cons_zero, List.set_cons_succ]
        refine takeL_call (i := 0) rfl (by kernel_rfl) (fun K2 hK => ?_)
        obtain ⟨Z34, hZ34⟩ : ∃ Z34, Z34 = Z33.alloc (.cells #[.int .i64 1, .int .i64 1, .int .i64 2, .int .i64 2, .int .i64 3] 2) := ⟨_, rfl⟩
        have hb : Below Z33.heap.size Z33 Z34 := by rw [hZ34]; exact nbel_alloc _ _
        obtain ⟨gq, hgq⟩ : ∃ gq, gq = Z33.heap.size := ⟨_, rfl⟩
        have HQL : Hid (w.heap.size < gq) := by show _ < _; rw [hgq]; exact HD.out.src.lt
        replace HD := Lib.hid (HD.out.below hb)
        replace HX := Lib.hid (nrow_below HX.out hb)
        have HQ : Hid (Z34.rowIs gq 2 5 (rowN [.int .i64 1, .int .i64 1, .int .i64 2, .int .i64 2, .int .i64 3])) := by show World.rowIs _ _ _ _ _; rw [hZ34, hgq]; exact rowN_alloc _ _ _
        go_simp
        rw [← hZ34, ← hgq]
        clear hb hZ34 hgq
        refine hK.out _ _ trivial (fun hHeld2 => ?_)
        clear hK hHeld
        have hHeld := hHeld2
        clear hHeld2
        try simp only [Act.put, List.setIfInBounds_toArray, List.set_cons_zero, List.set_cons_succ]
        obtain ⟨KL, hKL⟩ : ∃ KL : Int, rowN [.int .i64 1, .int .i64 1, .int .i64 2, .int .i64 2, .int .i64 3] z.toNat = .int .i64 KL := by
          have h6 : z.toNat = 0 ∨ z.toNat = 1 ∨ z.toNat = 2 ∨ z.toNat = 3 ∨ z.toNat = 4 := by omega
          rcases h6 with h | h | h | h | h <;> rw [h] <;> exact ⟨_, rfl⟩
        have HKL := Lib.hid hKL
        clear hKL
        refine L_strong (S' := fun V => V.rowIs gq 2 5 (rowN [.int .i64 1, .int .i64 1, .int .i64 2, .int .i64 2, .int .i64 3])) (fun _ _ => trivial) _ _ _ _ ?_
        replace hHeld := HQ.out
        obtain ⟨q0, q1⟩ := zb
        refine takeL_do (i := 3) (v := (.pointer (some ⟨gq, z.toNat, none⟩))) rfl (by kernel_rfl) (by kernel_rfl) (by kernel_rfl) (by kernel_rfl) (fun _ _ _ h => hP _ _ _ _ _ h) (by rfl) ?_ (by assumption) ?_
        · intro w hSw
          skip
          go_simp
          try (intro hq; exfalso; omega)
        simp only [Act.put, List.setIfInBounds_toArray, List.set_cons_zero, List.set_cons_succ]
        refine takeL_do (i := 4) (v := (.int .i64 KL)) rfl (by kernel_rfl) (by kernel_rfl) (by kernel_rfl) (by kernel_rfl) (fun _ _ _ h => hP _ _ _ _ _ h) (by rfl) ?_ (by assumption) ?_
        · intro w hSw
          have c := hSw.cell (i := z.toNat) (by omega)
          rw [HKL.out] at c
          go_simp
        simp only [Act.put, List.setIfInBounds_toArray, List.set_cons_zero, List.set_cons_succ]
        clear q0 q1
        refine takeL_do (i := 8) (v := (.agg #[.int .i64 KL, .int .i64 (1 + d2)])) rfl (by kernel_rfl) (by kernel_rfl) (by kernel_rfl) (by kernel_rfl) (fun _ _ _ h => hP _ _ _ _ _ h) (by rfl) ?_ (by assumption) ?_
        · intro w hSw
          skip
          go_simp
        simp only [Act.put, List.setIfInBounds_toArray, List.set_cons_zero, List.set_cons_succ]
        obtain ⟨⟨o0, o1⟩, z0, z1⟩ := rowN2 HX.out
        have l0 := HX.out.lt
        obtain ⟨WZ, hWZ⟩ : ∃ WZ, WZ = (Z34.setCell ⟨xb, 0, none⟩ (.int .i64 KL)).setCell ⟨xb, 1, none⟩ (.int .i64 (1 + d2)) := ⟨_, rfl⟩
        have HY : Hid (DeS lv n zs xb KL (1 + d2) w WZ) := by
          show DeS _ _ _ _ _ _ _ _
          rw [hWZ]
          exact DeS.money (m := 0) (DeS.kind (k := 0) ⟨HD.out, HX.out, HXL.out, HXN.out⟩ KL) (1 + d2)
        have HWZ := Lib.hid hWZ
        clear hWZ
        refine takeL_last rfl (by kernel_rfl) (by kernel_rfl) (fun K2 hK => ?_)
        go_simp
        rw [← HWZ.out]
        refine hK.out _ _ ?_
        clear hK hHeld HWZ o0 o1 z0 z1 l0 HD HX HQ
        exact hQ _ _ _ _ _ _ _ _ _ xb KL (1 + d2) WZ HY
theorem acc_credit (cr pd cd : Int) (n : Nat) (a : Option Addr) (c : Nat) (w : World) : (Instr.field 38 (acV cr pd cd n a c) 1).run Tryd.prog w = .ok (.int .i64 cr) w := by kernel_rfl
theorem ls_at {T : TypeId} {s B n c : Nat} {zs : List Int} {a : Option Addr} {W : World} (h : W.ownsRow B T s (.slice a n c) n (iv zs)) : IsAt a (n * s) (qf zs) W := by
  obtain ⟨a', c', e, h2⟩ := ls_of h
  cases e
  exact h2.at_
set_option maxRecDepth 100000 in
set_option maxHeartbeats 32000000 in
theorem bireg11 {w : World} (a : Option Addr) (n c : Nat) (zs : List Int) (xb : Nat) (k m : Int) (x0 x1 x2 x5 x7 x8 x9 x10 x11 x12 x13 x14 x15 x16 x17 x18 x19 x20 x21 x22 x23 x24 x25 x26 x27 x28 x29 x30 x31 x32 x33 x34 x35 x36 x37 x38 x39 x40 x41 x42 x43 x44 x45 x46 x47 x48 x49 x50 x51 x52 x53 x54 x55 x56 x57 x58 x59 x60 x61 x62 x63 x64 x65 x66 x67 x68 x69 x70 x71 x72 : Value) (ds : _) (Q : Exit → Act → World → Prop) (W0 : World)
    (HE : Hid (DeS (.slice a n c) n zs xb k m w W0)) (hn9 : n ≤ 9223372036854775807) (hP : ∀ c (a : Act) o v w, Q (.panic c) (a.put o v) w → Q (.panic c) a w)
    (hQ : ∀ (y42 y43 y44 y45 y46 y47 y48 y49 y50 y51 : Value) (bb : Bool) (WZ : World), Hid (DeS (.slice a n c) n zs xb k m w WZ) → Q .normal { tmps := #[x0, x1, x2, (.pointer (some ⟨w.heap.size, 0, none⟩)), (.slice a n c), x5, (.pointer (some ⟨xb, 0, none⟩)), x7, x8, x9, x10, x11, x12, x13, x14, x15, x16, x17, x18, x19, x20, x21, x22, x23, x24, x25, x26, x27, x28, x29, x30, x31, x32, x33, x34, x35, x36, x37, x38, x39, x40, x41, y42, y43, y44, y45, y46, y47, y48, y49, y50, y51, (.bool bb), x53, x54, x55, x56, x57, x58, x59, x60, x61, x62, x63, x64, x65, x66, x67, x68, x69, x70, x71, x72], defers := ds } WZ) :
    (Code.region 11 #[{ dst := some 42, op := Op.move (Operand.tmp 4), type := 35, pos := "l16_bills.go:206", after := #[], guard := none }, { dst := some 43, op := Op.call { callee := Callee.value (Operand.func 14), args := #[Operand.tmp 42], argTypes := #[35] }, type := 38, pos := "l16_bills.go:206", after := #[{ on := 0, ground := Ground.data }], guard := none }, { dst := some 44, op := Op.field 38 (Operand.tmp 43) 1, type := 2, pos := "l16_bills.go:206", after := #[{ on := 1, ground := Ground.data }], guard := none }, { dst := some 45, op := Op.fieldAddr 41 (Operand.tmp 6) 1, type := 0, pos := "l16_bills.go:206", after := #[], guard := none }, { dst := some 46, op := Op.load 2 (Operand.tmp 45), type := 2, pos := "l16_bills.go:206", after := #[{ on := 3, ground := Ground.data }], guard := none }, { dst := some 47, op := Op.binOp BinOp.lss 2 (Operand.tmp 44) (Operand.tmp 46) 2, type := 4, pos := "l16_bills.go:206", after := #[{ on := 2, ground := Ground.data }, { on := 4, ground := Ground.data }], guard := none }, { dst := some 48, op := Op.move (Operand.tmp 47), type := 4, pos := "l16_bills.go:206", after := #[{ on := 5, ground := Ground.data }, { on := 1, ground := Ground.chain }], guard := none }, { dst := some 49, op := Op.move (Operand.tmp 3), type := 64, pos := "l16_bills.go:206", after := #[{ on := 6, ground := Ground.guard }], guard := some (6, true) }, { dst := some 50, op := Op.call { callee := Callee.value (Operand.func 36), args := #[Operand.tmp 49, Operand.const (Value.int IntKind.i64 6)], argTypes := #[64, 2] }, type := 4, pos := "l16_bills.go:206", after := #[{ on := 7, ground := Ground.data }, { on := 6, ground := Ground.chain }, { on := 6, ground := Ground.guard }], guard := some (6, true) }, { dst := some 51, op := Op.unOp UnOp.not 4 (Operand.tmp 50), type := 4, pos := "l16_bills.go:206", after := #[{ on := 8, ground := Ground.data }, { on := 6, ground := Ground.guard }], guard := some (6, true) }, { dst := some 52, op := Op.pick (Operand.tmp 48) (Operand.tmp 51) (Operand.const (Value.bool false)), type := 4, pos := "l16_bills.go:206", after := #[{ on := 6, ground := Ground.data }, { on := 9, ground := Ground.data }], guard := none }] true).wp Tryd.prog Q { tmps := #[x0, x1, x2, (.pointer (some ⟨w.heap.size, 0, none⟩)), (.slice a n c), x5, (.pointer (some ⟨xb, 0, none⟩)), x7, x8, x9, x10, x11, x12, x13, x14, x15, x16, x17, x18, x19, x20, x21, x22, x23, x24, x25, x26, x27, x28, x29, x30, x31, x32, x33, x34, x35, x36, x37, x38, x39, x40, x41, x42, x43, x44, x45, x46, x47, x48, x49, x50, x51, x52, x53, x54, x55, x56, x57, x58, x59, x60, x61, x62, x63, x64, x65, x66, x67, x68, x69, x70, x71, x72], defers := ds } W0 := by
  refine wp_region_held_drew (S := fun V => DeS (.slice a n c) n zs xb k m w V) (by kernel_rfl) (HE.out.below (Below.refl _ _).drew) (fun hHeld => ?_)
  obtain ⟨Z, hZ⟩ : ∃ Z, Z = W0.drew := ⟨_, rfl⟩
  rw [← hZ] at hHeld ⊢
  clear hZ HE
  refine take_do (i := 0) (v := (.slice a n c)) rfl (by kernel_rfl) (by kernel_rfl) (by kernel_rfl) (fun _ _ _ h => hP _ _ _ _ _ h) (by rfl) ?_ (by assumption) ?_
  · intro w hSw
    skip
    go_simp
  simp only [Act.put, List.setIfInBounds_toArray, List.set_cons_zero, List.set_cons_succ]
  refine take_do (i := 3) (v := (.pointer (some ⟨xb, 1, none⟩))) rfl (by kernel_rfl) (by kernel_rfl) (by kernel_rfl) (fun _ _ _ h => hP _ _ _ _ _ h) (by rfl) ?_ (by assumption) ?_
  · intro w hSw
    skip
    go_simp
  simp only [Act.put, List.setIfInBounds_toArray, List.set_cons_zero, List.set_cons_succ]
  refine take_do (i := 4) (v := (.int .i64 m)) rfl (by kernel_rfl) (by kernel_rfl) (by kernel_rfl) (fun _ _ _ h => hP _ _ _ _ _ h) (by rfl) ?_ (by assumption) ?_
  · intro w hSw
    obtain ⟨⟨q0, q1⟩, _⟩ := rowN2 hSw.row
    go_simp
  simp only [Act.put, List.setIfInBounds_toArray, List.set_cons_zero, List.set_cons_succ]
  refine take_call (i := 1) rfl (by kernel_rfl) (fun K2 hK => ?_)
  go_simp
  refine (specAcc_any a n c (qf zs) _ (ls_at hHeld.d.own) hn9).mono ?_
  rintro e Z1 ⟨⟨a5, c5, rfl, _⟩, hb⟩
  obtain ⟨C, hC⟩ : ∃ C, C = Bi.ansC (qf zs) n := ⟨_, rfl⟩
  rw [← hC]
  clear hC
  go_wp2_with fail
  refine hK.out _ _ (hHeld.below hb) (fun hHeld2 => ?_)
  clear hK hHeld hb
  have hHeld := hHeld2
  clear hHeld2
  try simp only [Act.put, List.setIfInBounds_toArray, List.set_cons_zero, List.set_cons_succ]
  refine take_do (i := 2) (v := (.int .i64 C)) rfl (by kernel_rfl) (by kernel_rfl) (by kernel_rfl) (fun _ _ _ h => hP _ _ _ _ _ h) (by rfl) ?_ (by assumption) ?_
  · intro w hSw
    have hfld := acc_credit C (Bi.ansP (qf zs) n) (Bi.code (qf zs) n) (Bi.ansO (qf zs) n).length a5 c5 w
    go_simp
  simp only [Act.put, List.setIfInBounds_toArray, List.set_cons_zero, List.set_cons_succ]
  by_cases hc : C < m
  · refine take_do (i := 5) (v := (.bool true)) rfl (by kernel_rfl) (by kernel_rfl) (by kernel_rfl) (fun _ _ _ h => hP _ _ _ _ _ h) (by rfl) ?_ (by assumption) ?_
    · intro w hSw
      skip
      go_simp
    simp only [Act.put, List.setIfInBounds_toArray, List.set_cons_zero, List.set_cons_succ]
    refine take_do (i := 6) (v := (.bool true)) rfl (by kernel_rfl) (by kernel_rfl) (by kernel_rfl) (fun _ _ _ h => hP _ _ _ _ _ h) (by rfl) ?_ (by assumption) ?_
    · intro w hSw
      skip
      go_simp
    simp only [Act.put, List.setIfInBounds_toArray, List.set_cons_zero, List.set_cons_succ]
    refine take_do (i := 7) (v := (.pointer (some ⟨w.heap.size, 0, none⟩))) rfl (by kernel_rfl) (by kernel_rfl) (by kernel_rfl) (fun _ _ _ h => hP _ _ _ _ _ h) (by rfl) ?_ (by assumption) ?_
    · intro w hSw
      skip
      go_simp
    simp only [Act.put, List.setIfInBounds_toArray, List.set_cons_zero, List.set_cons_succ]
    refine take_call (i := 8) rfl (by kernel_rfl) (fun K2 hK => ?_)
    go_simp
    refine (one_any w.heap.size 6 _ hHeld.d.src (by omega)).mono ?_
    rintro e Z2 ⟨⟨b1, rfl⟩, hD⟩
    go_wp2_with fail
    refine hK.out _ _ (hHeld.drew hD) (fun hHeld2 => ?_)
    clear hK hHeld hD
    have hHeld := hHeld2
    clear hHeld2
    try simp only [Act.put, List.setIfInBounds_toArray, List.set_cons_zero, List.set_cons_succ]
    refine take_do (i := 9) (v := (.bool !b1)) rfl (by kernel_rfl) (by kernel_rfl) (by kernel_rfl) (fun _ _ _ h => hP _ _ _ _ _ h) (by rfl) ?_ (by assumption) ?_
    · intro w hSw
      skip
      go_simp
    simp only [Act.put, List.setIfInBounds_toArray, List.set_cons_zero, List.set_cons_succ]
    refine take_do (i := 10) (v := (.bool !b1)) rfl (by kernel_rfl) (by kernel_rfl) (by kernel_rfl) (fun _ _ _ h => hP _ _ _ _ _ h) (by rfl) ?_ (by assumption) ?_
    · intro w hSw
      skip
      go_simp
    simp only [Act.put, List.setIfInBounds_toArray, List.set_cons_zero, List.set_cons_succ]
    refine wpAnyH_done (by kernel_rfl) ?_ _
    exact hQ _ _ _ _ _ _ _ _ _ _ _ _ (Lib.hid hHeld)
  · refine take_do (i := 5) (v := (.bool false)) rfl (by kernel_rfl) (by kernel_rfl) (by kernel_rfl) (fun _ _ _ h => hP _ _ _ _ _ h) (by rfl) ?_ (by assumption) ?_
    · intro w hSw
      skip
      go_simp
    simp only [Act.put, List.setIfInBounds_toArray, List.set_cons_zero, List.set_cons_succ]
    refine take_do (i := 6) (v := (.bool false)) rfl (by kernel_rfl) (by kernel_rfl) (by kernel_rfl) (fun _ _ _ h => hP _ _ _ _ _ h) (by rfl) ?_ (by assumption) ?_
    · intro w hSw
      skip
      go_simp
    simp only [Act.put, List.setIfInBounds_toArray, List.set_cons_zero, List.set_cons_succ]
    refine take_skip (i := 7) rfl (by kernel_rfl) (by kernel_rfl) (by kernel_rfl) (fun _ _ _ h => hP _ _ _ _ _ h) (by rfl) (by assumption) ?_
    simp only [Act.put, List.setIfInBounds_toArray, List.set_cons_zero, List.set_cons_succ]
    refine take_skip (i := 8) rfl (by kernel_rfl) (by kernel_rfl) (by kernel_rfl) (fun _ _ _ h => hP _ _ _ _ _ h) (by rfl) (by assumption) ?_
    simp only [Act.put, List.setIfInBounds_toArray, List.set_cons_zero, List.set_cons_succ]
    refine take_skip (i := 9) rfl (by kernel_rfl) (by kernel_rfl) (by kernel_rfl) (fun _ _ _ h => hP _ _ _ _ _ h) (by rfl) (by assumption) ?_
    simp only [Act.put, List.setIfInBounds_toArray, List.set_cons_zero, List.set_cons_succ]
    refine take_do (i := 10) (v := (.bool false)) rfl (by kernel_rfl) (by kernel_rfl) (by kernel_rfl) (fun _ _ _ h => hP _ _ _ _ _ h) (by rfl) ?_ (by assumption) ?_
    · intro w hSw
      skip
      go_simp
    simp only [Act.put, List.setIfInBounds_toArray, List.set_cons_zero, List.set_cons_succ]
    refine wpAnyH_done (by kernel_rfl) ?_ _
    exact hQ _ _ _ _ _ _ _ _ _ _ _ _ (Lib.hid hHeld)
end Go.Proofs.YtnbnfifgajfomaaDoor
