/-
  errors.As at the target *looseNode: an error that is a refusal, wrapped once, is none.
-/
import Derived.Test.YtkaokfmaecdkiaaGreatDoorAsC
import Derived.Test.YtkaokfmaecdkiaaGreatDoorNtFr
import Derived.Test.YtkaokfmaecdkiaaGreatDoorReg
namespace Go.Proofs.YtkaokfmaecdkiaaGreatDoor
open Go.RowKit Go.Extern.Stop Go.Stop Go.Extern

namespace AsL
theorem valueOfP (t : Addr) (w : World) : (ReflectliteValue.unpack (.iface 122 (.pointer (some t)))).run Tryz.prog w
    = .ok (.agg #[.pointer (some ⟨1, 122, none⟩), .pointer (some ⟨w.heap.size, 0, none⟩), .int .u64 150]) (w.alloc (.cells #[.pointer (some t)] 122)) := by kernel_rfl
theorem typeP (a : Addr) (w : World) : (ReflectliteValue.methodAny (ReflectliteValue.valueError "reflectlite.Value.Type" 0) (fun t _ _ _ => ReflectliteType.toType t) #[.agg #[.pointer (some ⟨1, 122, none⟩), .pointer (some a), .int .u64 150]]).run Tryz.prog w
    = .ok (.iface 153 (.agg #[.pointer (some ⟨1, 122, none⟩)])) w := by kernel_rfl
theorem kindP (w : World) : ((ReflectliteType.abiMethod fun t => (fun a : Nat => Value.int IntKind.u8 (a : Int)) <$> Rtype.kind t) #[.pointer (some ⟨1, 122, none⟩)]).run Tryz.prog w = .ok (.int .u8 22) w := by kernel_rfl
theorem kindE (w : World) : ((ReflectliteType.abiMethod fun t => (fun a : Nat => Value.int IntKind.u8 (a : Int)) <$> Rtype.kind t) #[.pointer (some ⟨1, 107, none⟩)]).run Tryz.prog w = .ok (.int .u8 25) w := by kernel_rfl
theorem partsP (a : Addr) (w : World) : (ReflectliteValue.parts (.agg #[.pointer (some ⟨1, 122, none⟩), .pointer (some a), .int .u64 150])).run Tryz.prog w = .ok (some (122, a, 150)) w := by kernel_rfl
theorem isNilP (a p : Addr) (W : World) (ha : W.cell? a = some (.pointer (some p))) :
    (ReflectliteValue.method (ReflectliteValue.valueError "reflectlite.Value.IsNil" 0) ReflectliteValue.isNil #[.agg #[.pointer (some ⟨1, 122, none⟩), .pointer (some a), .int .u64 150]]).run Tryz.prog W = .ok (.bool false) W := by
  rw [As.rlm]
  simp only [Sem.run_bind, partsP, Result.andThen]
  simp [ReflectliteValue.isNil, loadVar, isAgg, underlying, Tryz.underlying122, ha, Result.andThen]
theorem elemP (w : World) : (ReflectliteType.method ReflectliteType.elem #[.agg #[.pointer (some ⟨1, 122, none⟩)]]).run Tryz.prog w = .ok (.iface 153 (.agg #[.pointer (some ⟨1, 107, none⟩)])) w := by kernel_rfl
theorem implementsE (w : World) : (ReflectliteType.relation "Implements" ReflectliteType.implements_ #[.agg #[.pointer (some ⟨1, 107, none⟩)], .iface 153 (.agg #[.pointer (some ⟨1, 99, none⟩)])]).run Tryz.prog w = .ok (.bool true) w := by kernel_rfl
theorem assignableD (w : World) : (ReflectliteType.relation "AssignableTo" ReflectliteType.assignableTo #[.agg #[.pointer (some ⟨1, 105, none⟩)], .iface 153 (.agg #[.pointer (some ⟨1, 107, none⟩)])]).run Tryz.prog w = .ok (.bool false) w := by kernel_rfl
theorem assignableR (w : World) : (ReflectliteType.relation "AssignableTo" ReflectliteType.assignableTo #[.agg #[.pointer (some ⟨1, 103, none⟩)], .iface 153 (.agg #[.pointer (some ⟨1, 107, none⟩)])]).run Tryz.prog w = .ok (.bool false) w := by kernel_rfl
end AsL
set_option maxHeartbeats 4000000 in
theorem asL_none (s : ByteArray) (c : Int) (tv : Value) (vb : Nat) (w : World) :
    Calls Tryz.prog 101 #[errV s c, tv, .agg #[.pointer (some ⟨1, 122, none⟩), .pointer (some ⟨vb, 0, none⟩), .int .u64 150], .iface 153 (.agg #[.pointer (some ⟨1, 107, none⟩)])] w fun e w' => e = .returned (.bool false) ∧ Below w.heap.size w w' := by
  have h29 := @run_callFunc_extern Tryz.prog 108 _ ReflectliteType.typeOf Tryz.func108 (by kernel_rfl) (by kernel_rfl) (by kernel_rfl) (by kernel_rfl)
  have h56 := @run_callFunc_extern Tryz.prog 139 _ (ReflectliteType.relation "AssignableTo" ReflectliteType.assignableTo) Tryz.func139 (by kernel_rfl) (by kernel_rfl) (by kernel_rfl) (by kernel_rfl)
  have tE := As.typeOfE
  have tD := As.typeOfD
  have mA := As.methodAssignableTo
  have mU := As.methodUnwrap
  have aE := AsL.assignableR
  have aD := AsL.assignableD
  have nAs := fun (v : Value) (xT : TypeId) (wx : World) => run_typeAssert_lacksB (P := Tryz.prog) (z := .nilIface) (t := 105) Tryz.underlying158 (by kernel_rfl) (by kernel_rfl) v xT wx
  have nAr := fun (v : Value) (xT : TypeId) (wx : World) => run_typeAssert_lacksB (P := Tryz.prog) (z := .nilIface) (t := 103) Tryz.underlying158 (by kernel_rfl) (by kernel_rfl) v xT wx
  have yUn := fun (v : Value) (xT : TypeId) (wx : World) => run_typeAssert_hasB (P := Tryz.prog) (t := 105) Tryz.underlying161 (by kernel_rfl) v xT wx
  have nUr := fun (v : Value) (xT : TypeId) (wx : World) => run_typeAssert_lacksB (P := Tryz.prog) (z := .nilIface) (t := 103) Tryz.underlying161 (by kernel_rfl) (by kernel_rfl) v xT wx
  have nUs := fun (v : Value) (xT : TypeId) (wx : World) => run_typeAssert_lacksB (P := Tryz.prog) (z := .nilIface) (t := 103) Tryz.underlying163 (by kernel_rfl) (by kernel_rfl) v xT wx
  go_enter Tryz.func101, Tryz.ntmps101
  go_wp2
  refine wp_loop_rounds 2 ?_
  rw [rounds_succ]
  go_wp2_with fail
  refine (unwrap_E _ _ _).mono ?_
  rintro e w' ⟨rfl, rfl⟩
  go_wp2_with fail
  rw [rounds_succ]
  go_wp2_with fail
  go_ret
  exact ⟨rfl, ((Below.refl _ _).alloc (Nat.le_refl _) _).alloc (by simp) _⟩
set_option maxHeartbeats 4000000 in
theorem asLTop (s : ByteArray) (c : Int) (tb : Nat) (old : Value) (w : World) (hg : w.cell? ⟨0, 0, none⟩ = some (.iface 153 (.agg #[.pointer (some ⟨1, 99, none⟩)]))) (ht0 : w.cell? ⟨tb, 0, none⟩ = some old) :
    Calls Tryz.prog 80 #[errV s c, .iface 122 (.pointer (some ⟨tb, 0, none⟩))] w fun e w' => e = .returned (.bool false) ∧ Below w.heap.size w w' := by
  have h25 := @run_callFunc_extern Tryz.prog 98 _ (fun args => ReflectliteValue.unpack (args.getD 0 (.tuple #[]))) Tryz.func98 (by kernel_rfl) (by kernel_rfl) (by kernel_rfl) (by kernel_rfl)
  have h26 := @run_callFunc_extern Tryz.prog 99 _ (ReflectliteValue.methodAny (ReflectliteValue.valueError "reflectlite.Value.Type" 0) (fun t _ _ _ => ReflectliteType.toType t)) Tryz.func99 (by kernel_rfl) (by kernel_rfl) (by kernel_rfl) (by kernel_rfl)
  have h27 := @run_callFunc_extern Tryz.prog 100 _ (ReflectliteValue.method (ReflectliteValue.valueError "reflectlite.Value.IsNil" 0) ReflectliteValue.isNil) Tryz.func100 (by kernel_rfl) (by kernel_rfl) (by kernel_rfl) (by kernel_rfl)
  have h46 := @run_callFunc_extern Tryz.prog 127 _ (ReflectliteType.abiMethod fun t => do pure (.int .u8 (← Rtype.kind t))) Tryz.func127 (by kernel_rfl) (by kernel_rfl) (by kernel_rfl) (by kernel_rfl)
  have h58 := @run_callFunc_extern Tryz.prog 141 _ (ReflectliteType.method ReflectliteType.elem) Tryz.func141 (by kernel_rfl) (by kernel_rfl) (by kernel_rfl) (by kernel_rfl)
  have h59 := @run_callFunc_extern Tryz.prog 142 _ (ReflectliteType.relation "Implements" ReflectliteType.implements_) Tryz.func142 (by kernel_rfl) (by kernel_rfl) (by kernel_rfl) (by kernel_rfl)
  have vP := AsL.valueOfP
  have tP := AsL.typeP
  have mK := As.methodKind
  have mE := As.methodElem
  have mI := As.methodImplements
  have kP := AsL.kindP
  have kE := AsL.kindE
  have eP := AsL.elemP
  have iE := AsL.implementsE
  have htl : tb < w.heap.size := World.block_lt_of_cell? _ _ ht0
  have hgl : 0 < w.heap.size := World.block_lt_of_cell? _ _ hg
  have nP := fun B => AsL.isNilP ⟨w.heap.size, 0, none⟩ ⟨tb, 0, none⟩ ((w.alloc (.cells #[.pointer (some ⟨tb, 0, none⟩)] 122)).alloc B) (by rw [World.cell?_alloc_lt _ _ ⟨w.heap.size, 0, none⟩ (by simp)]; simp)
  have hg2 : ∀ A B, ((w.alloc A).alloc B).cell? ⟨0, 0, none⟩ = some (.iface 153 (.agg #[.pointer (some ⟨1, 99, none⟩)])) := fun A B => by
    rw [World.cell?_alloc_lt _ _ ⟨0, 0, none⟩ (by simp <;> omega), World.cell?_alloc_lt _ _ ⟨0, 0, none⟩ hgl]; exact hg
  clear ht0
  go_enter Tryz.func80, Tryz.ntmps80
  go_wp2_with fail
  refine (asL_none s c _ w.heap.size _).mono ?_
  rintro e w' ⟨rfl, hb⟩
  have HB : Hid (Below w.heap.size w w') := (((Below.refl _ _).alloc (Nat.le_refl _) _).alloc (by simp) _).trans (hb.mono (by simp; omega))
  clear hb hg hg2 nP
  go_wp2_with fail
  go_ret
  exact ⟨rfl, HB.out⟩

/-- The answer of a net, as a value. -/
abbrev noV (a : Option Addr) (n k : Nat) (at_ code : Int) : Value := .agg #[.slice a n k, .int .i64 at_, .int .i64 code]
abbrev noL (a : Option Addr) (n k : Nat) (at_ code : Int) : List Value := [.slice a n k, .int .i64 at_, .int .i64 code]
set_option maxRecDepth 100000 in
set_option maxHeartbeats 4000000 in
theorem tellNet_ok (a : Option Addr) (n k : Nat) (w : World) :
    Calls Tryz.prog 60 #[.slice a n k, .nilIface] w fun e w' => e = .returned (noV a n k 0 0) ∧ Below w.heap.size w w' := by
  go_enter Tryz.func60, Tryz.ntmps60
  go_wp2_with fail
  exact bodyPost_ret (v := noV a n k 0 0) (by simp [results, Tryz.results60, go_sem]) rfl ⟨rfl, nbel_alloc _ _⟩
set_option maxRecDepth 100000 in
set_option maxHeartbeats 4000000 in
theorem tellNet_bad (a : Option Addr) (n k : Nat) (s : ByteArray) (c : Int) (w : World) (hg : NEt w) :
    Calls Tryz.prog 60 #[.slice a n k, errV s c] w fun e w' => e = .returned (noV none 0 0 0 c) ∧ Below w.heap.size w w' := by
  obtain ⟨W, hW⟩ : ∃ W, W = (w.alloc (.cells #[.slice none 0 0, .int .i64 0, .int .i64 0] 31)).alloc (.cells #[.int .i64 0] 107) := ⟨_, rfl⟩
  have B0 : Hid (Below w.heap.size w W) := by rw [hW]; exact ((Below.refl _ _).alloc (Nat.le_refl _) _).alloc (by simp) _
  have R0 : Hid (W.rowIs w.heap.size 31 3 (rowN (noL none 0 0 0 0))) := by rw [hW]; exact nrow_below (rowN_alloc w _ _) (nbel_alloc _ _)
  have L0 : Hid (W.rowIs (w.heap.size + 1) 107 1 (rowN [.int .i64 0])) := by rw [hW]; exact rowN_alloc' (by simp) _ _
  have HW := Lib.hid hW
  have HG := Lib.hid hg
  clear hW hg
  go_enter Tryz.func60, Tryz.ntmps60
  go_wp2_with fail
  rw [← HW.out]
  refine (asLTop s c (w.heap.size + 1) (.int .i64 0) _ (by have := HG.out.below (nbel_alloc w (.cells #[.slice none 0 0, .int .i64 0, .int .i64 0] 31)); have := this.below (nbel_alloc _ (.cells #[.int .i64 0] 107)); rw [HW.out]; exact this) (L0.out.cell (by omega))).mono ?_
  rintro e w1 ⟨rfl, hb1⟩
  have G1 : Hid (NEt w1) := by
    have := HG.out.below (nbel_alloc w (.cells #[.slice none 0 0, .int .i64 0, .int .i64 0] 31)); have := this.below (nbel_alloc _ (.cells #[.int .i64 0] 107))
    rw [← HW.out] at this
    exact this.below hb1
  have B1 : Hid (Below w.heap.size w w1) := B0.out.trans (hb1.mono B0.out.size)
  have R1 := Lib.hid (nrow_below R0.out hb1)
  have L1 := Lib.hid (nrow_below L0.out hb1)
  clear hb1 B0 R0 L0
  go_wp2_with fail
  refine wp_region_held_drew (S := fun V => Below w.heap.size w V ∧ V.rowIs (w.heap.size + 1) 107 1 (rowN [.int .i64 0])) (by kernel_rfl) ⟨B1.out.drew, nrow_below L1.out (Below.refl _ _).drew⟩ (fun hHeld => ?_)
  obtain ⟨Z, hZ⟩ : ∃ Z, Z = w1.drew := ⟨_, rfl⟩
  have RZ0 : Hid (Z.rowIs w.heap.size 31 3 (rowN (noL none 0 0 0 0))) := by rw [hZ]; exact nrow_below R1.out (Below.refl _ _).drew
  have GZ0 : Hid (NEt Z) := by rw [hZ]; exact G1.out.below (Below.refl _ _).drew
  rw [← hZ] at hHeld ⊢
  clear hZ
  refine take_do (i := 0) (v := (.pointer (some ⟨w.heap.size + 1, 0, none⟩))) rfl (by kernel_rfl) (by kernel_rfl) (by kernel_rfl) (fun _ _ _ h => h) (by rfl) ?_ (by assumption) ?_
  · intro w hSw
    skip
    go_simp
  simp only [Act.put, List.setIfInBounds_toArray, List.set_cons_zero, List.set_cons_succ]
  refine take_do (i := 1) (v := (.int .i64 0)) rfl (by kernel_rfl) (by kernel_rfl) (by kernel_rfl) (fun _ _ _ h => h) (by rfl) ?_ (by assumption) ?_
  · intro w hSw
    have c0 := hSw.2.cell (i := 0) (by omega); simp only [rowN, List.getD_cons_zero] at c0
    go_simp
  simp only [Act.put, List.setIfInBounds_toArray, List.set_cons_zero, List.set_cons_succ]
  refine take_do (i := 2) (v := (errV s c)) rfl (by kernel_rfl) (by kernel_rfl) (by kernel_rfl) (fun _ _ _ h => h) (by rfl) ?_ (by assumption) ?_
  · intro w hSw
    skip
    go_simp
  simp only [Act.put, List.setIfInBounds_toArray, List.set_cons_zero, List.set_cons_succ]

  refine take_call (i := 3) rfl (by kernel_rfl) (fun K2 hK => ?_)
  go_simp
  refine (codeOf_any _ c (finds_one s c) _ GZ0.out).mono ?_
  rintro e Z1 ⟨rfl, hb⟩
  go_wp2_with fail
  have R2 := nrow_below RZ0.out hb
  refine hK.out _ _ ⟨hHeld.1.trans (hb.mono hHeld.1.size), nrow_below hHeld.2 hb⟩ (fun hHeld2 => ?_)
  clear hK hHeld hb RZ0 GZ0
  refine take_do (i := 4) (v := (noV none 0 0 0 c)) rfl (by kernel_rfl) (by kernel_rfl) (by kernel_rfl) (fun _ _ _ h => h) (by rfl) ?_ (hHeld2) ?_
  · intro w hSw
    skip
    go_simp
  simp only [Act.put, List.setIfInBounds_toArray, List.set_cons_zero, List.set_cons_succ]

  obtain ⟨⟨o0, o1, o2⟩, z0, z1, z2⟩ := rowN3 R2
  have l0 := R2.lt
  obtain ⟨WZ, hWZ⟩ : ∃ WZ, WZ = ((Z1.setCell ⟨w.heap.size, 0, none⟩ (.slice none 0 0)).setCell ⟨w.heap.size, 1, none⟩ (.int .i64 0)).setCell ⟨w.heap.size, 2, none⟩ (.int .i64 c) := ⟨_, rfl⟩
  have SZ : Hid (Below w.heap.size w WZ ∧ WZ.rowIs (w.heap.size + 1) 107 1 (rowN [.int .i64 0])) := by
    rw [hWZ]
    exact ⟨((hHeld2.1.setCell (p := ⟨w.heap.size, 0, none⟩) (Nat.le_refl _) _).setCell (p := ⟨w.heap.size, 1, none⟩) (Nat.le_refl _) _).setCell (p := ⟨w.heap.size, 2, none⟩) (Nat.le_refl _) _, nrow_set (nrow_set (nrow_set hHeld2.2 (p := ⟨w.heap.size, 0, none⟩) (by show w.heap.size + 1 ≠ w.heap.size; omega) _) (p := ⟨w.heap.size, 1, none⟩) (by show w.heap.size + 1 ≠ w.heap.size; omega) _) (p := ⟨w.heap.size, 2, none⟩) (by show w.heap.size + 1 ≠ w.heap.size; omega) _⟩
  have RZ : Hid (WZ.rowIs w.heap.size 31 3 (rowN (noL none 0 0 0 c))) := by rw [hWZ]; exact rowN_put (rowN_put (rowN_put R2 0 _ (by simp)) 1 _ (by simp)) 2 _ (by simp)
  have HWZ := Lib.hid hWZ
  clear hWZ R2
  refine take_call (i := 5) rfl (by kernel_rfl) (fun K2 hK => ?_)
  go_simp
  rw [← HWZ.out]
  refine hK.out _ _ SZ.out (fun hHeld3 => ?_)
  clear hK hHeld2 hHeld3 HWZ o0 o1 o2 z0 z1 z2 l0
  refine wpAnyH_done (by kernel_rfl) ?_ _
  go_wp2_with fail
  obtain ⟨⟨x0, x1, x2⟩, _⟩ := rowN3 RZ.out
  exact bodyPost_ret (v := noV none 0 0 0 c) (by simp [results, Tryz.results60, go_sem, x0, x1, x2]) rfl ⟨rfl, SZ.out.1⟩
end Go.Proofs.YtkaokfmaecdkiaaGreatDoor
