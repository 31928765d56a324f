/-
  errors.As over errors that name a place.
-/
import Derived.Test.YtfgmalnkpgloiaaGreatDoorMnAsA
namespace Go.Proofs.YtfgmalnkpgloiaaGreatDoor
open Go.RowKit Go.Extern.Stop Go.Stop Go.Extern

set_option maxHeartbeats 4000000 in
theorem asS_dr (s2 : ByteArray) (c : Int) (tv : Value) (vb : Nat) (w : World) :
    Calls Tryz.prog 100 #[.iface 107 (.agg #[.string s2, .iface 105 (.agg #[.int .i64 c])]), tv, .agg #[.pointer (some ⟨1, 127, none⟩), .pointer (some ⟨vb, 0, none⟩), .int .u64 150], .iface 166 (.agg #[.pointer (some ⟨1, 114, none⟩)])] w fun e w' => e = .returned (.bool false) ∧ Below w.heap.size w w' := by
  have h25 := @run_callFunc_extern Tryz.prog 97 _ (fun args => ReflectliteValue.unpack (args.getD 0 (.tuple #[]))) Tryz.func97 (by kernel_rfl) (by kernel_rfl) (by kernel_rfl) (by kernel_rfl)
  have h29 := @run_callFunc_extern Tryz.prog 108 _ ReflectliteType.typeOf Tryz.func108 (by kernel_rfl) (by kernel_rfl) (by kernel_rfl) (by kernel_rfl)
  have h56 := @run_callFunc_extern Tryz.prog 147 _ (ReflectliteType.relation "AssignableTo" ReflectliteType.assignableTo) Tryz.func147 (by kernel_rfl) (by kernel_rfl) (by kernel_rfl) (by kernel_rfl)
  have h30 := @run_callFunc_extern Tryz.prog 109 _ (ReflectliteValue.method (ReflectliteValue.valueError "reflectlite.Value.Elem" 0) ReflectliteValue.elem) Tryz.func109 (by kernel_rfl) (by kernel_rfl) (by kernel_rfl) (by kernel_rfl)
  have h31 := @run_callFunc_extern Tryz.prog 110 _ ReflectliteValue.set Tryz.func110 (by kernel_rfl) (by kernel_rfl) (by kernel_rfl) (by kernel_rfl)
  have tE := As.typeOfE
  have tD := As.typeOfD
  have tS := AsS.typeOfS
  have mA := As.methodAssignableTo
  have mU := As.methodUnwrap
  have mS := AsS.methodUnwrapS
  have aE := AsS.assignableR
  have aD := AsS.assignableD
  have aS := AsS.assignableS
  have vE := AsS.valueOfS
  have nAd := fun (v : Value) (xT : TypeId) (wx : World) => run_typeAssert_lacksB (P := Tryz.prog) (z := .nilIface) (t := 107) Tryz.underlying171 (by kernel_rfl) (by kernel_rfl) v xT wx
  have yUd := fun (v : Value) (xT : TypeId) (wx : World) => run_typeAssert_hasB (P := Tryz.prog) (t := 107) Tryz.underlying174 (by kernel_rfl) v xT wx
  have nAr := fun (v : Value) (xT : TypeId) (wx : World) => run_typeAssert_lacksB (P := Tryz.prog) (z := .nilIface) (t := 105) Tryz.underlying171 (by kernel_rfl) (by kernel_rfl) v xT wx
  have nUr := fun (v : Value) (xT : TypeId) (wx : World) => run_typeAssert_lacksB (P := Tryz.prog) (z := .nilIface) (t := 105) Tryz.underlying174 (by kernel_rfl) (by kernel_rfl) v xT wx
  have nVr := fun (v : Value) (xT : TypeId) (wx : World) => run_typeAssert_lacksB (P := Tryz.prog) (z := .nilIface) (t := 105) Tryz.underlying176 (by kernel_rfl) (by kernel_rfl) v xT wx
  go_enter Tryz.func100, Tryz.ntmps100
  go_wp2
  refine wp_loop_rounds 2 ?_
  rw [rounds_succ]
  go_wp2_with fail
  refine (unwrap_E _ _ _).mono ?_
  rintro e w' ⟨rfl, rfl⟩
  go_wp2_with fail
  rw [rounds_succ]
  go_wp2_with fail
  go_ret
  exact ⟨rfl, ((Below.refl _ _).alloc (Nat.le_refl _) _).alloc (by simp; try omega) _⟩
set_option maxHeartbeats 4000000 in
theorem asS_ddr (s3 : ByteArray) (s2 : ByteArray) (c : Int) (tv : Value) (vb : Nat) (w : World) :
    Calls Tryz.prog 100 #[.iface 107 (.agg #[.string s3, .iface 107 (.agg #[.string s2, .iface 105 (.agg #[.int .i64 c])])]), tv, .agg #[.pointer (some ⟨1, 127, none⟩), .pointer (some ⟨vb, 0, none⟩), .int .u64 150], .iface 166 (.agg #[.pointer (some ⟨1, 114, none⟩)])] w fun e w' => e = .returned (.bool false) ∧ Below w.heap.size w w' := by
  have h25 := @run_callFunc_extern Tryz.prog 97 _ (fun args => ReflectliteValue.unpack (args.getD 0 (.tuple #[]))) Tryz.func97 (by kernel_rfl) (by kernel_rfl) (by kernel_rfl) (by kernel_rfl)
  have h29 := @run_callFunc_extern Tryz.prog 108 _ ReflectliteType.typeOf Tryz.func108 (by kernel_rfl) (by kernel_rfl) (by kernel_rfl) (by kernel_rfl)
  have h56 := @run_callFunc_extern Tryz.prog 147 _ (ReflectliteType.relation "AssignableTo" ReflectliteType.assignableTo) Tryz.func147 (by kernel_rfl) (by kernel_rfl) (by kernel_rfl) (by kernel_rfl)
  have h30 := @run_callFunc_extern Tryz.prog 109 _ (ReflectliteValue.method (ReflectliteValue.valueError "reflectlite.Value.Elem" 0) ReflectliteValue.elem) Tryz.func109 (by kernel_rfl) (by kernel_rfl) (by kernel_rfl) (by kernel_rfl)
  have h31 := @run_callFunc_extern Tryz.prog 110 _ ReflectliteValue.set Tryz.func110 (by kernel_rfl) (by kernel_rfl) (by kernel_rfl) (by kernel_rfl)
  have tE := As.typeOfE
  have tD := As.typeOfD
  have tS := AsS.typeOfS
  have mA := As.methodAssignableTo
  have mU := As.methodUnwrap
  have mS := AsS.methodUnwrapS
  have aE := AsS.assignableR
  have aD := AsS.assignableD
  have aS := AsS.assignableS
  have vE := AsS.valueOfS
  have nAd := fun (v : Value) (xT : TypeId) (wx : World) => run_typeAssert_lacksB (P := Tryz.prog) (z := .nilIface) (t := 107) Tryz.underlying171 (by kernel_rfl) (by kernel_rfl) v xT wx
  have yUd := fun (v : Value) (xT : TypeId) (wx : World) => run_typeAssert_hasB (P := Tryz.prog) (t := 107) Tryz.underlying174 (by kernel_rfl) v xT wx
  have nAr := fun (v : Value) (xT : TypeId) (wx : World) => run_typeAssert_lacksB (P := Tryz.prog) (z := .nilIface) (t := 105) Tryz.underlying171 (by kernel_rfl) (by kernel_rfl) v xT wx
  have nUr := fun (v : Value) (xT : TypeId) (wx : World) => run_typeAssert_lacksB (P := Tryz.prog) (z := .nilIface) (t := 105) Tryz.underlying174 (by kernel_rfl) (by kernel_rfl) v xT wx
  have nVr := fun (v : Value) (xT : TypeId) (wx : World) => run_typeAssert_lacksB (P := Tryz.prog) (z := .nilIface) (t := 105) Tryz.underlying176 (by kernel_rfl) (by kernel_rfl) v xT wx
  go_enter Tryz.func100, Tryz.ntmps100
  go_wp2
  refine wp_loop_rounds 3 ?_
  rw [rounds_succ]
  go_wp2_with fail
  refine (unwrap_D _ _ _).mono ?_
  rintro e w' ⟨rfl, rfl⟩
  go_wp2_with fail
  rw [rounds_succ]
  go_wp2_with fail
  refine (unwrap_E _ _ _).mono ?_
  rintro e w' ⟨rfl, rfl⟩
  go_wp2_with fail
  rw [rounds_succ]
  go_wp2_with fail
  go_ret
  exact ⟨rfl, (((Below.refl _ _).alloc (Nat.le_refl _) _).alloc (by simp; try omega) _).alloc (by simp; try omega) _⟩
end Go.Proofs.YtfgmalnkpgloiaaGreatDoor
