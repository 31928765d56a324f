/-
  errors.As over errors that name a place.
-/
import Derived.Test.YtfgmalnkpgloiaaDoorMnAsA
namespace Go.Proofs.YtfgmalnkpgloiaaDoor
open Go.RowKit Go.Extern.Stop Go.Stop Go.Extern

set_option maxHeartbeats 4000000 in
theorem asS_dr (s2 : ByteArray) (c : Int) (tv : Value) (vb : Nat) (w : World) :
    Calls Tryd.prog 63 #[.iface 78 (.agg #[.string s2, .iface 76 (.agg #[.int .i64 c])]), tv, .agg #[.pointer (some ⟨1, 104, none⟩), .pointer (some ⟨vb, 0, none⟩), .int .u64 150], .iface 134 (.agg #[.pointer (some ⟨1, 84, none⟩)])] w fun e w' => e = .returned (.bool false) ∧ Below w.heap.size w w' := by
  have h25 := @run_callFunc_extern Tryd.prog 60 _ (fun args => ReflectliteValue.unpack (args.getD 0 (.tuple #[]))) Tryd.func60 (by kernel_rfl) (by kernel_rfl) (by kernel_rfl) (by kernel_rfl)
  have h29 := @run_callFunc_extern Tryd.prog 65 _ ReflectliteType.typeOf Tryd.func65 (by kernel_rfl) (by kernel_rfl) (by kernel_rfl) (by kernel_rfl)
  have h56 := @run_callFunc_extern Tryd.prog 102 _ (ReflectliteType.relation "AssignableTo" ReflectliteType.assignableTo) Tryd.func102 (by kernel_rfl) (by kernel_rfl) (by kernel_rfl) (by kernel_rfl)
  have h30 := @run_callFunc_extern Tryd.prog 66 _ (ReflectliteValue.method (ReflectliteValue.valueError "reflectlite.Value.Elem" 0) ReflectliteValue.elem) Tryd.func66 (by kernel_rfl) (by kernel_rfl) (by kernel_rfl) (by kernel_rfl)
  have h31 := @run_callFunc_extern Tryd.prog 67 _ ReflectliteValue.set Tryd.func67 (by kernel_rfl) (by kernel_rfl) (by kernel_rfl) (by kernel_rfl)
  have tE := As.typeOfE
  have tD := As.typeOfD
  have tS := AsS.typeOfS
  have mA := As.methodAssignableTo
  have mU := As.methodUnwrap
  have mS := AsS.methodUnwrapS
  have aE := AsS.assignableR
  have aD := AsS.assignableD
  have aS := AsS.assignableS
  have vE := AsS.valueOfS
  have nAd := fun (v : Value) (xT : TypeId) (wx : World) => run_typeAssert_lacksB (P := Tryd.prog) (z := .nilIface) (t := 78) Tryd.underlying139 (by kernel_rfl) (by kernel_rfl) v xT wx
  have yUd := fun (v : Value) (xT : TypeId) (wx : World) => run_typeAssert_hasB (P := Tryd.prog) (t := 78) Tryd.underlying142 (by kernel_rfl) v xT wx
  have nAr := fun (v : Value) (xT : TypeId) (wx : World) => run_typeAssert_lacksB (P := Tryd.prog) (z := .nilIface) (t := 76) Tryd.underlying139 (by kernel_rfl) (by kernel_rfl) v xT wx
  have nUr := fun (v : Value) (xT : TypeId) (wx : World) => run_typeAssert_lacksB (P := Tryd.prog) (z := .nilIface) (t := 76) Tryd.underlying142 (by kernel_rfl) (by kernel_rfl) v xT wx
  have nVr := fun (v : Value) (xT : TypeId) (wx : World) => run_typeAssert_lacksB (P := Tryd.prog) (z := .nilIface) (t := 76) Tryd.underlying144 (by kernel_rfl) (by kernel_rfl) v xT wx
  go_enter Tryd.func63, Tryd.ntmps63
  go_wp2
  refine wp_loop_rounds 2 ?_
  rw [rounds_succ]
  go_wp2_with fail
  refine (unwrap_E _ _ _).mono ?_
  rintro e w' ⟨rfl, rfl⟩
  go_wp2_with fail
  rw [rounds_succ]
  go_wp2_with fail
  go_ret
  exact ⟨rfl, ((Below.refl _ _).alloc (Nat.le_refl _) _).alloc (by simp; try omega) _⟩
set_option maxHeartbeats 4000000 in
theorem asS_ddr (s3 : ByteArray) (s2 : ByteArray) (c : Int) (tv : Value) (vb : Nat) (w : World) :
    Calls Tryd.prog 63 #[.iface 78 (.agg #[.string s3, .iface 78 (.agg #[.string s2, .iface 76 (.agg #[.int .i64 c])])]), tv, .agg #[.pointer (some ⟨1, 104, none⟩), .pointer (some ⟨vb, 0, none⟩), .int .u64 150], .iface 134 (.agg #[.pointer (some ⟨1, 84, none⟩)])] w fun e w' => e = .returned (.bool false) ∧ Below w.heap.size w w' := by
  have h25 := @run_callFunc_extern Tryd.prog 60 _ (fun args => ReflectliteValue.unpack (args.getD 0 (.tuple #[]))) Tryd.func60 (by kernel_rfl) (by kernel_rfl) (by kernel_rfl) (by kernel_rfl)
  have h29 := @run_callFunc_extern Tryd.prog 65 _ ReflectliteType.typeOf Tryd.func65 (by kernel_rfl) (by kernel_rfl) (by kernel_rfl) (by kernel_rfl)
  have h56 := @run_callFunc_extern Tryd.prog 102 _ (ReflectliteType.relation "AssignableTo" ReflectliteType.assignableTo) Tryd.func102 (by kernel_rfl) (by kernel_rfl) (by kernel_rfl) (by kernel_rfl)
  have h30 := @run_callFunc_extern Tryd.prog 66 _ (ReflectliteValue.method (ReflectliteValue.valueError "reflectlite.Value.Elem" 0) ReflectliteValue.elem) Tryd.func66 (by kernel_rfl) (by kernel_rfl) (by kernel_rfl) (by kernel_rfl)
  have h31 := @run_callFunc_extern Tryd.prog 67 _ ReflectliteValue.set Tryd.func67 (by kernel_rfl) (by kernel_rfl) (by kernel_rfl) (by kernel_rfl)
  have tE := As.typeOfE
  have tD := As.typeOfD
  have tS := AsS.typeOfS
  have mA := As.methodAssignableTo
  have mU := As.methodUnwrap
  have mS := AsS.methodUnwrapS
  have aE := AsS.assignableR
  have aD := AsS.assignableD
  have aS := AsS.assignableS
  have vE := AsS.valueOfS
  have nAd := fun (v : Value) (xT : TypeId) (wx : World) => run_typeAssert_lacksB (P := Tryd.prog) (z := .nilIface) (t := 78) Tryd.underlying139 (by kernel_rfl) (by kernel_rfl) v xT wx
  have yUd := fun (v : Value) (xT : TypeId) (wx : World) => run_typeAssert_hasB (P := Tryd.prog) (t := 78) Tryd.underlying142 (by kernel_rfl) v xT wx
  have nAr := fun (v : Value) (xT : TypeId) (wx : World) => run_typeAssert_lacksB (P := Tryd.prog) (z := .nilIface) (t := 76) Tryd.underlying139 (by kernel_rfl) (by kernel_rfl) v xT wx
  have nUr := fun (v : Value) (xT : TypeId) (wx : World) => run_typeAssert_lacksB (P := Tryd.prog) (z := .nilIface) (t := 76) Tryd.underlying142 (by kernel_rfl) (by kernel_rfl) v xT wx
  have nVr := fun (v : Value) (xT : TypeId) (wx : World) => run_typeAssert_lacksB (P := Tryd.prog) (z := .nilIface) (t := 76) Tryd.underlying144 (by kernel_rfl) (by kernel_rfl) v xT wx
  go_enter Tryd.func63, Tryd.ntmps63
  go_wp2
  refine wp_loop_rounds 3 ?_
  rw [rounds_succ]
  go_wp2_with fail
  refine (unwrap_D _ _ _).mono ?_
  rintro e w' ⟨rfl, rfl⟩
  go_wp2_with fail
  rw [rounds_succ]
  go_wp2_with fail
  refine (unwrap_E _ _ _).mono ?_
  rintro e w' ⟨rfl, rfl⟩
  go_wp2_with fail
  rw [rounds_succ]
  go_wp2_with fail
  go_ret
  exact ⟨rfl, (((Below.refl _ _).alloc (Nat.le_refl _) _).alloc (by simp; try omega) _).alloc (by simp; try omega) _⟩
end Go.Proofs.YtfgmalnkpgloiaaDoor
