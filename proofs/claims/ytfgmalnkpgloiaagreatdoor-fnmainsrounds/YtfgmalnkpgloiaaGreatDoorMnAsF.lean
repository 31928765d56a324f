/-
  errors.As over errors that name a place.
-/
import Derived.Test.YtfgmalnkpgloiaaGreatDoorMnAsA
namespace Go.Proofs.YtfgmalnkpgloiaaGreatDoor
open Go.RowKit Go.Extern.Stop Go.Stop Go.Extern

set_option maxHeartbeats 4000000 in
theorem asS_dds (s4 : ByteArray) (s3 : ByteArray) (a : Int) (c : Int) (tv : Value) (tb vb : Nat) (old old1 : Value) (w : World) (hv : w.cell? ⟨vb, 0, none⟩ = some (.pointer (some ⟨tb, 0, none⟩))) (ht0 : w.cell? ⟨tb, 0, none⟩ = some old) (hf0 : w.frozen? ⟨tb, 0, none⟩ = false) (ht1 : w.cell? ⟨tb, 1, none⟩ = some old1) (hf1 : w.frozen? ⟨tb, 1, none⟩ = false) :
    Calls Tryz.prog 100 #[.iface 107 (.agg #[.string s4, .iface 107 (.agg #[.string s3, .iface 114 (.agg #[.int .i64 a, .iface 105 (.agg #[.int .i64 c])])])]), tv, .agg #[.pointer (some ⟨1, 127, none⟩), .pointer (some ⟨vb, 0, none⟩), .int .u64 150], .iface 166 (.agg #[.pointer (some ⟨1, 114, none⟩)])] w fun e w' => e = .returned (.bool true) ∧ w'.cell? ⟨tb, 0, none⟩ = some (.int .i64 a) ∧ Below tb w w' := by
  have h25 := @run_callFunc_extern Tryz.prog 97 _ (fun args => ReflectliteValue.unpack (args.getD 0 (.tuple #[]))) Tryz.func97 (by kernel_rfl) (by kernel_rfl) (by kernel_rfl) (by kernel_rfl)
  have h29 := @run_callFunc_extern Tryz.prog 108 _ ReflectliteType.typeOf Tryz.func108 (by kernel_rfl) (by kernel_rfl) (by kernel_rfl) (by kernel_rfl)
  have h56 := @run_callFunc_extern Tryz.prog 147 _ (ReflectliteType.relation "AssignableTo" ReflectliteType.assignableTo) Tryz.func147 (by kernel_rfl) (by kernel_rfl) (by kernel_rfl) (by kernel_rfl)
  have h30 := @run_callFunc_extern Tryz.prog 109 _ (ReflectliteValue.method (ReflectliteValue.valueError "reflectlite.Value.Elem" 0) ReflectliteValue.elem) Tryz.func109 (by kernel_rfl) (by kernel_rfl) (by kernel_rfl) (by kernel_rfl)
  have h31 := @run_callFunc_extern Tryz.prog 110 _ ReflectliteValue.set Tryz.func110 (by kernel_rfl) (by kernel_rfl) (by kernel_rfl) (by kernel_rfl)
  have tE := As.typeOfE
  have tD := As.typeOfD
  have tS := AsS.typeOfS
  have mA := As.methodAssignableTo
  have mU := As.methodUnwrap
  have mS := AsS.methodUnwrapS
  have aE := AsS.assignableR
  have aD := AsS.assignableD
  have aS := AsS.assignableS
  have vE := AsS.valueOfS
  have nAd := fun (v : Value) (xT : TypeId) (wx : World) => run_typeAssert_lacksB (P := Tryz.prog) (z := .nilIface) (t := 107) Tryz.underlying171 (by kernel_rfl) (by kernel_rfl) v xT wx
  have yUd := fun (v : Value) (xT : TypeId) (wx : World) => run_typeAssert_hasB (P := Tryz.prog) (t := 107) Tryz.underlying174 (by kernel_rfl) v xT wx
  have nAs := fun (v : Value) (xT : TypeId) (wx : World) => run_typeAssert_lacksB (P := Tryz.prog) (z := .nilIface) (t := 114) Tryz.underlying171 (by kernel_rfl) (by kernel_rfl) v xT wx
  have yUs := fun (v : Value) (xT : TypeId) (wx : World) => run_typeAssert_hasB (P := Tryz.prog) (t := 114) Tryz.underlying174 (by kernel_rfl) v xT wx
  have nAr := fun (v : Value) (xT : TypeId) (wx : World) => run_typeAssert_lacksB (P := Tryz.prog) (z := .nilIface) (t := 105) Tryz.underlying171 (by kernel_rfl) (by kernel_rfl) v xT wx
  have nUr := fun (v : Value) (xT : TypeId) (wx : World) => run_typeAssert_lacksB (P := Tryz.prog) (z := .nilIface) (t := 105) Tryz.underlying174 (by kernel_rfl) (by kernel_rfl) v xT wx
  have nVr := fun (v : Value) (xT : TypeId) (wx : World) => run_typeAssert_lacksB (P := Tryz.prog) (z := .nilIface) (t := 105) Tryz.underlying176 (by kernel_rfl) (by kernel_rfl) v xT wx
  have htl : tb < w.heap.size := World.block_lt_of_cell? _ _ ht0
  have hvl : vb < w.heap.size := World.block_lt_of_cell? _ _ hv
  have g1 : ∀ A B0 B1, (((w.alloc A).alloc B0).alloc B1).cell? ⟨vb, 0, none⟩ = some (.pointer (some ⟨tb, 0, none⟩)) := fun A B0 B1 => by
    rw [World.cell?_alloc_lt _ _ ⟨vb, 0, none⟩ (by simp; try omega), World.cell?_alloc_lt _ _ ⟨vb, 0, none⟩ (by simp; try omega), World.cell?_alloc_lt _ _ ⟨vb, 0, none⟩ hvl]; exact hv
  have g20 : ∀ A B0 B1 C, ((((w.alloc A).alloc B0).alloc B1).alloc C).cell? ⟨tb, 0, none⟩ = some old := fun A B0 B1 C => by
    rw [World.cell?_alloc_lt _ _ ⟨tb, 0, none⟩ (by simp; try omega), World.cell?_alloc_lt _ _ ⟨tb, 0, none⟩ (by simp; try omega), World.cell?_alloc_lt _ _ ⟨tb, 0, none⟩ (by simp; try omega), World.cell?_alloc_lt _ _ ⟨tb, 0, none⟩ htl]; exact ht0
  have g30 : ∀ A B0 B1 C, ((((w.alloc A).alloc B0).alloc B1).alloc C).frozen? ⟨tb, 0, none⟩ = false := fun A B0 B1 C => by
    rw [World.frozen?_alloc_old _ _ ⟨tb, 0, none⟩ (by simp; try omega), World.frozen?_alloc_old _ _ ⟨tb, 0, none⟩ (by simp; try omega), World.frozen?_alloc_old _ _ ⟨tb, 0, none⟩ (by simp; try omega), World.frozen?_alloc_old _ _ ⟨tb, 0, none⟩ (Nat.ne_of_lt htl)]; exact hf0
  have g21 : ∀ A B0 B1 C, ((((w.alloc A).alloc B0).alloc B1).alloc C).cell? ⟨tb, 1, none⟩ = some old1 := fun A B0 B1 C => by
    rw [World.cell?_alloc_lt _ _ ⟨tb, 1, none⟩ (by simp; try omega), World.cell?_alloc_lt _ _ ⟨tb, 1, none⟩ (by simp; try omega), World.cell?_alloc_lt _ _ ⟨tb, 1, none⟩ (by simp; try omega), World.cell?_alloc_lt _ _ ⟨tb, 1, none⟩ htl]; exact ht1
  have g31 : ∀ A B0 B1 C, ((((w.alloc A).alloc B0).alloc B1).alloc C).frozen? ⟨tb, 1, none⟩ = false := fun A B0 B1 C => by
    rw [World.frozen?_alloc_old _ _ ⟨tb, 1, none⟩ (by simp; try omega), World.frozen?_alloc_old _ _ ⟨tb, 1, none⟩ (by simp; try omega), World.frozen?_alloc_old _ _ ⟨tb, 1, none⟩ (by simp; try omega), World.frozen?_alloc_old _ _ ⟨tb, 1, none⟩ (Nat.ne_of_lt htl)]; exact hf1
  have el := fun A B0 B1 => AsS.elemVP ⟨vb, 0, none⟩ ⟨tb, 0, none⟩ (((w.alloc A).alloc B0).alloc B1) (g1 A B0 B1)
  have st := fun A B0 B1 => AsS.setE tb (w.heap.size + 1 + 1 + 1) a 105 (.agg #[.int .i64 c]) old old1 ((((w.alloc A).alloc B0).alloc B1).alloc (.cells #[.int .i64 a, .iface 105 (.agg #[.int .i64 c])] 114)) (by rw [World.cell?_alloc_at _ _ _ _ (by simp)]; rfl) (by rw [World.cell?_alloc_at _ _ _ _ (by simp)]; rfl) (g20 A B0 B1 _) (g21 A B0 B1 _) (g30 A B0 B1 _) (g31 A B0 B1 _)
  have G20 := Lib.hid g20
  clear g1 g30 g31 g20 g21
  go_enter Tryz.func100, Tryz.ntmps100
  go_wp2
  refine wp_loop_rounds 3 ?_
  rw [rounds_succ]
  go_wp2_with fail
  refine (unwrap_D _ _ _).mono ?_
  rintro e w' ⟨rfl, rfl⟩
  go_wp2_with fail
  rw [rounds_succ]
  go_wp2_with fail
  refine (unwrap_DS _ _ _).mono ?_
  rintro e w' ⟨rfl, rfl⟩
  go_wp2_with fail
  rw [rounds_succ]
  go_wp2_with fail
  go_ret
  refine ⟨rfl, ?_, ?_⟩
  · rw [World.cell?_setCell_other _ _ _ _ (by simp)]
    exact World.cell?_setCell_same _ _ _ (G20.out _ _ _ _)
  · exact ((((((Below.refl _ _).alloc (Nat.le_of_lt htl) _).alloc (by simp; try omega) _).alloc (by simp; try omega) _).alloc (by simp; try omega) _).setCell (p := ⟨tb, 0, none⟩) (Nat.le_refl _) _).setCell (p := ⟨tb, 1, none⟩) (Nat.le_refl _) _
end Go.Proofs.YtfgmalnkpgloiaaGreatDoor
