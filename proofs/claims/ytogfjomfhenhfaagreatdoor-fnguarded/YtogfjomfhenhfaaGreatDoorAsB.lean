/-
  The contracts of errors.As at the target *refusal, over an error that is a refusal wrapped once or twice, and of the program's codeOf.
-/
import Derived.Test.YtogfjomfhenhfaaGreatDoorAs
namespace Go.Proofs.YtogfjomfhenhfaaGreatDoor
open Go.RowKit Go.Extern.Stop Go.Stop Go.Extern

namespace As
theorem pick2 {m : Array Value → Type} (v x : Value) (f : (v x : Value) → m #[v, x]) (g : (y : Array Value) → m y) : Go.Extern.ReflectliteValue.set.match_3 m #[v, x] f g = f v x := rfl
theorem setE (ta b : Addr) (c : Int) (old : Value) (W : World) (hb : W.cell? b = some (.int .i64 c)) (ht : W.cell? ta = some old) (hf : W.frozen? ta = false) :
    (ReflectliteValue.set #[.agg #[.pointer (some ⟨4, 112, none⟩), .pointer (some ta), .int .u64 409], .agg #[.pointer (some ⟨4, 112, none⟩), .pointer (some b), .int .u64 153]]).run Tryz.prog W
      = .ok (.tuple #[]) (W.setCell ta (.int .i64 c)) := by
  unfold ReflectliteValue.set
  rw [pick2]
  simp only [Sem.run_bind, partsEa, partsE, Result.andThen]
  rw [if_neg (by decide)]
  have hl : (loadVar 112 b).run Tryz.prog W = .ok (.agg #[.int .i64 c]) W := by
    simp [loadVar, Result.andThen, loadCells, loadCellsFrom, Addr.add, hb]
  simp only [Sem.run_bind, hl, directE, Result.andThen, if_true]
  simp [storeVar, Value.cells, storeCells, Addr.add, Result.andThen]
  rw [run_store Tryz.prog W ta _ _ (by rfl)]
  simp [ht, hf]
end As

set_option maxHeartbeats 1000000 in
theorem unwrap_E (s : ByteArray) (y : Value) (w : World) :
    Calls Tryz.prog 179 #[.agg #[.string s, .iface 112 y]] w fun e w' => e = .returned (.iface 112 y) ∧ w' = w.alloc (.cells #[.string s, .iface 112 y] 114) := by
  go_enter Tryz.func179, Tryz.ntmps179
  go_wp2
  go_ret
  exact ⟨rfl, rfl⟩

set_option maxHeartbeats 1000000 in
theorem unwrap_D (s : ByteArray) (y : Value) (w : World) :
    Calls Tryz.prog 179 #[.agg #[.string s, .iface 114 y]] w fun e w' => e = .returned (.iface 114 y) ∧ w' = w.alloc (.cells #[.string s, .iface 114 y] 114) := by
  go_enter Tryz.func179, Tryz.ntmps179
  go_wp2
  go_ret
  exact ⟨rfl, rfl⟩

set_option maxHeartbeats 4000000 in
theorem as_one (s : ByteArray) (c : Int) (tv : Value) (tb vb : Nat) (old : Value) (w : World) (hv : w.cell? ⟨vb, 0, none⟩ = some (.pointer (some ⟨tb, 0, none⟩))) (ht0 : w.cell? ⟨tb, 0, none⟩ = some old) (hf0 : w.frozen? ⟨tb, 0, none⟩ = false) :
    Calls Tryz.prog 116 #[errV s c, tv, .agg #[.pointer (some ⟨4, 134, none⟩), .pointer (some ⟨vb, 0, none⟩), .int .u64 150], .iface 185 (.agg #[.pointer (some ⟨4, 112, none⟩)])] w fun e w' => e = .returned (.bool true) ∧ w'.cell? ⟨tb, 0, none⟩ = some (.int .i64 c) ∧ Below tb w w' := by
  have h25 := @run_callFunc_extern Tryz.prog 113 _ (fun args => ReflectliteValue.unpack (args.getD 0 (.tuple #[]))) Tryz.func113 (by kernel_rfl) (by kernel_rfl) (by kernel_rfl) (by kernel_rfl)
  have h29 := @run_callFunc_extern Tryz.prog 138 _ ReflectliteType.typeOf Tryz.func138 (by kernel_rfl) (by kernel_rfl) (by kernel_rfl) (by kernel_rfl)
  have h56 := @run_callFunc_extern Tryz.prog 185 _ (ReflectliteType.relation "AssignableTo" ReflectliteType.assignableTo) Tryz.func185 (by kernel_rfl) (by kernel_rfl) (by kernel_rfl) (by kernel_rfl)
  have h30 := @run_callFunc_extern Tryz.prog 139 _ (ReflectliteValue.method (ReflectliteValue.valueError "reflectlite.Value.Elem" 0) ReflectliteValue.elem) Tryz.func139 (by kernel_rfl) (by kernel_rfl) (by kernel_rfl) (by kernel_rfl)
  have h31 := @run_callFunc_extern Tryz.prog 140 _ ReflectliteValue.set Tryz.func140 (by kernel_rfl) (by kernel_rfl) (by kernel_rfl) (by kernel_rfl)
  have tE := As.typeOfE
  have tD := As.typeOfD
  have mA := As.methodAssignableTo
  have mU := As.methodUnwrap
  have aE := As.assignableE
  have aD := As.assignableD
  have vE := As.valueOfE
  have nAs := fun (v : Value) (xT : TypeId) (wx : World) => run_typeAssert_lacksB (P := Tryz.prog) (z := .nilIface) (t := 114) Tryz.underlying190 (by kernel_rfl) (by kernel_rfl) v xT wx
  have yUn := fun (v : Value) (xT : TypeId) (wx : World) => run_typeAssert_hasB (P := Tryz.prog) (t := 114) Tryz.underlying193 (by kernel_rfl) v xT wx
  have htl : tb < w.heap.size := World.block_lt_of_cell? _ _ ht0
  have hvl : vb < w.heap.size := World.block_lt_of_cell? _ _ hv
  have g1 : ∀ A B, ((w.alloc A).alloc B).cell? ⟨vb, 0, none⟩ = some (.pointer (some ⟨tb, 0, none⟩)) := fun A B => by
    rw [World.cell?_alloc_lt _ _ ⟨vb, 0, none⟩ (by simp; omega), World.cell?_alloc_lt _ _ ⟨vb, 0, none⟩ hvl]; exact hv
  have g2 : ∀ A B C, (((w.alloc A).alloc B).alloc C).cell? ⟨tb, 0, none⟩ = some old := fun A B C => by
    rw [World.cell?_alloc_lt _ _ ⟨tb, 0, none⟩ (by simp; omega), World.cell?_alloc_lt _ _ ⟨tb, 0, none⟩ (by simp; omega), World.cell?_alloc_lt _ _ ⟨tb, 0, none⟩ htl]; exact ht0
  have g3 : ∀ A B C, (((w.alloc A).alloc B).alloc C).frozen? ⟨tb, 0, none⟩ = false := fun A B C => by
    rw [World.frozen?_alloc_old _ _ ⟨tb, 0, none⟩ (by simp; omega), World.frozen?_alloc_old _ _ ⟨tb, 0, none⟩ (by simp; omega), World.frozen?_alloc_old _ _ ⟨tb, 0, none⟩ (Nat.ne_of_lt htl)]; exact hf0
  have el := fun A B => As.elemVP ⟨vb, 0, none⟩ ⟨tb, 0, none⟩ ((w.alloc A).alloc B) (g1 A B)
  have st := fun A B => As.setE ⟨tb, 0, none⟩ ⟨w.heap.size + 1 + 1, 0, none⟩ c old (((w.alloc A).alloc B).alloc (.cells #[.int .i64 c] 112)) (by rw [World.cell?_alloc_at _ _ _ _ (by simp)]; rfl) (g2 A B _) (g3 A B _)
  clear g1 g3
  go_enter Tryz.func116, Tryz.ntmps116
  go_wp2
  refine wp_loop_rounds 2 ?_
  rw [rounds_succ]
  go_wp2_with fail
  refine (unwrap_E _ _ _).mono ?_
  rintro e w' ⟨rfl, rfl⟩
  go_wp2_with fail
  rw [rounds_succ]
  go_wp2_with fail
  go_ret
  refine ⟨rfl, ?_, ?_⟩
  · exact World.cell?_setCell_same _ _ _ (g2 _ _ _)
  · exact ((((Below.refl _ _).alloc (Nat.le_of_lt htl) _).alloc (by simp; omega) _).alloc (by simp; omega) _).setCell (Nat.le_refl _) _
set_option maxHeartbeats 4000000 in
theorem as_two (s0 s : ByteArray) (c : Int) (tv : Value) (tb vb : Nat) (old : Value) (w : World) (hv : w.cell? ⟨vb, 0, none⟩ = some (.pointer (some ⟨tb, 0, none⟩))) (ht0 : w.cell? ⟨tb, 0, none⟩ = some old) (hf0 : w.frozen? ⟨tb, 0, none⟩ = false) :
    Calls Tryz.prog 116 #[.iface 114 (.agg #[.string s0, errV s c]), tv, .agg #[.pointer (some ⟨4, 134, none⟩), .pointer (some ⟨vb, 0, none⟩), .int .u64 150], .iface 185 (.agg #[.pointer (some ⟨4, 112, none⟩)])] w fun e w' => e = .returned (.bool true) ∧ w'.cell? ⟨tb, 0, none⟩ = some (.int .i64 c) ∧ Below tb w w' := by
  have h25 := @run_callFunc_extern Tryz.prog 113 _ (fun args => ReflectliteValue.unpack (args.getD 0 (.tuple #[]))) Tryz.func113 (by kernel_rfl) (by kernel_rfl) (by kernel_rfl) (by kernel_rfl)
  have h29 := @run_callFunc_extern Tryz.prog 138 _ ReflectliteType.typeOf Tryz.func138 (by kernel_rfl) (by kernel_rfl) (by kernel_rfl) (by kernel_rfl)
  have h56 := @run_callFunc_extern Tryz.prog 185 _ (ReflectliteType.relation "AssignableTo" ReflectliteType.assignableTo) Tryz.func185 (by kernel_rfl) (by kernel_rfl) (by kernel_rfl) (by kernel_rfl)
  have h30 := @run_callFunc_extern Tryz.prog 139 _ (ReflectliteValue.method (ReflectliteValue.valueError "reflectlite.Value.Elem" 0) ReflectliteValue.elem) Tryz.func139 (by kernel_rfl) (by kernel_rfl) (by kernel_rfl) (by kernel_rfl)
  have h31 := @run_callFunc_extern Tryz.prog 140 _ ReflectliteValue.set Tryz.func140 (by kernel_rfl) (by kernel_rfl) (by kernel_rfl) (by kernel_rfl)
  have tE := As.typeOfE
  have tD := As.typeOfD
  have mA := As.methodAssignableTo
  have mU := As.methodUnwrap
  have aE := As.assignableE
  have aD := As.assignableD
  have vE := As.valueOfE
  have nAs := fun (v : Value) (xT : TypeId) (wx : World) => run_typeAssert_lacksB (P := Tryz.prog) (z := .nilIface) (t := 114) Tryz.underlying190 (by kernel_rfl) (by kernel_rfl) v xT wx
  have yUn := fun (v : Value) (xT : TypeId) (wx : World) => run_typeAssert_hasB (P := Tryz.prog) (t := 114) Tryz.underlying193 (by kernel_rfl) v xT wx
  have htl : tb < w.heap.size := World.block_lt_of_cell? _ _ ht0
  have hvl : vb < w.heap.size := World.block_lt_of_cell? _ _ hv
  have g1 : ∀ A B B2, (((w.alloc A).alloc B).alloc B2).cell? ⟨vb, 0, none⟩ = some (.pointer (some ⟨tb, 0, none⟩)) := fun A B B2 => by
    rw [World.cell?_alloc_lt _ _ ⟨vb, 0, none⟩ (by simp; omega), World.cell?_alloc_lt _ _ ⟨vb, 0, none⟩ (by simp; omega), World.cell?_alloc_lt _ _ ⟨vb, 0, none⟩ hvl]; exact hv
  have g2 : ∀ A B B2 C, ((((w.alloc A).alloc B).alloc B2).alloc C).cell? ⟨tb, 0, none⟩ = some old := fun A B B2 C => by
    rw [World.cell?_alloc_lt _ _ ⟨tb, 0, none⟩ (by simp; omega), World.cell?_alloc_lt _ _ ⟨tb, 0, none⟩ (by simp; omega), World.cell?_alloc_lt _ _ ⟨tb, 0, none⟩ (by simp; omega), World.cell?_alloc_lt _ _ ⟨tb, 0, none⟩ htl]; exact ht0
  have g3 : ∀ A B B2 C, ((((w.alloc A).alloc B).alloc B2).alloc C).frozen? ⟨tb, 0, none⟩ = false := fun A B B2 C => by
    rw [World.frozen?_alloc_old _ _ ⟨tb, 0, none⟩ (by simp; omega), World.frozen?_alloc_old _ _ ⟨tb, 0, none⟩ (by simp; omega), World.frozen?_alloc_old _ _ ⟨tb, 0, none⟩ (by simp; omega), World.frozen?_alloc_old _ _ ⟨tb, 0, none⟩ (Nat.ne_of_lt htl)]; exact hf0
  have el := fun A B B2 => As.elemVP ⟨vb, 0, none⟩ ⟨tb, 0, none⟩ (((w.alloc A).alloc B).alloc B2) (g1 A B B2)
  have st := fun A B B2 => As.setE ⟨tb, 0, none⟩ ⟨w.heap.size + 1 + 1 + 1, 0, none⟩ c old ((((w.alloc A).alloc B).alloc B2).alloc (.cells #[.int .i64 c] 112)) (by rw [World.cell?_alloc_at _ _ _ _ (by simp)]; rfl) (g2 A B B2 _) (g3 A B B2 _)
  clear g1 g3
  go_enter Tryz.func116, Tryz.ntmps116
  go_wp2
  refine wp_loop_rounds 3 ?_
  rw [rounds_succ]
  go_wp2_with fail
  refine (unwrap_D _ _ _).mono ?_
  rintro e w' ⟨rfl, rfl⟩
  go_wp2_with fail
  rw [rounds_succ]
  go_wp2_with fail
  refine (unwrap_E _ _ _).mono ?_
  rintro e w' ⟨rfl, rfl⟩
  go_wp2_with fail
  rw [rounds_succ]
  go_wp2_with fail
  go_ret
  refine ⟨rfl, ?_, ?_⟩
  · exact World.cell?_setCell_same _ _ _ (g2 _ _ _ _)
  · exact (((((Below.refl _ _).alloc (Nat.le_of_lt htl) _).alloc (by simp; omega) _).alloc (by simp; omega) _).alloc (by simp; omega) _).setCell (Nat.le_refl _) _
end Go.Proofs.YtogfjomfhenhfaaGreatDoor
