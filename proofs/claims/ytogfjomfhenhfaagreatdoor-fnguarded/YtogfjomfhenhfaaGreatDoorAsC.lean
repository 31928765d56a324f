/-
  The contracts of errors.As at the target *refusal, and of the program's codeOf.
-/
import Derived.Test.YtogfjomfhenhfaaGreatDoorAsB
namespace Go.Proofs.YtogfjomfhenhfaaGreatDoor
open Go.RowKit Go.Extern.Stop Go.Stop Go.Extern

/-- What a call of errors.as leaves: it has found the refusal, and its code stands at the target. -/
def AsFinds (y : Value) (c : Int) : Prop := ∀ (tv : Value) (tb vb : Nat) (old : Value) (w : World), w.cell? ⟨vb, 0, none⟩ = some (.pointer (some ⟨tb, 0, none⟩)) → w.cell? ⟨tb, 0, none⟩ = some old → w.frozen? ⟨tb, 0, none⟩ = false →
    Calls Tryz.prog 116 #[.iface 114 y, tv, .agg #[.pointer (some ⟨4, 134, none⟩), .pointer (some ⟨vb, 0, none⟩), .int .u64 150], .iface 185 (.agg #[.pointer (some ⟨4, 112, none⟩)])] w fun e w' => e = .returned (.bool true) ∧ w'.cell? ⟨tb, 0, none⟩ = some (.int .i64 c) ∧ Below tb w w'

theorem finds_one (s : ByteArray) (c : Int) : AsFinds (.agg #[.string s, .iface 112 (.agg #[.int .i64 c])]) c := fun tv tb vb old w h1 h2 h3 => as_one s c tv tb vb old w h1 h2 h3
theorem finds_two (s0 s : ByteArray) (c : Int) : AsFinds (.agg #[.string s0, errV s c]) c := fun tv tb vb old w h1 h2 h3 => as_two s0 s c tv tb vb old w h1 h2 h3

set_option maxHeartbeats 4000000 in
theorem asTop (y : Value) (c : Int) (H : AsFinds y c) (tb : Nat) (old : Value) (w : World) (hg : w.cell? ⟨0, 0, none⟩ = some (.iface 185 (.agg #[.pointer (some ⟨4, 78, none⟩)]))) (ht0 : w.cell? ⟨tb, 0, none⟩ = some old) (hf0 : w.frozen? ⟨tb, 0, none⟩ = false) :
    Calls Tryz.prog 91 #[.iface 114 y, .iface 134 (.pointer (some ⟨tb, 0, none⟩))] w fun e w' => e = .returned (.bool true) ∧ w'.cell? ⟨tb, 0, none⟩ = some (.int .i64 c) ∧ Below tb w w' := by
  have h25 := @run_callFunc_extern Tryz.prog 113 _ (fun args => ReflectliteValue.unpack (args.getD 0 (.tuple #[]))) Tryz.func113 (by kernel_rfl) (by kernel_rfl) (by kernel_rfl) (by kernel_rfl)
  have h26 := @run_callFunc_extern Tryz.prog 114 _ (ReflectliteValue.methodAny (ReflectliteValue.valueError "reflectlite.Value.Type" 0) (fun t _ _ _ => ReflectliteType.toType t)) Tryz.func114 (by kernel_rfl) (by kernel_rfl) (by kernel_rfl) (by kernel_rfl)
  have h27 := @run_callFunc_extern Tryz.prog 115 _ (ReflectliteValue.method (ReflectliteValue.valueError "reflectlite.Value.IsNil" 0) ReflectliteValue.isNil) Tryz.func115 (by kernel_rfl) (by kernel_rfl) (by kernel_rfl) (by kernel_rfl)
  have h46 := @run_callFunc_extern Tryz.prog 173 _ (ReflectliteType.abiMethod fun t => do pure (.int .u8 (← Rtype.kind t))) Tryz.func173 (by kernel_rfl) (by kernel_rfl) (by kernel_rfl) (by kernel_rfl)
  have h58 := @run_callFunc_extern Tryz.prog 187 _ (ReflectliteType.method ReflectliteType.elem) Tryz.func187 (by kernel_rfl) (by kernel_rfl) (by kernel_rfl) (by kernel_rfl)
  have h59 := @run_callFunc_extern Tryz.prog 188 _ (ReflectliteType.relation "Implements" ReflectliteType.implements_) Tryz.func188 (by kernel_rfl) (by kernel_rfl) (by kernel_rfl) (by kernel_rfl)
  have vP := As.valueOfP
  have tP := As.typeP
  have mK := As.methodKind
  have mE := As.methodElem
  have mI := As.methodImplements
  have kP := As.kindP
  have kE := As.kindE
  have eP := As.elemP
  have iE := As.implementsE
  have htl : tb < w.heap.size := World.block_lt_of_cell? _ _ ht0
  have hgl : 0 < w.heap.size := World.block_lt_of_cell? _ _ hg
  have nP := fun B => As.isNilP ⟨w.heap.size, 0, none⟩ ⟨tb, 0, none⟩ ((w.alloc (.cells #[.pointer (some ⟨tb, 0, none⟩)] 134)).alloc B) (by rw [World.cell?_alloc_lt _ _ ⟨w.heap.size, 0, none⟩ (by simp)]; simp)
  have hg2 : ∀ A B, ((w.alloc A).alloc B).cell? ⟨0, 0, none⟩ = some (.iface 185 (.agg #[.pointer (some ⟨4, 78, none⟩)])) := fun A B => by
    rw [World.cell?_alloc_lt _ _ ⟨0, 0, none⟩ (by simp <;> omega), World.cell?_alloc_lt _ _ ⟨0, 0, none⟩ hgl]; exact hg
  have Hs : Hid (AsFinds y c) := H
  clear H
  go_enter Tryz.func91, Tryz.ntmps91
  go_wp2_with fail
  refine (Hs.out _ tb w.heap.size old _ ?_ ?_ ?_).mono ?_
  · rw [World.cell?_alloc_lt _ _ ⟨w.heap.size, 0, none⟩ (by simp)]; simp
  · rw [World.cell?_alloc_lt _ _ ⟨tb, 0, none⟩ (by simp; omega), World.cell?_alloc_lt _ _ ⟨tb, 0, none⟩ htl]; exact ht0
  · rw [World.frozen?_alloc_old _ _ ⟨tb, 0, none⟩ (by simp; omega), World.frozen?_alloc_old _ _ ⟨tb, 0, none⟩ (Nat.ne_of_lt htl)]; exact hf0
  · rintro e w' ⟨rfl, hc, hb⟩
    have HB : Hid (Below tb w w') := (((Below.refl _ _).alloc (Nat.le_of_lt htl) _).alloc (by simp; omega) _).trans hb
    have HC : Hid (w'.cell? ⟨tb, 0, none⟩ = some (.int .i64 c)) := hc
    clear hc hb hg hg2 ht0 hf0 nP
    go_wp2_with fail
    go_ret
    exact ⟨rfl, HC.out, HB.out⟩

set_option maxHeartbeats 1000000 in
theorem codeOf_any (y : Value) (c : Int) (H : AsFinds y c) (w : World) (hg : w.cell? ⟨0, 0, none⟩ = some (.iface 185 (.agg #[.pointer (some ⟨4, 78, none⟩)]))) :
    Calls Tryz.prog 71 #[.iface 114 y] w fun e w' => e = .returned (.int .i64 c) ∧ Below w.heap.size w w' := by
  have hgl : 0 < w.heap.size := World.block_lt_of_cell? _ _ hg
  have Hg : Hid (∀ A, (w.alloc A).cell? ⟨0, 0, none⟩ = some (.iface 185 (.agg #[.pointer (some ⟨4, 78, none⟩)]))) := fun A => by
    rw [World.cell?_alloc_lt _ _ ⟨0, 0, none⟩ hgl]; exact hg
  have Hs : Hid (AsFinds y c) := H
  clear H hg
  go_enter Tryz.func71, Tryz.ntmps71
  go_wp2_with fail
  refine (asTop y c Hs.out w.heap.size (.int .i64 0) _ (Hg.out _) (by simp) (by simp)).mono ?_
  rintro e w' ⟨rfl, hc, hb⟩
  have HB : Hid (Below w.heap.size w w') := ((Below.refl _ _).alloc (Nat.le_refl _) _).trans hb
  clear hb
  go_wp2_with fail
  go_ret
  exact ⟨rfl, HB.out⟩

end Go.Proofs.YtogfjomfhenhfaaGreatDoor
