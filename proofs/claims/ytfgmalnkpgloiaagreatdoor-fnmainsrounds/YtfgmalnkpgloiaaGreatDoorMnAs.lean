/-
  errors.As over errors that name a place.
-/
import Derived.Test.YtfgmalnkpgloiaaGreatDoorMnAsB
import Derived.Test.YtfgmalnkpgloiaaGreatDoorMnAsC
import Derived.Test.YtfgmalnkpgloiaaGreatDoorMnAsD
import Derived.Test.YtfgmalnkpgloiaaGreatDoorMnAsE
import Derived.Test.YtfgmalnkpgloiaaGreatDoorMnAsF
import Derived.Test.YtfgmalnkpgloiaaGreatDoorMnT3
import Derived.Test.YtfgmalnkpgloiaaGreatDoorMnU3
import Derived.Test.YtfgmalnkpgloiaaGreatDoorEt
namespace Go.Proofs.YtfgmalnkpgloiaaGreatDoor
open Go.RowKit Go.Extern.Stop Go.Stop Go.Extern


theorem finds_dsr (s : ByteArray) (a c : Int) : AsFinds (.agg #[.string s, .iface 114 (.agg #[.int .i64 a, .iface 105 (.agg #[.int .i64 c])])]) c := fun tv tb vb old w h1 h2 h3 => as_dsr s a c tv tb vb old w h1 h2 h3
theorem finds_ddsr (s0 s : ByteArray) (a c : Int) : AsFinds (.agg #[.string s0, stV s a c]) c := fun tv tb vb old w h1 h2 h3 => as_ddsr s0 s a c tv tb vb old w h1 h2 h3
/-- What errors.as leaves at the target *stuckAt: the place that was named, or what stood there. -/
def StFinds (y : Value) (a : Int) : Prop := ∀ (tv : Value) (tb vb : Nat) (w : World), w.cell? ⟨vb, 0, none⟩ = some (.pointer (some ⟨tb, 0, none⟩)) → w.cell? ⟨tb, 0, none⟩ = some (.int .i64 0) → w.frozen? ⟨tb, 0, none⟩ = false → w.cell? ⟨tb, 1, none⟩ = some .nilIface → w.frozen? ⟨tb, 1, none⟩ = false →
    Calls Tryz.prog 100 #[.iface 107 y, tv, .agg #[.pointer (some ⟨1, 127, none⟩), .pointer (some ⟨vb, 0, none⟩), .int .u64 150], .iface 166 (.agg #[.pointer (some ⟨1, 114, none⟩)])] w fun e w' => (∃ b : Bool, e = .returned (.bool b)) ∧ w'.cell? ⟨tb, 0, none⟩ = some (.int .i64 a) ∧ Below tb w w'
theorem StFinds.none {y : Value} (h : ∀ (tv : Value) (vb : Nat) (w : World), Calls Tryz.prog 100 #[.iface 107 y, tv, .agg #[.pointer (some ⟨1, 127, none⟩), .pointer (some ⟨vb, 0, none⟩), .int .u64 150], .iface 166 (.agg #[.pointer (some ⟨1, 114, none⟩)])] w fun e w' => e = .returned (.bool false) ∧ Below w.heap.size w w') : StFinds y 0 := fun tv _ vb w _ h2 _ _ _ => (h tv vb w).mono (fun _ _ ⟨he, hb⟩ => ⟨⟨false, he⟩, (hb.cell (World.block_lt_of_cell? _ _ h2)).trans h2, hb.mono (Nat.le_of_lt (World.block_lt_of_cell? _ _ h2))⟩)
theorem st_dr (s : ByteArray) (c : Int) : StFinds (.agg #[.string s, .iface 105 (.agg #[.int .i64 c])]) 0 := StFinds.none (fun tv vb w => asS_dr s c tv vb w)
theorem st_ddr (s0 s : ByteArray) (c : Int) : StFinds (.agg #[.string s0, errV s c]) 0 := StFinds.none (fun tv vb w => asS_ddr s0 s c tv vb w)
theorem st_ds (s : ByteArray) (a c : Int) : StFinds (.agg #[.string s, .iface 114 (.agg #[.int .i64 a, .iface 105 (.agg #[.int .i64 c])])]) a := fun tv tb vb w h1 h2 h3 h4 h5 => (asS_ds s a c tv tb vb _ _ w h1 h2 h3 h4 h5).mono (fun _ _ ⟨he, hc, hb⟩ => ⟨⟨true, he⟩, hc, hb⟩)
theorem st_dds (s0 s : ByteArray) (a c : Int) : StFinds (.agg #[.string s0, stV s a c]) a := fun tv tb vb w h1 h2 h3 h4 h5 => (asS_dds s0 s a c tv tb vb _ _ w h1 h2 h3 h4 h5).mono (fun _ _ ⟨he, hc, hb⟩ => ⟨⟨true, he⟩, hc, hb⟩)
set_option maxHeartbeats 4000000 in
theorem asSTop (y : Value) (a : Int) (H : StFinds y a) (tb : Nat) (w : World) (hg : Et w) (ht0 : w.cell? ⟨tb, 0, none⟩ = some (.int .i64 0)) (hf0 : w.frozen? ⟨tb, 0, none⟩ = false) (ht1 : w.cell? ⟨tb, 1, none⟩ = some .nilIface) (hf1 : w.frozen? ⟨tb, 1, none⟩ = false) :
    Calls Tryz.prog 83 #[.iface 107 y, .iface 127 (.pointer (some ⟨tb, 0, none⟩))] w fun e w' => (∃ b : Bool, e = .returned (.bool b)) ∧ w'.cell? ⟨tb, 0, none⟩ = some (.int .i64 a) ∧ Below tb w w' := by
  have h25 := @run_callFunc_extern Tryz.prog 97 _ (fun args => ReflectliteValue.unpack (args.getD 0 (.tuple #[]))) Tryz.func97 (by kernel_rfl) (by kernel_rfl) (by kernel_rfl) (by kernel_rfl)
  have h26 := @run_callFunc_extern Tryz.prog 98 _ (ReflectliteValue.methodAny (ReflectliteValue.valueError "reflectlite.Value.Type" 0) (fun t _ _ _ => ReflectliteType.toType t)) Tryz.func98 (by kernel_rfl) (by kernel_rfl) (by kernel_rfl) (by kernel_rfl)
  have h27 := @run_callFunc_extern Tryz.prog 99 _ (ReflectliteValue.method (ReflectliteValue.valueError "reflectlite.Value.IsNil" 0) ReflectliteValue.isNil) Tryz.func99 (by kernel_rfl) (by kernel_rfl) (by kernel_rfl) (by kernel_rfl)
  have h46 := @run_callFunc_extern Tryz.prog 128 _ (ReflectliteType.abiMethod fun t => do pure (.int .u8 (← Rtype.kind t))) Tryz.func128 (by kernel_rfl) (by kernel_rfl) (by kernel_rfl) (by kernel_rfl)
  have h58 := @run_callFunc_extern Tryz.prog 149 _ (ReflectliteType.method ReflectliteType.elem) Tryz.func149 (by kernel_rfl) (by kernel_rfl) (by kernel_rfl) (by kernel_rfl)
  have h59 := @run_callFunc_extern Tryz.prog 150 _ (ReflectliteType.relation "Implements" ReflectliteType.implements_) Tryz.func150 (by kernel_rfl) (by kernel_rfl) (by kernel_rfl) (by kernel_rfl)
  have vP := AsS.valueOfP
  have tP := AsS.typeP
  have mK := As.methodKind
  have mE := As.methodElem
  have mI := As.methodImplements
  have kP := AsS.kindP
  have kE := AsS.kindE
  have eP := AsS.elemP
  have iE := AsS.implementsE
  have htl : tb < w.heap.size := World.block_lt_of_cell? _ _ ht0
  have hgl : 0 < w.heap.size := World.block_lt_of_cell? _ _ hg
  have nP := fun B => AsS.isNilP ⟨w.heap.size, 0, none⟩ ⟨tb, 0, none⟩ ((w.alloc (.cells #[.pointer (some ⟨tb, 0, none⟩)] 127)).alloc B) (by rw [World.cell?_alloc_lt _ _ ⟨w.heap.size, 0, none⟩ (by simp)]; simp)
  have hg2 : ∀ A B, ((w.alloc A).alloc B).cell? ⟨0, 0, none⟩ = some (.iface 166 (.agg #[.pointer (some ⟨1, 64, none⟩)])) := fun A B => by
    rw [World.cell?_alloc_lt _ _ ⟨0, 0, none⟩ (by simp <;> omega), World.cell?_alloc_lt _ _ ⟨0, 0, none⟩ hgl]; exact hg
  have Hs : Hid (StFinds y a) := H
  clear H
  go_enter Tryz.func83, Tryz.ntmps83
  go_wp2_with fail
  refine (Hs.out _ tb w.heap.size _ ?_ ?_ ?_ ?_ ?_).mono ?_
  · rw [World.cell?_alloc_lt _ _ ⟨w.heap.size, 0, none⟩ (by simp)]; simp
  · rw [World.cell?_alloc_lt _ _ ⟨tb, 0, none⟩ (by simp; omega), World.cell?_alloc_lt _ _ ⟨tb, 0, none⟩ htl]; exact ht0
  · rw [World.frozen?_alloc_old _ _ ⟨tb, 0, none⟩ (by simp; omega), World.frozen?_alloc_old _ _ ⟨tb, 0, none⟩ (Nat.ne_of_lt htl)]; exact hf0
  · rw [World.cell?_alloc_lt _ _ ⟨tb, 1, none⟩ (by simp; omega), World.cell?_alloc_lt _ _ ⟨tb, 1, none⟩ htl]; exact ht1
  · rw [World.frozen?_alloc_old _ _ ⟨tb, 1, none⟩ (by simp; omega), World.frozen?_alloc_old _ _ ⟨tb, 1, none⟩ (Nat.ne_of_lt htl)]; exact hf1
  · rintro e w' ⟨⟨b, rfl⟩, hc, hb⟩
    have HB : Hid (Below tb w w') := (((Below.refl _ _).alloc (Nat.le_of_lt htl) _).alloc (by simp; omega) _).trans hb
    have HC : Hid (w'.cell? ⟨tb, 0, none⟩ = some (.int .i64 a)) := hc
    clear hc hb hg hg2 ht0 hf0 nP ht1 hf1
    go_wp2_with fail
    go_ret
    exact ⟨⟨b, rfl⟩, HC.out, HB.out⟩
end Go.Proofs.YtfgmalnkpgloiaaGreatDoor
