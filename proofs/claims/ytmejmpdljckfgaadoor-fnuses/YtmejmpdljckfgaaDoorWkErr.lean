/-
  Errors that bear a code, however often they are wrapped.
-/
import Derived.Test.YtmejmpdljckfgaaDoorAsC
import Derived.Test.YtmejmpdljckfgaaDoorEt
import Derived.Lib.Hide
namespace Go.Proofs.YtmejmpdljckfgaaDoor
open Go.RowKit Go.Extern.Stop Go.Stop Go.Extern

/-- A refusal that is wrapped at least once. -/
inductive AsF : Value → Int → Prop
  | one (s : ByteArray) (c : Int) : AsF (.agg #[.string s, .iface 79 (.agg #[.int .i64 c])]) c
  | more (s : ByteArray) (y : Value) (c : Int) : AsF y c → AsF (.agg #[.string s, .iface 83 y]) c
/-- What errors.as looks at from round to round. -/
def AsV (v : Value) (c : Int) : Prop := (∃ y, v = .iface 83 y ∧ AsF y c) ∨ v = .iface 79 (.agg #[.int .i64 c])
theorem asV_step {y : Value} {c : Int} (h : AsF y c) : ∃ s v, y = .agg #[.string s, v] ∧ AsV v c ∧ SizeOf.sizeOf v < SizeOf.sizeOf (Value.iface 83 y) := by
  cases h with
  | one s c => exact ⟨s, _, rfl, Or.inr rfl, by simp; omega⟩
  | more s y c h => exact ⟨s, _, rfl, Or.inl ⟨y, rfl, h⟩, by simp; omega⟩
set_option maxHeartbeats 1000000 in
theorem unwrap_V (s : ByteArray) (v : Value) (w : World) (c : Int) (hv : AsV v c) :
    Calls Tryd.prog 150 #[.agg #[.string s, v]] w fun e w' => e = .returned v ∧ w' = w.alloc (.cells #[.string s, v] 83) := by
  rcases hv with ⟨y, rfl, -⟩ | rfl
  · exact unwrap_D s y w
  · exact unwrap_E s _ w
set_option maxHeartbeats 8000000 in
theorem asF_finds {y : Value} {c : Int} (H : AsF y c) : AsFinds y c := by
  intro tv tb vb old w hv ht0 hf0
  have h25 := @run_callFunc_extern Tryd.prog 101 _ (fun args => ReflectliteValue.unpack (args.getD 0 (.tuple #[]))) Tryd.func101 (by kernel_rfl) (by kernel_rfl) (by kernel_rfl) (by kernel_rfl)
  have h29 := @run_callFunc_extern Tryd.prog 116 _ ReflectliteType.typeOf Tryd.func116 (by kernel_rfl) (by kernel_rfl) (by kernel_rfl) (by kernel_rfl)
  have h56 := @run_callFunc_extern Tryd.prog 155 _ (ReflectliteType.relation "AssignableTo" ReflectliteType.assignableTo) Tryd.func155 (by kernel_rfl) (by kernel_rfl) (by kernel_rfl) (by kernel_rfl)
  have h30 := @run_callFunc_extern Tryd.prog 117 _ (ReflectliteValue.method (ReflectliteValue.valueError "reflectlite.Value.Elem" 0) ReflectliteValue.elem) Tryd.func117 (by kernel_rfl) (by kernel_rfl) (by kernel_rfl) (by kernel_rfl)
  have h31 := @run_callFunc_extern Tryd.prog 118 _ ReflectliteValue.set Tryd.func118 (by kernel_rfl) (by kernel_rfl) (by kernel_rfl) (by kernel_rfl)
  have tE := As.typeOfE
  have tD := As.typeOfD
  have mA := As.methodAssignableTo
  have mU := As.methodUnwrap
  have aE := As.assignableE
  have aD := As.assignableD
  have vE := As.valueOfE
  have nAs := fun (v : Value) (xT : TypeId) (wx : World) => run_typeAssert_lacksB (P := Tryd.prog) (z := .nilIface) (t := 83) Tryd.underlying168 (by kernel_rfl) (by kernel_rfl) v xT wx
  have yUn := fun (v : Value) (xT : TypeId) (wx : World) => run_typeAssert_hasB (P := Tryd.prog) (t := 83) Tryd.underlying171 (by kernel_rfl) v xT wx
  have htl : tb < w.heap.size := World.block_lt_of_cell? _ _ ht0
  have hvl : vb < w.heap.size := World.block_lt_of_cell? _ _ hv
  have HV : Hid (AsV (.iface 83 y) c) := Or.inl ⟨y, rfl, H⟩
  obtain ⟨W0, hW0⟩ : ∃ W0, W0 = w.alloc (.cells #[.pointer (some ⟨4, 134, none⟩), .pointer (some ⟨vb, 0, none⟩), .int .u64 150] 147) := ⟨_, rfl⟩
  have HW0 := Lib.hid hW0
  have HV0 : Hid (W0.cell? ⟨vb, 0, none⟩ = some (.pointer (some ⟨tb, 0, none⟩))) := by show _ = _; rw [hW0, World.cell?_alloc_lt _ _ ⟨vb, 0, none⟩ hvl]; exact hv
  have HT0 : Hid (W0.cell? ⟨tb, 0, none⟩ = some old) := by show _ = _; rw [hW0, World.cell?_alloc_lt _ _ ⟨tb, 0, none⟩ htl]; exact ht0
  have HF0 : Hid (W0.frozen? ⟨tb, 0, none⟩ = false) := by show _ = _; rw [hW0, World.frozen?_alloc_old _ _ ⟨tb, 0, none⟩ (Nat.ne_of_lt htl)]; exact hf0
  have HB0 : Hid (Below w.heap.size w W0) := by show Below _ _ _; rw [hW0]; exact (Below.refl _ _).alloc (Nat.le_refl _) _
  have HC0 : Hid ((W0.cell? ⟨w.heap.size, 0, none⟩ = some (.pointer (some ⟨4, 134, none⟩)) ∧ W0.cell? ⟨w.heap.size, 1, none⟩ = some (.pointer (some ⟨vb, 0, none⟩))) ∧ W0.cell? ⟨w.heap.size, 2, none⟩ = some (.int .u64 150)) := by
    show (_ ∧ _) ∧ _
    rw [hW0]
    exact ⟨⟨by simp, by simp⟩, by simp⟩
  have hs0 : w.heap.size < W0.heap.size := by rw [hW0]; simp
  have ht0l : tb < W0.heap.size := by omega
  clear hW0 hv ht0 hf0
  go_enter Tryd.func104, Tryd.ntmps104
  go_wp2
  rw [← HW0.out]
  go_loopw [0] (fun v wr => Hid (AsV v c) ∧ Hid (Below W0.heap.size W0 wr)) (fun v _ => SizeOf.sizeOf v)
  case atStart => exact ⟨HV, Below.refl _ _⟩
  case round =>
    obtain ⟨hV, hB⟩ := hrel
    obtain ⟨⟨c0, c1⟩, c2⟩ := HC0.out
    rcases hV.out with ⟨y', hy, hF⟩ | hy
    · obtain ⟨s, v', rfl, hv', hlt⟩ := asV_step hF
      subst hy
      go_wp2_with fail
      refine (unwrap_V s v' _ c hv').mono ?_
      rintro e w' ⟨rfl, rfl⟩
      rcases hv' with ⟨y2, rfl, h2⟩ | rfl
      · go_wp2_with fail
        exact ⟨⟨Or.inl ⟨y2, rfl, h2⟩, hB.out.alloc hB.out.size _⟩, hlt⟩
      · go_wp2_with fail
        exact ⟨⟨Or.inr rfl, hB.out.alloc hB.out.size _⟩, hlt⟩
    · subst hy
      have d0 := (hB.out.cell (p := ⟨w.heap.size, 0, none⟩) hs0).trans c0
      have d1 := (hB.out.cell (p := ⟨w.heap.size, 1, none⟩) hs0).trans c1
      have d2 := (hB.out.cell (p := ⟨w.heap.size, 2, none⟩) hs0).trans c2
      have dv : wr.cell? ⟨vb, 0, none⟩ = some (.pointer (some ⟨tb, 0, none⟩)) := (hB.out.cell (p := ⟨vb, 0, none⟩) (by show vb < W0.heap.size; omega)).trans HV0.out
      have dt : wr.cell? ⟨tb, 0, none⟩ = some old := (hB.out.cell (p := ⟨tb, 0, none⟩) ht0l).trans HT0.out
      have df : wr.frozen? ⟨tb, 0, none⟩ = false := (hB.out.frozen (p := ⟨tb, 0, none⟩) ht0l).trans HF0.out
      have htr : tb < wr.heap.size := World.block_lt_of_cell? _ _ dt
      have el := As.elemVP ⟨vb, 0, none⟩ ⟨tb, 0, none⟩ wr dv
      have dt2 : (wr.alloc (.cells #[.int .i64 c] 79)).cell? ⟨tb, 0, none⟩ = some old := (World.cell?_alloc_lt _ _ ⟨tb, 0, none⟩ htr).trans dt
      have st := As.setE ⟨tb, 0, none⟩ ⟨wr.heap.size, 0, none⟩ c old (wr.alloc (.cells #[.int .i64 c] 79)) (by rw [World.cell?_alloc_at _ _ _ _ (by simp)]; rfl) dt2 ((World.frozen?_alloc_old _ _ ⟨tb, 0, none⟩ (Nat.ne_of_lt htr)).trans df)
      have HD2 := Lib.hid dt
      clear c0 c1 c2 dt2
      go_wp2_with fail
      go_ret
      refine ⟨rfl, (World.cell?_alloc_lt _ _ ⟨tb, 0, none⟩ (by simpa using htr)).trans (World.cell?_setCell_same _ _ _ HD2.out), ?_⟩
      have q1 : Below tb w wr := (HB0.out.mono (by omega)).trans (hB.out.mono (by omega))
      exact (q1.setCell (p := ⟨tb, 0, none⟩) (Nat.le_refl _) _).alloc (by have := q1.size; simp; omega) _
/-- An error that bears a code. -/
def ErrIs (v : Value) (k : Int) : Prop := ∃ y, v = .iface 83 y ∧ AsF y k
instance {y : Value} {k : Int} : Coe (AsF y k) (AsFinds y k) := ⟨asF_finds⟩
theorem errIs_one (s : ByteArray) (k : Int) : ErrIs (errV s k) k := ⟨_, rfl, AsF.one s k⟩
theorem errIs_two (s0 s : ByteArray) (k : Int) : ErrIs (.iface 83 (.agg #[.string s0, errV s k])) k := ⟨_, rfl, AsF.more s0 _ k (AsF.one s k)⟩
theorem ErrIs.wrap {v : Value} {k : Int} (h : ErrIs v k) (s : ByteArray) : ErrIs (.iface 83 (.agg #[.string s, v])) k := by
  obtain ⟨y, rfl, hy⟩ := h
  exact ⟨_, rfl, AsF.more s y k hy⟩
end Go.Proofs.YtmejmpdljckfgaaDoor
