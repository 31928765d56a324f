/-
  The kinds of pipes that stand behind an interface: what may flow, how they lead, how the head falls.
-/
import Derived.Test.YtfgmalnkpgloiaaGreatDoorMnTr
import Derived.Stop.Asserts
import Derived.Shelf.Abstract
namespace Go.Proofs.YtfgmalnkpgloiaaGreatDoor
open Go.RowKit Go.Deep

/-- The kind of a pipe, as a value. -/
def kvN (k drag mark : Int) : Value :=
  if k = 2 then .iface 159 (.agg #[.int .i64 drag, .int .i64 mark])
  else if k = 3 then .iface 157 (.agg #[.int .i64 drag])
  else if k = 4 then .iface 155 (.agg #[.int .i64 (drag + mark)])
  else if k = 5 then .iface 160 (.agg #[.int .i64 0])
  else if k = 6 then .iface 162 (.agg #[.int .i64 drag, .int .i64 mark])
  else .iface 155 (.agg #[.int .i64 drag])
def kv (m : Mn.Mains) (i : Nat) : Value := kvN (m.P (i * 5)) (m.P (i * 5 + 3)) (m.P (i * 5 + 4))
abbrev pipeV (m : Mn.Mains) (i : Nat) : Value := .agg #[.int .i64 (m.P (i * 5)), .int .i64 (m.P (i * 5 + 1)), .int .i64 (m.P (i * 5 + 2)), .int .i64 (m.P (i * 5 + 3)), .int .i64 (m.P (i * 5 + 4))]
theorem kv_iface (m : Mn.Mains) (i : Nat) : ∃ T v, kv m i = .iface T v := by
  unfold kv kvN
  split
  · exact ⟨_, _, rfl⟩
  split
  · exact ⟨_, _, rfl⟩
  split
  · exact ⟨_, _, rfl⟩
  split
  · exact ⟨_, _, rfl⟩
  split
  · exact ⟨_, _, rfl⟩
  · exact ⟨_, _, rfl⟩
theorem mbel2 (w : World) (o1 o2 : Obj) : Below w.heap.size w ((w.alloc o1).alloc o2) := ((Below.refl _ _).alloc (Nat.le_refl _) _).alloc (by simp) _
set_option maxRecDepth 100000 in
set_option maxHeartbeats 2000000 in
theorem kindOf_go (K f t d mk : Int) (h1 : 1 ≤ K) (h2 : K ≤ 6) (d0 : 0 ≤ d) (d1 : d ≤ 1000) (m0 : 0 ≤ mk) (m1 : mk ≤ 100000) (w : World) :
    Calls Tryz.prog 93 #[.agg #[.int .i64 K, .int .i64 f, .int .i64 t, .int .i64 d, .int .i64 mk]] w fun e w' => e = .returned (kvN K d mk) ∧ Below w.heap.size w w' := by
  have HB : Hid (∀ o1 o2 : Obj, Below w.heap.size w ((w.alloc o1).alloc o2)) := mbel2 w
  have k16 : K = 1 ∨ K = 2 ∨ K = 3 ∨ K = 4 ∨ K = 5 ∨ K = 6 := by omega
  clear h1 h2
  rcases k16 with rfl | rfl | rfl | rfl | rfl | rfl
  all_goals
    simp only [kvN]
    go_enter Tryz.func93, Tryz.ntmps93
    go_wp2_with fail
    go_ret
    exact ⟨rfl, HB.out _ _⟩
theorem kindOf_any (m : Mn.Mains) (i : Nat) (h : Mn.PipeOk m i) (w : World) :
    Calls Tryz.prog 93 #[pipeV m i] w fun e w' => e = .returned (kv m i) ∧ Below w.heap.size w w' :=
  kindOf_go _ _ _ _ _ h.k1 h.k2 h.d0 h.d1 h.m0 h.m1 w
/-- The kinds of all pipes. -/
def KdPart (g i : Nat) (m : Mn.Mains) (w : World) : Prop := ∃ F, w.rowIs g 119 m.pn F ∧ ∀ j, j < i → F j = kv m j
theorem KdPart.lt {g i : Nat} {m : Mn.Mains} {w : World} (h : KdPart g i m w) : g < w.heap.size := by obtain ⟨F, h1, _⟩ := h; exact h1.lt
theorem KdPart.block {g i : Nat} {m : Mn.Mains} {w w' : World} (h : KdPart g i m w) (e : w'.heap[g]? = w.heap[g]?) : KdPart g i m w' := by obtain ⟨F, h1, h2⟩ := h; exact ⟨F, h1.of_block e, h2⟩
theorem KdPart.below {g i : Nat} {m : Mn.Mains} {w w' : World} (h : KdPart g i m w) (hb : Below w.heap.size w w') : KdPart g i m w' := h.block (hb.block _ h.lt)
theorem KdPart.cell {g i j : Nat} {m : Mn.Mains} {w : World} (h : KdPart g i m w) (hj : j < m.pn) : ∃ v, w.cell? ⟨g, j, none⟩ = some v := by obtain ⟨F, h1, _⟩ := h; exact ⟨_, h1.cell hj⟩
theorem KdPart.frozen {g i : Nat} {m : Mn.Mains} {w : World} (h : KdPart g i m w) (j : Nat) : w.frozen? ⟨g, j, none⟩ = false := by obtain ⟨F, h1, _⟩ := h; exact h1.frozen j
theorem KdPart.put {g i : Nat} {m : Mn.Mains} {w : World} (h : KdPart g i m w) : KdPart g (i + 1) m (w.setCell ⟨g, i, none⟩ (kv m i)) := by
  obtain ⟨F, h1, h2⟩ := h
  refine ⟨_, h1.set i _, fun j hj => ?_⟩
  by_cases e : j = i
  · subst e; simp
  · simp only [e, if_false]; exact h2 j (by omega)
abbrev KdBlk (g : Nat) (m : Mn.Mains) (w : World) : Prop := KdPart g m.pn m w
theorem kd_cell {g j : Nat} {m : Mn.Mains} {w : World} (h : KdBlk g m w) (hj : j < m.pn) : w.cell? ⟨g, j, none⟩ = some (kv m j) := by
  obtain ⟨F, h1, h2⟩ := h
  rw [h1.cell hj, h2 j hj]
theorem minfo_kind : (Tryz.prog.info? 119).map (fun i => (i.zero, i.size, i.bytes)) = some (some .nilIface, 1, 16) := by kernel_rfl
set_option maxRecDepth 100000 in
set_option maxHeartbeats 2000000 in
theorem kindsOf_any (m : Mn.Mains) (pa : Option Addr) (pk : Nat) (w : World) (h : IsAt pa (m.pn * 5) m.P w) (hr : Mn.Right m) :
    Calls Tryz.prog 71 #[.slice pa m.pn pk] w fun e w' => (e = .returned (.slice (some ⟨w.heap.size, 0, none⟩) m.pn m.pn) ∧ KdBlk w.heap.size m w') ∧ Below w.heap.size w w' := by
  have hpn := hr.pn
  have hmk := run_make_row' (P := Tryz.prog) 68 119 .nilIface 16 Tryz.underlying68 minfo_kind rfl .i64 .i64 m.pn (by omega) (by omega)
  have H := Lib.hid h
  have HR := Lib.hid hr
  have HST : Hid (KdPart w.heap.size 0 m (w.alloc (.cells (madeCells #[.nilIface] m.pn) 119))) := ⟨_, World.rowIs_made w .nilIface m.pn 119, fun j hj => absurd hj (by omega)⟩
  clear h hr
  go_enter Tryz.func71, Tryz.ntmps71
  go_wp2_with fail
  clear hmk
  go_loopw [11] (fun iv wr => ∃ (i : Nat), i ≤ m.pn ∧ iv = .int .i64 i ∧ Hid (KdPart w.heap.size i m wr) ∧ Hid (Below w.heap.size w wr)) (fun iv _ => m.pn - (intOf iv).toNat)
  case atStart => exact ⟨0, Nat.zero_le _, rfl, HST, (Below.refl _ _).alloc (Nat.le_refl _) _⟩
  case round =>
    obtain ⟨i, hi, rfl, hP, hB⟩ := hrel
    clear HST
    by_cases hlt : i < m.pn
    · have hltz : (i : Int) < (m.pn : Int) := by omega
      obtain ⟨b, rfl, c0, c1, c2, c3, c4⟩ := (H.out.below hB.out).at5 hlt
      have zb : b < wr.heap.size := World.block_lt_of_cell? _ _ c0
      have HB0 : Hid (Below w.heap.size w (wr.alloc (.cells #[.int .i64 (m.P (i * 5)), .int .i64 (m.P (i * 5 + 1)), .int .i64 (m.P (i * 5 + 2)), .int .i64 (m.P (i * 5 + 3)), .int .i64 (m.P (i * 5 + 4))] 36))) := hB.out.alloc hB.out.size _
      have HP0 : Hid (KdPart w.heap.size i m (wr.alloc (.cells #[.int .i64 (m.P (i * 5)), .int .i64 (m.P (i * 5 + 1)), .int .i64 (m.P (i * 5 + 2)), .int .i64 (m.P (i * 5 + 3)), .int .i64 (m.P (i * 5 + 4))] 36))) := hP.out.below (nbel_alloc _ _)
      clear hP hB
      go_wp2_with fail
      refine (kindOf_any m i (HR.out.p i hlt) _).mono ?_
      rintro e w1 ⟨rfl, hb⟩
      have hP1 := HP0.out.below hb
      have HP2 := Lib.hid hP1.put
      have HB1 : Hid (Below w.heap.size w w1) := HB0.out.trans (hb.mono HB0.out.size)
      obtain ⟨v0, y0⟩ := hP1.cell hlt
      have z0 := hP1.frozen i
      have hz : w.heap.size < w1.heap.size := hP1.lt
      clear hP1 hb HP0 HB0 c0 c1 c2 c3 c4 zb
      obtain ⟨KT, KV, hkv⟩ := kv_iface m i
      rw [hkv] at HP2 ⊢
      clear hkv
      go_wp2_with fail
      go_roundw
      case rel => exact ⟨i + 1, by omega, by go_num, HP2, HB1.out.setCell (p := ⟨w.heap.size, i, none⟩) (Nat.le_refl _) _⟩
      case measure => simp [intOf]; omega
    · obtain rfl : i = m.pn := by omega
      go_wp2_with fail
      go_ret
      exact ⟨⟨rfl, hP.out⟩, hB.out⟩
theorem taDS (v : Value) (w : World) : (Instr.typeAssert (.iface 155 v) 119 160 true).run Tryz.prog w = .ok (.tuple #[.agg #[.int .i64 0], .bool false]) w := by kernel_rfl
theorem taCS (v : Value) (w : World) : (Instr.typeAssert (.iface 157 v) 119 160 true).run Tryz.prog w = .ok (.tuple #[.agg #[.int .i64 0], .bool false]) w := by kernel_rfl
theorem taPS (v : Value) (w : World) : (Instr.typeAssert (.iface 159 v) 119 160 true).run Tryz.prog w = .ok (.tuple #[.agg #[.int .i64 0], .bool false]) w := by kernel_rfl
theorem taSS (v : Value) (w : World) : (Instr.typeAssert (.iface 160 v) 119 160 true).run Tryz.prog w = .ok (.tuple #[v, .bool true]) w := by kernel_rfl
theorem taLS (v : Value) (w : World) : (Instr.typeAssert (.iface 162 v) 119 160 true).run Tryz.prog w = .ok (.tuple #[.agg #[.int .i64 0], .bool false]) w := by kernel_rfl
theorem taDC (v : Value) (w : World) : (Instr.typeAssert (.iface 155 v) 119 157 true).run Tryz.prog w = .ok (.tuple #[.agg #[.int .i64 0], .bool false]) w := by kernel_rfl
theorem taCC (v : Value) (w : World) : (Instr.typeAssert (.iface 157 v) 119 157 true).run Tryz.prog w = .ok (.tuple #[v, .bool true]) w := by kernel_rfl
theorem taPC (v : Value) (w : World) : (Instr.typeAssert (.iface 159 v) 119 157 true).run Tryz.prog w = .ok (.tuple #[.agg #[.int .i64 0], .bool false]) w := by kernel_rfl
theorem taSC (v : Value) (w : World) : (Instr.typeAssert (.iface 160 v) 119 157 true).run Tryz.prog w = .ok (.tuple #[.agg #[.int .i64 0], .bool false]) w := by kernel_rfl
theorem taLC (v : Value) (w : World) : (Instr.typeAssert (.iface 162 v) 119 157 true).run Tryz.prog w = .ok (.tuple #[.agg #[.int .i64 0], .bool false]) w := by kernel_rfl
theorem taDP (v : Value) (w : World) : (Instr.typeAssert (.iface 155 v) 119 159 true).run Tryz.prog w = .ok (.tuple #[.agg #[.int .i64 0, .int .i64 0], .bool false]) w := by kernel_rfl
theorem taCP (v : Value) (w : World) : (Instr.typeAssert (.iface 157 v) 119 159 true).run Tryz.prog w = .ok (.tuple #[.agg #[.int .i64 0, .int .i64 0], .bool false]) w := by kernel_rfl
theorem taPP (v : Value) (w : World) : (Instr.typeAssert (.iface 159 v) 119 159 true).run Tryz.prog w = .ok (.tuple #[v, .bool true]) w := by kernel_rfl
theorem taSP (v : Value) (w : World) : (Instr.typeAssert (.iface 160 v) 119 159 true).run Tryz.prog w = .ok (.tuple #[.agg #[.int .i64 0, .int .i64 0], .bool false]) w := by kernel_rfl
theorem taLP (v : Value) (w : World) : (Instr.typeAssert (.iface 162 v) 119 159 true).run Tryz.prog w = .ok (.tuple #[.agg #[.int .i64 0, .int .i64 0], .bool false]) w := by kernel_rfl
def leadsB (m : Mn.Mains) (i : Nat) (fwd : Bool) : Bool := !(m.P (i * 5) == 5) && (fwd || !(Mn.oneWay m i))
set_option maxRecDepth 100000 in
set_option maxHeartbeats 2000000 in
theorem leads_go (K d mk : Int) (h1 : 1 ≤ K) (h2 : K ≤ 6) (fwd : Bool) (w : World) :
    Calls Tryz.prog 106 #[kvN K d mk, .int .i64 (if fwd then 1 else -1)] w fun e w' => e = .returned (.bool (!(K == 5) && (fwd || !(K == 2 || K == 3)))) ∧ w' = w := by
  have k16 : K = 1 ∨ K = 2 ∨ K = 3 ∨ K = 4 ∨ K = 5 ∨ K = 6 := by omega
  clear h1 h2
  have h_taDS := taDS
  have h_taCS := taCS
  have h_taPS := taPS
  have h_taSS := taSS
  have h_taLS := taLS
  have h_taDC := taDC
  have h_taCC := taCC
  have h_taPC := taPC
  have h_taSC := taSC
  have h_taLC := taLC
  have h_taDP := taDP
  have h_taCP := taCP
  have h_taPP := taPP
  have h_taSP := taSP
  have h_taLP := taLP
  rcases k16 with rfl | rfl | rfl | rfl | rfl | rfl
  all_goals cases fwd
  all_goals
    simp only [kvN]
    go_enter Tryz.func106, Tryz.ntmps106
    go_wp2_with fail
    go_ret
    exact ⟨rfl, rfl⟩
theorem leads_any (m : Mn.Mains) (i : Nat) (h : Mn.PipeOk m i) (fwd : Bool) (w : World) :
    Calls Tryz.prog 106 #[kv m i, .int .i64 (if fwd then 1 else -1)] w fun e w' => e = .returned (.bool (leadsB m i fwd)) ∧ w' = w :=
  leads_go _ _ _ h.k1 h.k2 fwd w
theorem holds_any (lo hi x : Int) (b : Bool) (hb : b = true ↔ (lo ≤ x ∧ x ≤ hi)) (w : World) :
    Calls Tryz.prog 95 #[.agg #[.int .i64 lo, .int .i64 hi], .int .i64 x] w fun e w' => e = .returned (.bool b) ∧ Below w.heap.size w w' := by
  have HB := Lib.hid (nbel_alloc w (.cells #[.int .i64 lo, .int .i64 hi] 135))
  by_cases h1 : lo ≤ x
  · by_cases h2 : x ≤ hi
    · obtain rfl : b = true := hb.2 ⟨h1, h2⟩
      clear hb
      go_enter Tryz.func95, Tryz.ntmps95
      go_wp2_with fail
      go_ret
      exact ⟨rfl, HB.out⟩
    · obtain rfl : b = false := by
        cases b with
        | false => rfl
        | true => exact absurd (hb.1 rfl).2 h2
      clear hb
      go_enter Tryz.func95, Tryz.ntmps95
      go_wp2_with fail
      go_ret
      exact ⟨rfl, HB.out⟩
  · obtain rfl : b = false := by
      cases b with
      | false => rfl
      | true => exact absurd (hb.1 rfl).1 h1
    clear hb
    go_enter Tryz.func95, Tryz.ntmps95
    go_wp2_with fail
    go_ret
    exact ⟨rfl, HB.out⟩
abbrev spanV (a b : Int) : Value := .agg #[.int .i64 a, .int .i64 b]
theorem mayD (d : Int) (w : World) : Calls Tryz.prog 140 #[.agg #[.int .i64 d]] w fun e w' => e = .returned (spanV (-100000) 100000) ∧ Below w.heap.size w w' := by
  have HB := Lib.hid (mbel2 w)
  go_enter Tryz.func140, Tryz.ntmps140
  go_wp2_with fail
  exact bodyPost_ret (v := spanV (-100000) 100000) (by simp [results, Tryz.results140, go_sem]) rfl ⟨rfl, HB.out _ _⟩
theorem mayC (d : Int) (w : World) : Calls Tryz.prog 142 #[.agg #[.int .i64 d]] w fun e w' => e = .returned (spanV 0 100000) ∧ Below w.heap.size w w' := by
  have HB := Lib.hid (mbel2 w)
  go_enter Tryz.func142, Tryz.ntmps142
  go_wp2_with fail
  exact bodyPost_ret (v := spanV 0 100000) (by simp [results, Tryz.results142, go_sem]) rfl ⟨rfl, HB.out _ _⟩
theorem mayS (d : Int) (w : World) : Calls Tryz.prog 144 #[.agg #[.int .i64 d]] w fun e w' => e = .returned (spanV 0 0) ∧ Below w.heap.size w w' := by
  have HB := Lib.hid (mbel2 w)
  go_enter Tryz.func144, Tryz.ntmps144
  go_wp2_with fail
  exact bodyPost_ret (v := spanV 0 0) (by simp [results, Tryz.results144, go_sem]) rfl ⟨rfl, HB.out _ _⟩
theorem mayL (d k : Int) (k0 : 0 ≤ k) (k1 : k ≤ 100000) (w : World) : Calls Tryz.prog 145 #[.agg #[.int .i64 d, .int .i64 k]] w fun e w' => e = .returned (spanV (-k) k) ∧ Below w.heap.size w w' := by
  have HB := Lib.hid (mbel2 w)
  go_enter Tryz.func145, Tryz.ntmps145
  go_wp2_with fail
  exact bodyPost_ret (v := spanV (-k) k) (by simp [results, Tryz.results145, go_sem]) rfl ⟨rfl, HB.out _ _⟩
abbrev mayN : String := "loop.example/g00068/impl.mayBe"
theorem mm2 (k : Nat) (d l : Value) (w : World) : (Go.method (k + 4) 159 (.agg #[d, l]) mayN).run Tryz.prog w = .ok (142, .agg #[d]) w := by kernel_rfl
theorem mm3 (k : Nat) (d : Value) (w : World) : (Go.method (k + 4) 157 (.agg #[d]) mayN).run Tryz.prog w = .ok (142, .agg #[d]) w := by kernel_rfl
theorem mm4 (k : Nat) (d : Value) (w : World) : (Go.method (k + 4) 155 (.agg #[d]) mayN).run Tryz.prog w = .ok (140, .agg #[d]) w := by kernel_rfl
theorem mm5 (k : Nat) (d : Value) (w : World) : (Go.method (k + 4) 160 (.agg #[d]) mayN).run Tryz.prog w = .ok (144, .agg #[d]) w := by kernel_rfl
theorem mm6 (k : Nat) (d l : Value) (w : World) : (Go.method (k + 4) 162 (.agg #[d, l]) mayN).run Tryz.prog w = .ok (145, .agg #[d, l]) w := by kernel_rfl
/-- What an invocation of mayBe comes to. -/
theorem mayBe_of (m : Mn.Mains) (i : Nat) (h : Mn.PipeOk m i) : ∃ (T : TypeId) (v : Value) (f : FuncId) (r : Value), kv m i = .iface T v ∧ (∀ k w, (Go.method (k + 4) T v mayN).run Tryz.prog w = .ok (f, r) w) ∧ (∀ args w, (callFunc f args).run Tryz.prog w = .ok (.enter f args) w) ∧ ∀ w, Calls Tryz.prog f #[r] w fun e w' => e = .returned (spanV (Mn.lo m i) (Mn.hi m i)) ∧ Below w.heap.size w w' := by
  have eD := enters_of Tryz.func140 (by kernel_rfl) rfl
  have eC := enters_of Tryz.func142 (by kernel_rfl) rfl
  have eS := enters_of Tryz.func144 (by kernel_rfl) rfl
  have eL := enters_of Tryz.func145 (by kernel_rfl) rfl
  have k16 : m.P (i * 5) = 1 ∨ m.P (i * 5) = 2 ∨ m.P (i * 5) = 3 ∨ m.P (i * 5) = 4 ∨ m.P (i * 5) = 5 ∨ m.P (i * 5) = 6 := by have := h.k1; have := h.k2; omega
  unfold kv Mn.lo Mn.hi
  rcases k16 with e | e | e | e | e | e <;> rw [e] <;> simp only [kvN]
  · exact ⟨_, _, _, _, rfl, fun k w => mm4 k _ w, eD, fun w => mayD _ w⟩
  · exact ⟨_, _, _, _, rfl, fun k w => mm2 k _ _ w, eC, fun w => mayC _ w⟩
  · exact ⟨_, _, _, _, rfl, fun k w => mm3 k _ w, eC, fun w => mayC _ w⟩
  · exact ⟨_, _, _, _, rfl, fun k w => mm4 k _ w, eD, fun w => mayD _ w⟩
  · exact ⟨_, _, _, _, rfl, fun k w => mm5 k _ w, eS, fun w => mayS _ w⟩
  · exact ⟨_, _, _, _, rfl, fun k w => mm6 k _ _ w, eL, fun w => mayL _ _ h.m0 h.m1 w⟩
end Go.Proofs.YtfgmalnkpgloiaaGreatDoor
