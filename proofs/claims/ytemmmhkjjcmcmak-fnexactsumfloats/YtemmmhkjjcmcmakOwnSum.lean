/-
  Proved here: at every list of float64 that can be handed in, the law FnExactSumFloats returns true, that is, the program's SumFloats answers as the model's, bit by bit, and leaves its argument as it was; no condition beyond the given row's own.
-/
import Derived.Test.YtemmmhkjjcmcmakRows
import Derived.Test.YtemmmhkjjcmcmakSum
import Derived.ProofKit
import Derived.OpenShut
import Derived.ChangeOld
import Derived.Deep.Slices
namespace Go.Proofs.Ytemmmhkjjcmcmak
namespace ExactSumFloats
open Go.ChangeShapes Go.WideShapes Go.ChangeAt Go.RowKit Go.Deep

theorem own : ownKnob Try.prog.godebug = none := by kernel_rfl
theorem laidOut : laidOutB Try.prog = true := by kernel_rfl
theorem cellsE : Try.prog.cellsOf 22 = 1 := by kernel_rfl

/-- What the walk is told of a list of float64 that came in. -/
def IsF (w : World) (a : Option Addr) (b off n : Nat) (zs : List Nat) : Prop :=
  (0 < n → a = some ⟨b, off, none⟩) ∧ zs.length = n ∧ ∀ i, i < n → w.cell? ⟨b, off + i, none⟩ = some (.float .f64 (Fl.el zs i))

set_option maxHeartbeats 400000 in
theorem law_long (a : Option Addr) (n cap : Nat) (w : World) (hn : 1048576 < n) :
    Calls Try.prog 4 #[.slice a n cap] w fun e w' => e = .returned (.bool true) ∧ Below w.heap.size w w' := by
  have hnz : (1048576 : Int) < (n : Int) := by omega
  go_enter Try.func4, Try.ntmps4
  go_wp2_with fail
  go_ret
  exact ⟨rfl, Below.refl _ _⟩

set_option maxHeartbeats 1000000 in
theorem law (a : Option Addr) (b off n cap : Nat) (zs : List Nat) (w : World) (h : IsF w a b off n zs) (hn : n ≤ 1048576) :
    Calls Try.prog 4 #[.slice a n cap] w fun e w' => e = .returned (.bool true) ∧ Below w.heap.size w w' := by
  obtain ⟨ha, hl, hc⟩ := h
  have hnz : ¬ (1048576 : Int) < (n : Int) := by omega
  have Ha : Hid (0 < n → a = some ⟨b, off, none⟩) := ha
  have Hl : Hid (zs.length = n) := hl
  have Hc : Hid (∀ i, i < n → w.cell? ⟨b, off + i, none⟩ = some (.float .f64 (Fl.el zs i))) := hc
  clear ha hl hc
  go_enter Try.func4, Try.ntmps4
  go_wp2_with fail
  refine (toF_any a b off n cap zs _ Ha.out Hc.out hn).mono ?_
  rintro e w1 ⟨rfl, hr1, hb1⟩
  have HR1 : Hid (w1.rowIs w.heap.size 22 n (fun i => .float .f64 (Fl.el zs i))) := hr1
  have HB1 : Hid (Below w.heap.size w w1) := hb1
  clear hr1 hb1
  go_wp2_with fail
  by_cases h4 : n ≤ 400
  · refine (specSum_any w.heap.size n n zs _ Hl.out (fun i hi => HR1.out.cell hi) h4).mono ?_
    rintro e w2 ⟨rfl, hwx⟩
    rw [hwx]
    clear hwx w2
    go_wp2_with fail
    have Hc1 : Hid (∀ i, i < n → w1.cell? ⟨b, off + i, none⟩ = some (.float .f64 (Fl.el zs i))) := fun i hi => (HB1.out.cell (p := ⟨b, off + i, none⟩) (World.block_lt_of_cell? _ _ (Hc.out i hi))).trans (Hc.out i hi)
    refine (toF_any a b off n cap zs _ Ha.out Hc1.out hn).mono ?_
    rintro e w3 ⟨rfl, hr3, hb3⟩
    have HR3 : Hid (w3.rowIs w1.heap.size 22 n (fun i => .float .f64 (Fl.el zs i))) := hr3
    have HB3 : Hid (Below w.heap.size w w3) := HB1.out.trans (hb3.mono HB1.out.size)
    clear hr3 hb3
    go_wp2_with fail
    refine (implSum_any w1.heap.size n n zs _ Hl.out (fun i hi => HR3.out.cell hi) h4).mono ?_
    rintro e w4 ⟨rfl, hwx⟩
    rw [hwx]
    clear hwx w4
    go_wp2_with fail
    refine (same_any _ _).mono ?_
    rintro e w5 ⟨rfl, hwx⟩
    rw [hwx]
    clear hwx w5
    go_wp2_with fail
    have Hc3 : Hid (∀ i, i < n → w3.cell? ⟨b, off + i, none⟩ = some (.float .f64 (Fl.el zs i))) := fun i hi => (HB3.out.cell (p := ⟨b, off + i, none⟩) (World.block_lt_of_cell? _ _ (Hc.out i hi))).trans (Hc.out i hi)
    refine (toF_any a b off n cap zs _ Ha.out Hc3.out hn).mono ?_
    rintro e w6 ⟨rfl, hr6, hb6⟩
    have HR6 : Hid (w6.rowIs w3.heap.size 22 n (fun i => .float .f64 (Fl.el zs i))) := hr6
    have HB6 : Hid (Below w3.heap.size w3 w6) := hb6
    clear hr6 hb6
    go_wp2_with fail
    refine (eqF_any w1.heap.size w3.heap.size n n n zs _ (fun i hi => (HB6.out.cell (p := ⟨w1.heap.size, i, none⟩) HR3.out.lt).trans (HR3.out.cell hi)) (fun i hi => HR6.out.cell hi) hn).mono ?_
    rintro e w7 ⟨rfl, m, hw7⟩
    have HB7 : Hid (Below w.heap.size w w7) := by
      show Below _ _ _
      rw [hw7]; exact below_drewN (HB3.out.trans (HB6.out.mono HB3.out.size)) m
    clear hw7
    go_wp2_with fail
    go_ret
    exact ⟨rfl, HB7.out⟩
  · refine (specSum_long _ n n _ (by omega)).mono ?_
    rintro e w2 ⟨rfl, hwx⟩
    rw [hwx]
    clear hwx w2
    go_wp2_with fail
    have Hc1 : Hid (∀ i, i < n → w1.cell? ⟨b, off + i, none⟩ = some (.float .f64 (Fl.el zs i))) := fun i hi => (HB1.out.cell (p := ⟨b, off + i, none⟩) (World.block_lt_of_cell? _ _ (Hc.out i hi))).trans (Hc.out i hi)
    refine (toF_any a b off n cap zs _ Ha.out Hc1.out hn).mono ?_
    rintro e w3 ⟨rfl, hr3, hb3⟩
    have HR3 : Hid (w3.rowIs w1.heap.size 22 n (fun i => .float .f64 (Fl.el zs i))) := hr3
    have HB3 : Hid (Below w.heap.size w w3) := HB1.out.trans (hb3.mono HB1.out.size)
    clear hr3 hb3
    go_wp2_with fail
    refine (implSum_long _ n n _ (by omega)).mono ?_
    rintro e w4 ⟨rfl, hwx⟩
    rw [hwx]
    clear hwx w4
    go_wp2_with fail
    refine (same_any _ _).mono ?_
    rintro e w5 ⟨rfl, hwx⟩
    rw [hwx]
    clear hwx w5
    go_wp2_with fail
    have Hc3 : Hid (∀ i, i < n → w3.cell? ⟨b, off + i, none⟩ = some (.float .f64 (Fl.el zs i))) := fun i hi => (HB3.out.cell (p := ⟨b, off + i, none⟩) (World.block_lt_of_cell? _ _ (Hc.out i hi))).trans (Hc.out i hi)
    refine (toF_any a b off n cap zs _ Ha.out Hc3.out hn).mono ?_
    rintro e w6 ⟨rfl, hr6, hb6⟩
    have HR6 : Hid (w6.rowIs w3.heap.size 22 n (fun i => .float .f64 (Fl.el zs i))) := hr6
    have HB6 : Hid (Below w3.heap.size w3 w6) := hb6
    clear hr6 hb6
    go_wp2_with fail
    refine (eqF_any w1.heap.size w3.heap.size n n n zs _ (fun i hi => (HB6.out.cell (p := ⟨w1.heap.size, i, none⟩) HR3.out.lt).trans (HR3.out.cell hi)) (fun i hi => HR6.out.cell hi) hn).mono ?_
    rintro e w7 ⟨rfl, m, hw7⟩
    have HB7 : Hid (Below w.heap.size w w7) := by
      show Below _ _ _
      rw [hw7]; exact below_drewN (HB3.out.trans (HB6.out.mono HB3.out.size)) m
    clear hw7
    go_wp2_with fail
    go_ret
    exact ⟨rfl, HB7.out⟩

theorem law_any (a : Option Addr) (b off n cap : Nat) (zs : List Nat) (w : World) (h : IsF w a b off n zs) :
    Calls Try.prog 4 #[.slice a n cap] w fun e w' => e = .returned (.bool true) ∧ Below w.heap.size w w' := by
  by_cases hn : n ≤ 1048576
  · exact law a b off n cap zs w h hn
  · exact law_long a n cap w (by omega)

theorem trod_float_cell {P : Program} {w : World} {H : Type} {enc : TypeId × Value → H} {base fuel : Nat} {spare : Nat → Bool} {held : Bool} {t : TypeId} {v : Value} {x : DataW H × List MemPlace} (ht : P.underlying t = some (.float .f64)) (h : DataW.trod enc P w base spare held fuel t [v] = some x) : ∃ z, v = .float .f64 z := by
  cases fuel with
  | zero => simp [DataW.trod] at h
  | succ m =>
    cases v with
    | float k z =>
      simp only [DataW.trod, ht] at h
      split at h
      · rename_i hh; exact ⟨z, by rw [hh.1]⟩
      · cases h
    | _ => simp [DataW.trod, ht] at h

theorem isF_of (V : Nat → Value) (W : World) (x : Addr) (len m : Nat) (hm : len ≤ m) (hV : ∀ i, i < m → W.cell? (x.add i) = some (V i) ∧ ∃ z, V i = .float .f64 z) : ∃ b off zs, IsF W (some x) b off len zs := by
  obtain ⟨z, hz⟩ : ∃ z : Nat → Nat, ∀ i, i < m → V i = .float .f64 (z i) :=
    ⟨fun i => match V i with | .float _ q => q | _ => 0, fun i hi => by obtain ⟨q, hq⟩ := (hV i hi).2; simp only [hq]⟩
  obtain ⟨b, off, spot⟩ := x
  by_cases h0 : len = 0
  · exact ⟨b, off, [], fun h => by omega, by simp [h0], fun i hi => by omega⟩
  · have hs : spot = none := by
      have := World.cell?_spot (hV 0 (by omega)).1
      simpa [Addr.add] using this
    subst hs
    refine ⟨b, off, (List.range len).map z, fun _ => rfl, by simp, fun i hi => ?_⟩
    have h1 := (hV i (by omega)).1
    rw [hz i (by omega)] at h1
    have h2 : Fl.el ((List.range len).map z) i = z i := by simp [Fl.el, List.getD, hi]
    rw [h2]
    by_cases e : i = 0
    · subst e; simpa [Addr.add] using h1
    · simpa [Addr.add, e] using h1

set_option maxRecDepth 100000 in
theorem lifted (os : Os) (started : os.Started) (H : Type) (enc : TypeId × Value → H) :
    ReturnsInHanded {} Try.checked os 4 .any (Rows.fnExactSumFloatsSpec.pre6 enc Try.prog Try.f4 Rows.fnExactSumFloatsRow.domain false) (Rows.fnExactSumFloatsSpec.post enc Try.prog Try.f4 false true false false) := by
  refine returnsInHanded_of_change (C := Try.checked) own started (by kernel_rfl) Try.func4
    (ChangeSpec.witness6 (enc := enc) (C := Try.checked) false ⟨#[], #[.slice none 0 0], []⟩ 8 (by kernel_rfl) (by kernel_rfl) (by kernel_rfl) (by kernel_rfl)) ?_
  intro W base args ds gs before hval0 hW hcnd _
  have hval : ∀ (j : Nat) t v, Try.f4.params[j]? = some t → args[j]? = some v → Value.okWide Try.prog W .any base t v := hval0
  have hW' := hW
  obtain ⟨p, q, hA0, hV, rfl, hfz, hnd⟩ := hW
  have hA : DataW.TrodAll enc Try.prog W 0 (fun _ => true) true Try.f4.params.toList args.toList ds p := hA0
  rw [Try.params4] at hA hval
  obtain ⟨v0, vs0, d0, ds0, p0, q0, hargs, rfl, rfl, h0, r0⟩ := trodAll_cons hA
  obtain ⟨rfl, rfl, rfl⟩ := trodAll_nil r0
  obtain rfl : args = #[v0] := by cases args; simp_all
  obtain ⟨rfl, rfl⟩ := trodVars_none hV
  obtain ⟨a0, len0, cap0, rfl⟩ := okWide_slice Try.underlying26 (hval 0 26 v0 rfl rfl)
  have k0 := h0
  have lt0 : ∀ x ∈ p0, x.block < W.heap.size := by obtain ⟨m, hm⟩ := k0; exact DataW.trod_lt m _ _ _ hm
  obtain ⟨b0, off0, z0, w0⟩ : ∃ b off zs, IsF W a0 b off len0 zs := by
    obtain ⟨fuel, hf⟩ := h0
    rcases open_slice1 Try.underlying26 cellsE hf with ⟨hcs, _⟩ | ⟨x, l, c, m, n, V, D, Pl, hcs, _, hl, hm, hmm, _, hcell⟩
    · simp [Value.cells] at hcs
      obtain ⟨rfl, rfl, rfl⟩ := hcs
      exact ⟨0, 0, [], fun h => by omega, rfl, fun i hi => by omega⟩
    · simp [Value.cells] at hcs
      obtain ⟨rfl, rfl, rfl⟩ := hcs
      refine isF_of V W x _ m (by rw [hmm]; split <;> omega) (fun i hi => ⟨(hcell i hi).1, ?_⟩)
      exact trod_float_cell Try.underlying22 (hcell i hi).2
  clear hA0 hval0
  refine (law_any a0 b0 off0 len0 cap0 z0 W w0).mono fun e W' ⟨he, bel⟩ => ?_
  subst he
  exact ⟨_, rfl, _, _, _, [], _, [], hW', trodAll_mk1 (shut_bool Try.underlying4 _), (trodAll_cons_mk (Below.trod laidOut (by kernel_rfl) (of_decide_eq_true (by kernel_rfl)) k0 bel lt0) trodAll_mk0), rfl, bel.frame _, fun h => by cases h⟩

theorem proved : Rows.FnExactSumFloatsSaid :=
  OpenClaim.holds_of_wide 4 Try.f4 rfl rfl rfl rfl rfl rfl rfl ⟨rfl, rfl, rfl, rfl, rfl⟩ rfl rfl rfl rfl rfl (by kernel_rfl) Try.func4 (by kernel_rfl)
    (of_decide_eq_true (by kernel_rfl)) (by unfold Func.isWrapper; first | (rw [if_pos (by decide +kernel)]; kernel_rfl) | (rw [if_neg (by decide +kernel)]; exact ⟨rfl, rfl⟩))
    (fun os started H enc _ => lifted os started H enc)
end ExactSumFloats

theorem exactSumFloats_holds : Rows.FnExactSumFloatsSaid := ExactSumFloats.proved
#print axioms exactSumFloats_holds
end Go.Proofs.Ytemmmhkjjcmcmak
