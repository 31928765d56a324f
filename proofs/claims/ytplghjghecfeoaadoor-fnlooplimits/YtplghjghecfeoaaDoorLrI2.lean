/-
  The program's cycle of a loop.
-/
import Derived.Test.YtplghjghecfeoaaDoorLrI1
import Derived.BigRegion
namespace Go.Proofs.YtplghjghecfeoaaDoor
open Go.RowKit Go.Deep

attribute [local go_sem] lrun_store_float lrun_store_complex
set_option maxRecDepth 100000 in
set_option maxHeartbeats 2000000 in
theorem next_any (l : Fl.Lo) (want : Nat) (x : Fl.Ls) (w : World) (hl : Fl.LoOk l) (hw : Fl.measB want = true) (hv : Fl.measB x.v = true) (hs : Fl.measB x.s = true) :
    Calls Tryd.prog 33 #[lsV x, loV l, .float .f64 want] w fun e w' => e = .returned (lsV (Fl.nx l want x)) ∧ Below w.heap.size w w' := by
  have hN := Fl.nxF hl hw hv hs
  have q1 := fun (wx : World) => run_float_arith (P := Tryd.prog) (w := wx) .sub 23 .f64 want x.v _ hN.e
  have q2 := fun (wx : World) => run_float_arith (P := Tryd.prog) (w := wx) .mul 23 .f64 l.sum (Fl.errW want x) _ hN.t
  have q3 := fun (wx : World) => run_float_arith (P := Tryd.prog) (w := wx) .add 23 .f64 x.s (Fl.mulW l.sum (Fl.errW want x)) _ hN.s
  have q4 := fun (wx : World) => run_float_arith (P := Tryd.prog) (w := wx) .mul 23 .f64 l.up (Fl.errW want x) _ hN.u
  have q5 := fun (wx : World) => run_float_arith (P := Tryd.prog) (w := wx) .add 23 .f64 (Fl.mulW l.up (Fl.errW want x)) (Fl.sumW l want x) _ hN.d
  unfold Fl.nx
  obtain ⟨D0, hd0⟩ : ∃ D0, D0 = Fl.drvW l want x := ⟨_, rfl⟩
  by_cases h1 : FloatKind.f64.format.order (Fl.drvW l want x) l.low = some .lt
  · rw [if_pos h1]
    have h1' : (FloatKind.f64.format.order (Fl.drvW l want x) l.low == some .lt) = true := by rw [h1]; rfl
    clear h1
    have hV := Fl.vaF (p := l.low) (x := x) hl ((Fl.meas_bd hl.low).mono (by omega)) hv
    have q6 := fun (wx : World) => run_float_arith (P := Tryd.prog) (w := wx) .mul 23 .f64 l.gain l.low _ hV.g
    have q7 := fun (wx : World) => run_float_arith (P := Tryd.prog) (w := wx) .sub 23 .f64 (Fl.mulW l.gain l.low) x.v _ hV.gv
    have q8 := fun (wx : World) => run_float_arith (P := Tryd.prog) (w := wx) .mul 23 .f64 l.lag (Fl.subW (Fl.mulW l.gain l.low) x.v) _ hV.m
    have q9 := fun (wx : World) => run_float_arith (P := Tryd.prog) (w := wx) .add 23 .f64 x.v (Fl.mulW l.lag (Fl.subW (Fl.mulW l.gain l.low) x.v)) _ hV.v
    clear hV
    clear hN hl hw hv hs
    generalize Fl.valW l l.low x = V at *
    generalize Fl.drvW l want x = D at *
    generalize Fl.sumW l want x = S at *
    generalize Fl.errW want x = E at *
    clear hd0
    go_enter Tryd.func33, Tryd.ntmps33
    go_wp2
    go_region
    go_wp2
    exact bodyPost_ret (v := lsV ⟨V, x.s, l.low⟩) (by simp [results, Tryd.results33, go_sem]) rfl ⟨rfl, (((bel_alloc _ _).alloc (by simp) _).alloc (by simp; omega) _).drew⟩
  · rw [if_neg h1]
    have h1' : (FloatKind.f64.format.order (Fl.drvW l want x) l.low == some .lt) = false := by simpa using h1
    clear h1
    by_cases h2 : FloatKind.f64.format.order (Fl.drvW l want x) l.high = some .gt
    · rw [if_pos h2]
      have h2' : (FloatKind.f64.format.order (Fl.drvW l want x) l.high == some .gt) = true := by rw [h2]; rfl
      clear h2
      have hV := Fl.vaF (p := l.high) (x := x) hl ((Fl.meas_bd hl.high).mono (by omega)) hv
      have q6 := fun (wx : World) => run_float_arith (P := Tryd.prog) (w := wx) .mul 23 .f64 l.gain l.high _ hV.g
      have q7 := fun (wx : World) => run_float_arith (P := Tryd.prog) (w := wx) .sub 23 .f64 (Fl.mulW l.gain l.high) x.v _ hV.gv
      have q8 := fun (wx : World) => run_float_arith (P := Tryd.prog) (w := wx) .mul 23 .f64 l.lag (Fl.subW (Fl.mulW l.gain l.high) x.v) _ hV.m
      have q9 := fun (wx : World) => run_float_arith (P := Tryd.prog) (w := wx) .add 23 .f64 x.v (Fl.mulW l.lag (Fl.subW (Fl.mulW l.gain l.high) x.v)) _ hV.v
      clear hV
      clear hN hl hw hv hs
      generalize Fl.valW l l.high x = V at *
      generalize Fl.drvW l want x = D at *
      generalize Fl.sumW l want x = S at *
      generalize Fl.errW want x = E at *
      clear hd0
      go_enter Tryd.func33, Tryd.ntmps33
      go_wp2
      go_region
      go_wp2
      exact bodyPost_ret (v := lsV ⟨V, x.s, l.high⟩) (by simp [results, Tryd.results33, go_sem]) rfl ⟨rfl, (((bel_alloc _ _).alloc (by simp) _).alloc (by simp; omega) _).drew⟩
    · rw [if_neg h2]
      have h2' : (FloatKind.f64.format.order (Fl.drvW l want x) l.high == some .gt) = false := by simpa using h2
      clear h2
      have hV := Fl.vaF (p := (Fl.drvW l want x)) (x := x) hl hN.bd hv
      have q6 := fun (wx : World) => run_float_arith (P := Tryd.prog) (w := wx) .mul 23 .f64 l.gain (Fl.drvW l want x) _ hV.g
      have q7 := fun (wx : World) => run_float_arith (P := Tryd.prog) (w := wx) .sub 23 .f64 (Fl.mulW l.gain (Fl.drvW l want x)) x.v _ hV.gv
      have q8 := fun (wx : World) => run_float_arith (P := Tryd.prog) (w := wx) .mul 23 .f64 l.lag (Fl.subW (Fl.mulW l.gain (Fl.drvW l want x)) x.v) _ hV.m
      have q9 := fun (wx : World) => run_float_arith (P := Tryd.prog) (w := wx) .add 23 .f64 x.v (Fl.mulW l.lag (Fl.subW (Fl.mulW l.gain (Fl.drvW l want x)) x.v)) _ hV.v
      clear hV
      clear hN hl hw hv hs
      generalize Fl.valW l (Fl.drvW l want x) x = V at *
      generalize Fl.drvW l want x = D at *
      generalize Fl.sumW l want x = S at *
      generalize Fl.errW want x = E at *
      clear hd0
      go_enter Tryd.func33, Tryd.ntmps33
      go_wp2
      exact bodyPost_ret (v := lsV ⟨V, S, D⟩) (by simp [results, Tryd.results33, go_sem]) rfl ⟨rfl, (((bel_alloc _ _).alloc (by simp) _).alloc (by simp; omega) _)⟩
end Go.Proofs.YtplghjghecfeoaaDoor
