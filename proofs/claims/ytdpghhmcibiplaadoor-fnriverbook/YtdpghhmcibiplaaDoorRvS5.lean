/-
  The model's RiverRun where it refuses ahead of all steps.
-/
import Derived.Test.YtdpghhmcibiplaaDoorRvS4
import Derived.Test.YtdpghhmcibiplaaDoorRvR2
namespace Go.Proofs.YtdpghhmcibiplaaDoor
open Go.RowKit Go.Deep

set_option maxRecDepth 100000 in
set_option maxHeartbeats 2000000 in
theorem specRun_over (a b : Option Addr) (n cn M cr : Nat) (w : World) (ho : 400 < n ∨ 60 < M) :
    Calls Tryd.prog 35 #[.slice a n cn, .slice b M cr] w fun e w' => e = .returned (.agg #[.slice none 0 0, .slice none 0 0, .slice none 0 0, .int .i64 0, .int .i64 2]) ∧ Below w.heap.size w w' := by
  have key : ∀ (K : Prop), ((400 : Int) < (n : Int) → K) → (¬ (400 : Int) < (n : Int) → (60 : Int) < (M : Int) → K) → K := fun K k1 k2 => by
    by_cases hn : (400 : Int) < (n : Int)
    · exact k1 hn
    · exact k2 hn (by omega)
  clear ho
  refine key _ (fun hz => ?_) (fun hz hz2 => ?_)
  all_goals
    go_enter Tryd.func35, Tryd.ntmps35
    go_wp2_with fail
    exact bodyPost_ret (v := .agg #[.slice none 0 0, .slice none 0 0, .slice none 0 0, .int .i64 0, .int .i64 2]) (by
      simp [results, Tryd.results35, go_sem]) rfl ⟨rfl, (Below.refl _ _).alloc (Nat.le_refl _) _⟩

set_option maxRecDepth 100000 in
set_option maxHeartbeats 2000000 in
theorem specRun_no (a b : Option Addr) (n cn M cr : Nat) (rs : Nat → Rv.Rc) (w : World) (h : RcsAt a n rs w) (ho : ¬ (400 < n ∨ 60 < M)) (hr : ¬ Rv.Right n rs) :
    Calls Tryd.prog 35 #[.slice a n cn, .slice b M cr] w fun e w' => e = .returned (.agg #[.slice none 0 0, .slice none 0 0, .slice none 0 0, .int .i64 0, .int .i64 1]) ∧ Below w.heap.size w w' := by
  have hz : ¬ (400 : Int) < (n : Int) := by omega
  have hz2 : ¬ (60 : Int) < (M : Int) := by omega
  have H := Lib.hid h
  have HR := Lib.hid hr
  clear h ho hr
  go_enter Tryd.func35, Tryd.ntmps35
  go_wp2_with fail
  refine (specRight_any a n cn rs _ (H.out.below ((Below.refl _ _).alloc (Nat.le_refl _) _))).mono ?_
  rintro e w1 ⟨⟨b1, rfl, hb1⟩, hb⟩
  obtain rfl : b1 = false := by
    cases b1 with
    | false => rfl
    | true => exact absurd (hb1.1 rfl) HR.out
  have hs : RoSlot w w1 := (RoSlot.start w).next hb
  obtain ⟨⟨q0, q1, q2, q3, q4⟩, ⟨f0, f1, f2, f3, f4⟩⟩ := hs.kept
  have hz1 := hs.lt
  have hF := Lib.hid (hs.fin (.slice none 0 0) (.slice none 0 0) (.slice none 0 0) (.int .i64 0) (.int .i64 1))
  clear hs hb hb1
  go_wp2_with fail
  exact bodyPost_ret (v := .agg #[.slice none 0 0, .slice none 0 0, .slice none 0 0, .int .i64 0, .int .i64 1]) (by
    obtain ⟨⟨x0, x1, x2, x3, x4⟩, _⟩ := hF.out
    simp only [results, Tryd.results35]
    simp [go_sem, x0, x1, x2, x3, x4]) rfl ⟨rfl, hF.out.2⟩
end Go.Proofs.YtdpghhmcibiplaaDoor
