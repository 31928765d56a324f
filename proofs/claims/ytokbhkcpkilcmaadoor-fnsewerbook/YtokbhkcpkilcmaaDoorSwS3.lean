/-
  The contract of the model's step.
-/
import Derived.Test.YtokbhkcpkilcmaaDoorSwS2
import Derived.Test.YtokbhkcpkilcmaaDoorSwI7
import Derived.Test.YtokbhkcpkilcmaaDoorReg
namespace Go.Proofs.YtokbhkcpkilcmaaDoor
open Go.RowKit Go.Deep

/-- How the model's SewerStep ends. -/
def SpEnd (w : World) (n : Nat) (rs : Nat → Sw.Rc) (r : Except Int Sw.St) (e : Ending) (w' : World) : Prop :=
  (∃ k, r = .error k ∧ k ≠ 0 ∧ e = .returned (.agg #[.slice none 0 0, .slice none 0 0, .slice none 0 0, .int .i64 0, .int .i64 k])) ∨
  (∃ st gl gf gt c cf ct, r = .ok st ∧ e = .returned (vRo n gl gf gt c cf ct st.sea 0) ∧ OutL w.heap.size n gl gf gt (Sw.after rs st) st.fl st.tk w')

set_option maxRecDepth 100000 in
set_option maxHeartbeats 2000000 in
theorem specStep_over (a b : Option Addr) (n cn m cm : Nat) (w : World) (ho : 400 < n ∨ 400 < m) :
    Calls Tryd.prog 8 #[.slice a n cn, .slice b m cm] w fun e w' => e = .returned (.agg #[.slice none 0 0, .slice none 0 0, .slice none 0 0, .int .i64 0, .int .i64 2]) ∧ Below w.heap.size w w' := by
  have key : ∀ (K : Prop), ((400 : Int) < (n : Int) → K) → (¬ (400 : Int) < (n : Int) → (400 : Int) < (m : Int) → K) → K := fun K k1 k2 => by
    by_cases hn : (400 : Int) < (n : Int)
    · exact k1 hn
    · exact k2 hn (by omega)
  clear ho
  refine key _ (fun hz => ?_) (fun hz hz2 => ?_)
  all_goals
    go_enter Tryd.func8, Tryd.ntmps8
    go_wp2_with fail
    exact bodyPost_ret (v := .agg #[.slice none 0 0, .slice none 0 0, .slice none 0 0, .int .i64 0, .int .i64 2]) (by
      simp [results, Tryd.results8, go_sem]) rfl ⟨rfl, (Below.refl _ _).alloc (Nat.le_refl _) _⟩

set_option maxRecDepth 100000 in
set_option maxHeartbeats 2000000 in
theorem specStep_no (a b : Option Addr) (n cn m cm : Nat) (rs : Nat → Sw.Rc) (f : Nat → Int) (w : World) (h : RcsAt a n rs w) (h2 : IntsAt b m f w) (ho : ¬ (400 < n ∨ 400 < m)) (hr : ¬ (Sw.Right n rs ∧ m = n ∧ Sw.RainOk n f)) :
    Calls Tryd.prog 8 #[.slice a n cn, .slice b m cm] w fun e w' => e = .returned (.agg #[.slice none 0 0, .slice none 0 0, .slice none 0 0, .int .i64 0, .int .i64 1]) ∧ Below w.heap.size w w' := by
  have hz : ¬ (400 : Int) < (n : Int) := by omega
  have hz2 : ¬ (400 : Int) < (m : Int) := by omega
  have hm4 : m ≤ 4194304 := by omega
  have H := Lib.hid h
  have H2 := Lib.hid h2
  have HR := Lib.hid hr
  clear h h2 ho hr
  go_enter Tryd.func8, Tryd.ntmps8
  go_wp2_with fail
  refine (specRight_any a n cn rs _ (H.out.below ((Below.refl _ _).alloc (Nat.le_refl _) _))).mono ?_
  rintro e w1 ⟨⟨b1, rfl, hb1⟩, hb⟩
  have hs : RoSlot w w1 := (RoSlot.start w).next hb
  have HS := Lib.hid hs
  have HB1 := Lib.hid hb1
  obtain ⟨⟨q0, q1, q2, q3, q4⟩, ⟨f0, f1, f2, f3, f4⟩⟩ := hs.kept
  have hz1 := hs.lt
  have hF := Lib.hid (hs.fin (.slice none 0 0) (.slice none 0 0) (.slice none 0 0) (.int .i64 0) (.int .i64 1))
  clear hs hb hb1
  cases b1 with
  | false =>
    go_wp2_with fail
    exact bodyPost_ret (v := .agg #[.slice none 0 0, .slice none 0 0, .slice none 0 0, .int .i64 0, .int .i64 1]) (by
      obtain ⟨⟨x0, x1, x2, x3, x4⟩, _⟩ := hF.out
      simp only [results, Tryd.results8]
      simp [go_sem, x0, x1, x2, x3, x4]) rfl ⟨rfl, hF.out.2⟩
  | true =>
    have HRt : Hid (Sw.Right n rs) := Lib.hid (by have := HB1.out; simpa using this)
    by_cases hmn : (m : Int) = (n : Int)
    · obtain rfl : m = n := by omega
      go_wp2_with fail
      refine (all_ok b m cm f _ (H2.out.below HS.out.old) hm4).mono ?_
      rintro e w2 ⟨⟨b2, rfl, hb2⟩, rfl⟩
      obtain rfl : b2 = false := by
        cases b2 with
        | false => rfl
        | true => exact absurd ⟨HRt.out, by first | rfl | trivial, hb2.1 rfl⟩ HR.out
      clear hb2
      go_wp2_with fail
      exact bodyPost_ret (v := .agg #[.slice none 0 0, .slice none 0 0, .slice none 0 0, .int .i64 0, .int .i64 1]) (by
        obtain ⟨⟨x0, x1, x2, x3, x4⟩, _⟩ := hF.out
        simp only [results, Tryd.results8]
        simp [go_sem, x0, x1, x2, x3, x4]) rfl ⟨rfl, hF.out.2⟩
    · go_wp2_with fail
      exact bodyPost_ret (v := .agg #[.slice none 0 0, .slice none 0 0, .slice none 0 0, .int .i64 0, .int .i64 1]) (by
        obtain ⟨⟨x0, x1, x2, x3, x4⟩, _⟩ := hF.out
        simp only [results, Tryd.results8]
        simp [go_sem, x0, x1, x2, x3, x4]) rfl ⟨rfl, hF.out.2⟩

/-- What stands ahead of the first reach. -/
theorem spl_start {w w3 : World} {n gl c : Nat} {rs : Nat → Sw.Rc} {f : Nat → Int} (hs : RoSlot w w3) (hL : RcBlk gl n rs w3) (hg : w.heap.size < gl) :
    SpL w n rs f gl c w3.heap.size (w3.heap.size + 1) (.slice none 0 0) (.slice none 0 0) 0 0 (Sw.start rs f) ((w3.alloc (.cells #[.slice (some ⟨gl, 0, none⟩) n c, .slice none 0 0, .slice none 0 0, .int .i64 0, .int .i64 0] 27)).alloc (mkO n)) := by
  have r1 := World.rowIs_alloc w3 #[.slice (some ⟨gl, 0, none⟩) n c, .slice none 0 0, .slice none 0 0, .int .i64 0, .int .i64 0] 27 _ (ro5_row (.slice (some ⟨gl, 0, none⟩) n c) (.slice none 0 0) (.slice none 0 0) 0 0)
  have hz := hs.lt
  have l1 := hL.lt
  refine ⟨(hs.alloc _).alloc _, r1.alloc _, (hL.alloc _).alloc _, ?_, World.ownsRow_nil _ _ _ _, World.ownsRow_nil _ _ _ _, by omega, fun k hk => (by cases hk), fun k hk => (by cases hk)⟩
  have := made_blk (w3.alloc (.cells #[.slice (some ⟨gl, 0, none⟩) n c, .slice none 0 0, .slice none 0 0, .int .i64 0, .int .i64 0] 27)) n
  rw [World.size_alloc] at this
  exact this.congr (fun j _ => by show (0 : Int) = f j - f j; omega)

/-- The model's memory for a reach of a round. -/
abbrev rcO (r : Sw.Rc) : Obj := .cells #[.int .i64 r.kd, .int .i64 r.st, .int .i64 r.rm, .int .i64 r.fw, .int .i64 r.lp, .int .i64 r.dn] 55

end Go.Proofs.YtokbhkcpkilcmaaDoor
