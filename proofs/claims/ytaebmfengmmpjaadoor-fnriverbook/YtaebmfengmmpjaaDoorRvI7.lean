/-
  The contracts of the program's RiverStep and RiverShort.
-/
import Derived.Test.YtaebmfengmmpjaaDoorRvI6
import Derived.Test.YtaebmfengmmpjaaDoorAsC
import Derived.Test.YtaebmfengmmpjaaDoorEt
namespace Go.Proofs.YtaebmfengmmpjaaDoor
open Go.RowKit Go.Deep

theorem codeR (s : ByteArray) (c : Int) (w : World) (h : Et w) : Calls Tryd.prog 23 #[errV s c] w fun e w' => e = .returned (.int .i64 c) ∧ Below w.heap.size w w' := codeOf_any _ c (finds_one s c) w h

set_option maxRecDepth 100000 in
set_option maxHeartbeats 1000000 in
theorem tell_bad (s : ByteArray) (k : Int) (w : World) (hg : Et w) :
    Calls Tryd.prog 17 #[zRo, errV s k] w fun e w' => e = .returned (.agg #[.slice none 0 0, .slice none 0 0, .slice none 0 0, .int .i64 0, .int .i64 k]) ∧ Below w.heap.size w w' := by
  have HG := Lib.hid hg
  clear hg
  go_enter Tryd.func17, Tryd.ntmps17
  go_wp2_with fail
  refine (codeR s k _ ((HG.out.alloc _).alloc _)).mono ?_
  rintro e w1 ⟨rfl, hb⟩
  have hs : RoSlot (w.alloc roO) w1 := (RoSlot.start _).next hb
  obtain ⟨⟨q0, q1, q2, q3, q4⟩, ⟨f0, f1, f2, f3, f4⟩⟩ := hs.kept
  have hz := hs.lt
  have hF := Lib.hid (hs.fin (.slice none 0 0) (.slice none 0 0) (.slice none 0 0) (.int .i64 0) (.int .i64 k))
  simp only [World.size_alloc] at q0 q1 q2 q3 q4 f0 f1 f2 f3 f4 hz hF
  clear hs hb
  go_wp2_with fail
  exact bodyPost_ret (v := .agg #[.slice none 0 0, .slice none 0 0, .slice none 0 0, .int .i64 0, .int .i64 k]) (by
    obtain ⟨⟨x0, x1, x2, x3, x4⟩, _⟩ := hF.out
    simp only [results, Tryd.results17]
    simp [go_sem, x0, x1, x2, x3, x4]) rfl ⟨rfl, ((Below.refl _ _).alloc (Nat.le_refl _) _).trans (hF.out.2.mono (by omega))⟩

set_option maxRecDepth 100000 in
set_option maxHeartbeats 1000000 in
theorem tell_ok (a b c : Value) (d e0 : Int) (w : World) (ha : ∃ x n m, a = .slice x n m) (hb : ∃ x n m, b = .slice x n m) (hc : ∃ x n m, c = .slice x n m) :
    Calls Tryd.prog 17 #[.agg #[a, b, c, .int .i64 d, .int .i64 e0], .nilIface] w fun e w' => e = .returned (.agg #[a, b, c, .int .i64 d, .int .i64 e0]) ∧ Below w.heap.size w w' := by
  obtain ⟨a1, a2, a3, rfl⟩ := ha
  obtain ⟨b1, b2, b3, rfl⟩ := hb
  obtain ⟨c1, c2, c3, rfl⟩ := hc
  go_enter Tryd.func17, Tryd.ntmps17
  go_wp2_with fail
  exact bodyPost_ret (v := .agg #[.slice a1 a2 a3, .slice b1 b2 b3, .slice c1 c2 c3, .int .i64 d, .int .i64 e0]) (by
    simp [results, Tryd.results17, go_sem]) rfl ⟨rfl, ((Below.refl _ _).alloc (Nat.le_refl _) _).alloc (by simp) _⟩

namespace Rv
open Classical in
/-- What RiverStep tells. -/
noncomputable def stepF (n m : Nat) (rs : Nat → Rc) (rain : Nat → Int) : Except Int St := if 400 < n ∨ 400 < m then .error 2 else step n m rs rain
theorem stepF_over {n m : Nat} {rs : Nat → Rc} {rain : Nat → Int} (h : 400 < n ∨ 400 < m) : stepF n m rs rain = .error 2 := by unfold stepF; rw [if_pos h]
theorem stepF_in {n m : Nat} {rs : Nat → Rc} {rain : Nat → Int} (h : ¬ (400 < n ∨ 400 < m)) : stepF n m rs rain = step n m rs rain := by unfold stepF; rw [if_neg h]
theorem stepF_inv {n m : Nat} {rs : Nat → Rc} {rain : Nat → Int} {s : St} (h : stepF n m rs rain = .ok s) : (Right n rs ∧ m = n ∧ RainOk n rain) ∧ run rs rain n = some s := by
  by_cases hc : 400 < n ∨ 400 < m
  · rw [stepF_over hc] at h; cases h
  · rw [stepF_in hc] at h; exact step_inv h
end Rv
/-- How RiverStep ends: the answer. -/
def OutEnd (w : World) (n : Nat) (rs : Nat → Rv.Rc) (r : Except Int Rv.St) (e : Ending) (w' : World) : Prop :=
  (∃ k, r = .error k ∧ k ≠ 0 ∧ e = .returned (.agg #[.slice none 0 0, .slice none 0 0, .slice none 0 0, .int .i64 0, .int .i64 k])) ∨
  (∃ st gl gf gt c cf ct, r = .ok st ∧ e = .returned (vRo n gl gf gt c cf ct st.sea 0) ∧ OutL w.heap.size n gl gf gt (Rv.after rs st) st.fl st.tk w')

end Go.Proofs.YtaebmfengmmpjaaDoor
