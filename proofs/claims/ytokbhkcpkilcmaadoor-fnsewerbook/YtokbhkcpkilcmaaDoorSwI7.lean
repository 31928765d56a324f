/-
  The contracts of the program's SewerStep and RiverShort.
-/
import Derived.Test.YtokbhkcpkilcmaaDoorSwI6
import Derived.Test.YtokbhkcpkilcmaaDoorAsC
import Derived.Test.YtokbhkcpkilcmaaDoorEt
namespace Go.Proofs.YtokbhkcpkilcmaaDoor
open Go.RowKit Go.Deep

theorem codeR (s : ByteArray) (c : Int) (w : World) (h : Et w) : Calls Tryd.prog 53 #[errV s c] w fun e w' => e = .returned (.int .i64 c) ∧ Below w.heap.size w w' := codeOf_any _ c (finds_one s c) w h

set_option maxRecDepth 100000 in
set_option maxHeartbeats 1000000 in
theorem tell_err (y : Value) (k : Int) (HY : AsFinds y k) (w : World) (hg : Et w) :
    Calls Tryd.prog 38 #[zRo, .iface 66 y] w fun e w' => e = .returned (.agg #[.slice none 0 0, .slice none 0 0, .slice none 0 0, .int .i64 0, .int .i64 k]) ∧ Below w.heap.size w w' := by
  have HG := Lib.hid hg
  clear hg
  go_enter Tryd.func38, Tryd.ntmps38
  go_wp2_with fail
  refine (codeOf_any y k HY _ ((HG.out.alloc _).alloc _)).mono ?_
  rintro e w1 ⟨rfl, hb⟩
  have hs : RoSlot (w.alloc roO) w1 := (RoSlot.start _).next hb
  obtain ⟨⟨q0, q1, q2, q3, q4⟩, ⟨f0, f1, f2, f3, f4⟩⟩ := hs.kept
  have hz := hs.lt
  have hF := Lib.hid (hs.fin (.slice none 0 0) (.slice none 0 0) (.slice none 0 0) (.int .i64 0) (.int .i64 k))
  simp only [World.size_alloc] at q0 q1 q2 q3 q4 f0 f1 f2 f3 f4 hz hF
  clear hs hb
  go_wp2_with fail
  exact bodyPost_ret (v := .agg #[.slice none 0 0, .slice none 0 0, .slice none 0 0, .int .i64 0, .int .i64 k]) (by
    obtain ⟨⟨x0, x1, x2, x3, x4⟩, _⟩ := hF.out
    simp only [results, Tryd.results38]
    simp [go_sem, x0, x1, x2, x3, x4]) rfl ⟨rfl, ((Below.refl _ _).alloc (Nat.le_refl _) _).trans (hF.out.2.mono (by omega))⟩

theorem tell_bad (s : ByteArray) (k : Int) (w : World) (hg : Et w) :
    Calls Tryd.prog 38 #[zRo, errV s k] w fun e w' => e = .returned (.agg #[.slice none 0 0, .slice none 0 0, .slice none 0 0, .int .i64 0, .int .i64 k]) ∧ Below w.heap.size w w' := tell_err _ k (finds_one s k) w hg
set_option maxRecDepth 100000 in
set_option maxHeartbeats 1000000 in
theorem tell_ok (a b c : Value) (d e0 : Int) (w : World) (ha : ∃ x n m, a = .slice x n m) (hb : ∃ x n m, b = .slice x n m) (hc : ∃ x n m, c = .slice x n m) :
    Calls Tryd.prog 38 #[.agg #[a, b, c, .int .i64 d, .int .i64 e0], .nilIface] w fun e w' => e = .returned (.agg #[a, b, c, .int .i64 d, .int .i64 e0]) ∧ Below w.heap.size w w' := by
  obtain ⟨a1, a2, a3, rfl⟩ := ha
  obtain ⟨b1, b2, b3, rfl⟩ := hb
  obtain ⟨c1, c2, c3, rfl⟩ := hc
  go_enter Tryd.func38, Tryd.ntmps38
  go_wp2_with fail
  exact bodyPost_ret (v := .agg #[.slice a1 a2 a3, .slice b1 b2 b3, .slice c1 c2 c3, .int .i64 d, .int .i64 e0]) (by
    simp [results, Tryd.results38, go_sem]) rfl ⟨rfl, ((Below.refl _ _).alloc (Nat.le_refl _) _).alloc (by simp) _⟩

namespace Sw
open Classical in
/-- What SewerStep tells. -/
noncomputable def stepF (n m : Nat) (rs : Nat → Rc) (rain : Nat → Int) : Except Int St := if 400 < n ∨ 400 < m then .error 2 else step n m rs rain
theorem stepF_over {n m : Nat} {rs : Nat → Rc} {rain : Nat → Int} (h : 400 < n ∨ 400 < m) : stepF n m rs rain = .error 2 := by unfold stepF; rw [if_pos h]
theorem stepF_in {n m : Nat} {rs : Nat → Rc} {rain : Nat → Int} (h : ¬ (400 < n ∨ 400 < m)) : stepF n m rs rain = step n m rs rain := by unfold stepF; rw [if_neg h]
theorem stepF_inv {n m : Nat} {rs : Nat → Rc} {rain : Nat → Int} {s : St} (h : stepF n m rs rain = .ok s) : (Right n rs ∧ m = n ∧ RainOk n rain) ∧ s = run rs rain n := by
  by_cases hc : 400 < n ∨ 400 < m
  · rw [stepF_over hc] at h; cases h
  · rw [stepF_in hc] at h; exact step_inv h
end Sw
/-- How SewerStep ends: the answer. -/
def OutEnd (w : World) (n : Nat) (rs : Nat → Sw.Rc) (r : Except Int Sw.St) (e : Ending) (w' : World) : Prop :=
  (∃ k, r = .error k ∧ k ≠ 0 ∧ e = .returned (.agg #[.slice none 0 0, .slice none 0 0, .slice none 0 0, .int .i64 0, .int .i64 k])) ∨
  (∃ st gl gf gt c cf ct, r = .ok st ∧ e = .returned (vRo n gl gf gt c cf ct st.sea 0) ∧ OutL w.heap.size n gl gf gt (Sw.after rs st) st.fl st.tk w')

set_option maxRecDepth 100000 in
set_option maxHeartbeats 2000000 in
theorem implStep_any (a b : Option Addr) (n cn m cm : Nat) (rs : Nat → Sw.Rc) (f : Nat → Int) (w : World) (h : RcsAt a n rs w) (h2 : IntsAt b m f w) (hg : Et w) :
    Calls Tryd.prog 11 #[.slice a n cn, .slice b m cm] w fun e w' => OutEnd w n rs (Sw.stepF n m rs f) e w' ∧ Below w.heap.size w w' := by
  have HG := Lib.hid hg
  have H := Lib.hid h
  have H2 := Lib.hid h2
  clear hg h h2
  by_cases ho : 400 < n ∨ 400 < m
  · have HO := Lib.hid ho
    have key : ∀ (K : Prop), ((400 : Int) < (n : Int) → K) → (¬ (400 : Int) < (n : Int) → (400 : Int) < (m : Int) → K) → K := fun K k1 k2 => by
      by_cases hn : (400 : Int) < (n : Int)
      · exact k1 hn
      · exact k2 hn (by omega)
    clear ho
    refine key _ (fun hz => ?_) (fun hz hz2 => ?_)
    all_goals
      go_enter Tryd.func11, Tryd.ntmps11
      go_wp2_with fail
      refine (tell_bad _ 2 _ (HG.out.alloc _)).mono ?_
      rintro e w1 ⟨rfl, hb⟩
      have hs : RoSlot w w1 := (RoSlot.start w).next hb
      obtain ⟨⟨q0, q1, q2, q3, q4⟩, ⟨f0, f1, f2, f3, f4⟩⟩ := hs.kept
      have hz1 := hs.lt
      have hF := Lib.hid (hs.fin (.slice none 0 0) (.slice none 0 0) (.slice none 0 0) (.int .i64 0) (.int .i64 2))
      clear hs hb
      go_wp2_with fail
      exact bodyPost_ret (v := .agg #[.slice none 0 0, .slice none 0 0, .slice none 0 0, .int .i64 0, .int .i64 2]) (by
        obtain ⟨⟨x0, x1, x2, x3, x4⟩, _⟩ := hF.out
        simp only [results, Tryd.results11]
        simp [go_sem, x0, x1, x2, x3, x4]) rfl ⟨Or.inl ⟨2, Sw.stepF_over HO.out, by decide, rfl⟩, hF.out.2⟩
  · have HO := Lib.hid (Sw.stepF_in (rs := rs) (rain := f) ho)
    have hz : ¬ (400 : Int) < (n : Int) := by omega
    have hz2 : ¬ (400 : Int) < (m : Int) := by omega
    have hm4 : m ≤ 4194304 := by omega
    clear ho
    go_enter Tryd.func11, Tryd.ntmps11
    go_wp2_with fail
    refine (step_any a b n cn m cm rs f _ (H.out.below ((Below.refl _ _).alloc (Nat.le_refl _) _)) (H2.out.below ((Below.refl _ _).alloc (Nat.le_refl _) _)) hm4).mono ?_
    rintro e w1 ⟨hE, hb⟩
    have hs1 : RoSlot w w1 := (RoSlot.start w).next hb
    have HS1 := Lib.hid hs1
    clear hb hs1
    rcases hE with ⟨k, s, hk, hk0, rfl⟩ | ⟨st, gl, gf, gt, c, hk, rfl, hL⟩
    · have HK := Lib.hid hk
      have HK0 := Lib.hid hk0
      clear hk hk0
      go_wp2_with fail
      refine (tell_bad s k _ (HG.out.below HS1.out.old)).mono ?_
      rintro e w2 ⟨rfl, hb⟩
      have hs : RoSlot w w2 := HS1.out.next hb
      obtain ⟨⟨q0, q1, q2, q3, q4⟩, ⟨f0, f1, f2, f3, f4⟩⟩ := hs.kept
      have hz1 := hs.lt
      have hF := Lib.hid (hs.fin (.slice none 0 0) (.slice none 0 0) (.slice none 0 0) (.int .i64 0) (.int .i64 k))
      clear hs hb
      go_wp2_with fail
      exact bodyPost_ret (v := .agg #[.slice none 0 0, .slice none 0 0, .slice none 0 0, .int .i64 0, .int .i64 k]) (by
        obtain ⟨⟨x0, x1, x2, x3, x4⟩, _⟩ := hF.out
        simp only [results, Tryd.results11]
        simp [go_sem, x0, x1, x2, x3, x4]) rfl ⟨Or.inl ⟨k, HO.out.trans HK.out, HK0.out, rfl⟩, hF.out.2⟩
    · have HK := Lib.hid hk
      have HL : Hid (OutL (w.heap.size + 1) n gl gf gt (Sw.after rs st) st.fl st.tk w1) := hL.lower (by simp)
      clear hk hL
      go_wp2_with fail
      refine (tell_ok _ _ _ st.sea 0 _ ⟨_, _, _, rfl⟩ ⟨_, _, _, rfl⟩ ⟨_, _, _, rfl⟩).mono ?_
      rintro e w2 ⟨rfl, hb⟩
      have hs : RoSlot w w2 := HS1.out.next hb
      have HL2 := Lib.hid (HL.out.below hb)
      obtain ⟨⟨q0, q1, q2, q3, q4⟩, ⟨f0, f1, f2, f3, f4⟩⟩ := hs.kept
      have hz1 := hs.lt
      have hF := Lib.hid (hs.fin (.slice (some ⟨gl, 0, none⟩) n c) (.slice (some ⟨gf, 0, none⟩) n n) (.slice (some ⟨gt, 0, none⟩) n n) (.int .i64 st.sea) (.int .i64 0))
      clear hs hb HL
      go_wp2_with fail
      exact bodyPost_ret (v := vRo n gl gf gt c n n st.sea 0) (by
        obtain ⟨⟨x0, x1, x2, x3, x4⟩, _⟩ := hF.out
        simp only [results, Tryd.results11]
        simp [go_sem, x0, x1, x2, x3, x4]) rfl ⟨Or.inr ⟨st, gl, gf, gt, c, n, n, HO.out.trans HK.out, rfl, (HL2.out.put _ _ _ _ _).lower (by omega)⟩, hF.out.2⟩
end Go.Proofs.YtokbhkcpkilcmaaDoor
