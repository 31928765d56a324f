/-
  The tree of mains, which flows may be: the model's walk.
-/
import Derived.Test.YtfgmalnkpgloiaaGreatDoorMnS1
import Derived.Test.YtfgmalnkpgloiaaGreatDoorMnT3
namespace Go.Proofs.YtfgmalnkpgloiaaGreatDoor
open Go.RowKit Go.Deep

set_option maxHeartbeats 1000000 in
theorem srange_go (K f t d q : Int) (h1 : 1 ≤ K) (h2 : K ≤ 6) (q0 : 0 ≤ q) (q1 : q ≤ 100000) (w : World) :
    Calls Tryz.prog 48 #[.agg #[.int .i64 K, .int .i64 f, .int .i64 t, .int .i64 d, .int .i64 q]] w fun e w' => e = .returned (.tuple #[.int .i64 (if K = 2 ∨ K = 3 ∨ K = 5 then 0 else if K = 6 then -q else -100000), .int .i64 (if K = 5 then 0 else if K = 6 then q else 100000)]) ∧ Below w.heap.size w w' := by
  have HB := Lib.hid (nbel_alloc w (.cells #[.int .i64 K, .int .i64 f, .int .i64 t, .int .i64 d, .int .i64 q] 36))
  have k16 : K = 1 ∨ K = 2 ∨ K = 3 ∨ K = 4 ∨ K = 5 ∨ K = 6 := by omega
  clear h1 h2
  rcases k16 with rfl | rfl | rfl | rfl | rfl | rfl
  all_goals
    simp only [show ¬ (1 : Int) = 2 by decide, show ¬ (1 : Int) = 3 by decide, show ¬ (1 : Int) = 5 by decide, show ¬ (1 : Int) = 6 by decide, show ¬ (2 : Int) = 5 by decide, show ¬ (2 : Int) = 6 by decide, show ¬ (3 : Int) = 5 by decide, show ¬ (3 : Int) = 6 by decide, show ¬ (4 : Int) = 2 by decide, show ¬ (4 : Int) = 3 by decide, show ¬ (4 : Int) = 5 by decide, show ¬ (4 : Int) = 6 by decide, show ¬ (6 : Int) = 2 by decide, show ¬ (6 : Int) = 3 by decide, show ¬ (6 : Int) = 5 by decide, or_false, or_true, true_or, if_true, if_false]
    go_enter Tryz.func48, Tryz.ntmps48
    go_wp2_with fail
    try go_quiet (fail)
    try go_wp2_with fail
    go_ret2
    exact ⟨rfl, by first | exact HB.out | exact ndrewN HB.out _⟩
theorem srange_any (m : Mn.Mains) (i : Nat) (h : Mn.PipeOk m i) (w : World) :
    Calls Tryz.prog 48 #[pipeV m i] w fun e w' => e = .returned (.tuple #[.int .i64 (Mn.lo m i), .int .i64 (Mn.hi m i)]) ∧ Below w.heap.size w w' := srange_go _ _ _ _ _ h.k1 h.k2 h.m0 h.m1 w
structure SwS (m : Mn.Mains) (pa : Option Addr) (pk : Nat) (la : Option Addr) (lk : Nat) (wa : Option Addr) (wk : Nat) (fa : Option Addr) (f : Nat → Int) (w W : World) : Prop where
  s : MnS 27 m pa pk la lk wa wk w W
  f : IsAt fa m.pn f W
theorem SwS.below {m : Mn.Mains} {pa : Option Addr} {pk : Nat} {la : Option Addr} {lk : Nat} {wa : Option Addr} {wk : Nat} {fa : Option Addr} {f : Nat → Int} {w W W' : World} (h : SwS m pa pk la lk wa wk fa f w W) (hb : Below W.heap.size W W') : SwS m pa pk la lk wa wk fa f w W' := ⟨h.s.below hb, h.f.below hb⟩
set_option maxRecDepth 100000 in
set_option maxHeartbeats 4000000 in
theorem swrong_any (m : Mn.Mains) (pa : Option Addr) (pk : Nat) (la : Option Addr) (lk : Nat) (wa : Option Addr) (wk : Nat) (fa : Option Addr) (fc : Nat) (f : Nat → Int) (w : World) (h : MnAt m pa la wa w) (hf : IsAt fa m.pn f w) (hr : Mn.Right m) :
    Calls Tryz.prog 45 #[mnV m pa pk la lk wa wk, .slice fa m.pn fc] w fun e w' => (∃ r : Int, e = .returned (.int .i64 r) ∧ Mn.WrongAt m f r) ∧ Below w.heap.size w w' := by
  have ST : Hid (SwS m pa pk la lk wa wk fa f w (w.alloc (.cells #[.int .i64 m.nodes, .int .i64 m.head, .slice pa m.pn pk, .slice la m.ln lk, .slice wa m.wn wk] 27))) := ⟨MnS.new 27 (pk := pk) (lk := lk) (wk := wk) h, hf.below (nbel_alloc _ _)⟩
  have hpn := hr.pn
  have HR := Lib.hid hr
  clear h hf hr
  go_enter Tryz.func45, Tryz.ntmps45
  go_wp2_with fail
  go_loopw [5] (fun iv wr => ∃ (i : Nat), i ≤ m.pn ∧ iv = .int .i64 i ∧ Hid (SwS m pa pk la lk wa wk fa f w wr) ∧ Hid (∀ j, j < i → Mn.okF m f j)) (fun iv _ => m.pn - (intOf iv).toNat)
  case atStart => exact ⟨0, Nat.zero_le _, rfl, ST, fun j hj => absurd hj (Nat.not_lt_zero _)⟩
  case round =>
    obtain ⟨i, hi, rfl, hS, hP⟩ := hrel
    clear ST
    obtain ⟨⟨r0, r1, r2, r3, r4⟩, _⟩ := rowN5 hS.out.s.row
    by_cases hlt : i < m.pn
    · have hltz : (i : Int) < (m.pn : Int) := by omega
      obtain ⟨fb, e, d0⟩ := hS.out.f.at1 hlt
      subst e
      obtain ⟨b, e, c0, c1, c2, c3, c4⟩ := hS.out.s.at_.p.at5 hlt
      subst e
      clear d0
      go_wp2_with fail
      refine (srange_any m i (HR.out.p i hlt) _).mono ?_
      rintro e w2 ⟨rfl, hb⟩
      have S2 := Lib.hid (hS.out.below hb)
      clear hS hb r0 r1 r2 r3 r4 c0 c1 c2 c3 c4
      obtain ⟨fb', e, d0⟩ := S2.out.f.at1 hlt
      cases e
      by_cases a1 : f i < Mn.lo m i
      · go_wp2_with fail
        try go_quiet (fail)
        try go_wp2_with fail
        go_ret
        exact ⟨⟨_, rfl, Or.inl ⟨i, hlt, rfl, fun k => (by have := k.1; omega), hP.out⟩⟩, by first | exact S2.out.s.old | exact ndrewN S2.out.s.old _⟩
      by_cases a2 : Mn.hi m i < f i
      · go_wp2_with fail
        try go_quiet (fail)
        try go_wp2_with fail
        go_ret
        exact ⟨⟨_, rfl, Or.inl ⟨i, hlt, rfl, fun k => (by have := k.2; omega), hP.out⟩⟩, by first | exact S2.out.s.old | exact ndrewN S2.out.s.old _⟩
      go_wp2_with fail
      try go_quiet (fail)
      try go_wp2_with fail
      go_roundw
      case rel =>
        refine ⟨i + 1, by omega, by go_num, by first | exact S2 | exact S2.out.below (ndrewN (Below.refl _ _) _), fun j hj => ?_⟩
        by_cases ej : j = i
        · subst ej; exact ⟨by omega, by omega⟩
        · exact hP.out j (by omega)
      case measure => simp [intOf]; omega
    · obtain rfl : i = m.pn := by omega
      go_wp2_with fail
      go_ret
      exact ⟨⟨_, rfl, Or.inr ⟨rfl, hP.out⟩⟩, hS.out.s.old⟩
end Go.Proofs.YtfgmalnkpgloiaaGreatDoor
