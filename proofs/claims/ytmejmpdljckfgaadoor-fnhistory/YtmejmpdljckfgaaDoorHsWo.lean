/-
  HistoryWorst, both sides.
-/
import Derived.Test.YtmejmpdljckfgaaDoorHsI2
import Derived.Test.YtmejmpdljckfgaaDoorHsS2
import Derived.Test.YtmejmpdljckfgaaDoorReg
namespace Go.Proofs.YtmejmpdljckfgaaDoor
open Go.RowKit Go.Deep

namespace Hs
theorem off_big {V F : Nat → Int} {m n : Nat} (h : 400 < m ∨ 400 < n) : off V m F n = 0 := if_pos h
theorem off_no {V F : Nat → Int} {m n : Nat} (h : ¬ (400 < m ∨ 400 < n)) (k : ¬ (Vals V m ∧ Right F n)) : off V m F n = -1 := by unfold off; rw [if_neg h, if_neg k]
theorem off_yes {V F : Nat → Int} {m n : Nat} (h : ¬ (400 < m ∨ 400 < n)) (k : Vals V m ∧ Right F n) : off V m F n = worst V F n m := by unfold off; rw [if_neg h, if_pos k]
theorem mag_bd {x T : Int} (h : -T ≤ x ∧ x ≤ T) : 0 ≤ mag x ∧ mag x ≤ T := by unfold mag; split <;> omega
theorem worst_bd {V F : Nat → Int} {m n : Nat} (hv : Vals V m) (hr : Right F n) : ∀ i, i ≤ m → 0 ≤ worst V F n i ∧ worst V F n i ≤ 2000000 := by
  intro i
  induction i with
  | zero => intro _; show 0 ≤ (0 : Int) ∧ (0 : Int) ≤ _; omega
  | succ i ih =>
    intro hi
    have h1 := ih (by omega)
    have h2 := hv.2 i (by omega)
    have h3 := look_in hr.vals i n (Nat.le_refl _)
    have h4 := mag_bd (x := V i - look F i n) (T := 2000000) (by omega)
    show 0 ≤ max (worst V F n i) (mag (V i - look F i n)) ∧ max (worst V F n i) (mag (V i - look F i n)) ≤ _
    omega
end Hs
theorem hmag_any (x : Int) (w : World) (h1 : -2000000 ≤ x) (h2 : x ≤ 2000000) : Calls Tryd.prog 55 #[.int .i64 x] w fun e w' => e = .returned (.int .i64 (Hs.mag x)) ∧ w' = w := by
  have hw : IntKind.i64.wrap (-x) = -x := Hs.wrapid (by omega) (by omega)
  unfold Hs.mag
  by_cases k : x < 0
  · rw [if_pos k]
    go_enter Tryd.func55, Tryd.ntmps55
    go_wp2_with fail
    go_ret
    exact ⟨by first | rfl | (simp; omega), rfl⟩
  · rw [if_neg k]
    go_enter Tryd.func55, Tryd.ntmps55
    go_wp2_with fail
    go_ret
    exact ⟨by first | rfl | (simp; omega), rfl⟩
theorem hmax_any (a b : Int) (w : World) : Calls Tryd.prog 91 #[.int .i64 a, .int .i64 b] w fun e w' => e = .returned (.int .i64 (max a b)) ∧ w' = w := by
  by_cases h : b < a
  · have e : max a b = a := by omega
    rw [e]
    go_enter Tryd.func91, Tryd.ntmps91
    go_wp2_with fail
    go_ret
    exact ⟨rfl, rfl⟩
  · have e : max a b = b := by omega
    rw [e]
    go_enter Tryd.func91, Tryd.ntmps91
    go_wp2_with fail
    go_ret
    exact ⟨rfl, rfl⟩
set_option maxRecDepth 100000 in
set_option maxHeartbeats 8000000 in
theorem implWorst_any (va : Option Addr) (m vc : Nat) (V : Nat → Int) (la : Option Addr) (n cap : Nat) (F : Nat → Int) (w : World) (hv : IsAt va m V w) (hm : m ≤ 1048576) (h : IsAt la (n * 2) F w) (hn : n ≤ 1048576) :
    Calls Tryd.prog 21 #[.slice va m vc, .slice la n cap] w fun e w' => e = .returned (.int .i64 (Hs.off V m F n)) ∧ Below w.heap.size w w' := by
  have H := Lib.hid h
  have HVA := Lib.hid hv
  clear h hv
  by_cases b1 : (400 : Int) < (m : Int)
  · have HE := Lib.hid (Hs.off_big (V := V) (F := F) (show 400 < m ∨ 400 < n by omega))
    go_enter Tryd.func21, Tryd.ntmps21
    go_wp2_with fail
    go_ret
    exact ⟨by rw [HE.out]; rfl, Below.refl _ _⟩
  by_cases b2 : (400 : Int) < (n : Int)
  · have HE := Lib.hid (Hs.off_big (V := V) (F := F) (show 400 < m ∨ 400 < n by omega))
    go_enter Tryd.func21, Tryd.ntmps21
    go_wp2_with fail
    go_ret
    exact ⟨by rw [HE.out]; rfl, Below.refl _ _⟩
  have HBG : Hid (¬ (400 < m ∨ 400 < n)) := by show ¬ _; omega
  go_enter Tryd.func21, Tryd.ntmps21
  go_wp2_with fail
  refine (histR_any va m vc V w HVA.out hm).mono ?_
  rintro e w1 ⟨rfl, hb⟩
  have HB := Lib.hid hb
  clear hb
  by_cases cv : Hs.Vals V m
  case neg =>
    have HE := Lib.hid (Hs.off_no (V := V) (F := F) HBG.out (fun h => cv h.1))
    rw [Mt.dB_ff cv]
    clear cv
    go_wp2_with fail
    go_ret
    exact ⟨by rw [HE.out]; rfl, HB.out⟩
  rw [Mt.dB_tt cv]
  have HV := Lib.hid cv
  clear cv
  go_wp2_with fail
  refine (implPR_any la n cap F w1 (H.out.below HB.out) hn).mono ?_
  rintro e w2 ⟨rfl, hb⟩
  have HB2 : Hid (Below w.heap.size w w2) := HB.out.trans (hb.mono HB.out.size)
  clear hb HB
  by_cases cr : Hs.Right F n
  case neg =>
    have HE := Lib.hid (Hs.off_no (V := V) (F := F) HBG.out (fun h => cr h.2))
    rw [Mt.dB_ff cr]
    clear cr
    go_wp2_with fail
    go_ret
    exact ⟨by rw [HE.out]; rfl, HB2.out⟩
  rw [Mt.dB_tt cr]
  have HR := Lib.hid cr
  have HE := Lib.hid (Hs.off_yes HBG.out ⟨HV.out, cr⟩)
  clear cr
  go_wp2_with fail
  go_loopw [5, 6, 7, 26] (fun xv _ _ iv wr => ∃ (i : Nat), i ≤ m ∧ iv = .int .i64 i ∧ xv = .int .i64 (Hs.worst V F n i) ∧ Hid (Below w.heap.size w wr)) (fun _ _ _ iv _ => m - (intOf iv).toNat)
  case atStart => exact ⟨0, Nat.zero_le _, rfl, rfl, HB2⟩
  case round =>
    obtain ⟨i, hi, rfl, rfl, hB⟩ := hrel
    clear HB2
    by_cases hlt : i < m
    · have hltz : (i : Int) < (m : Int) := by omega
      obtain ⟨q, e, c0⟩ := (HVA.out.below hB.out).at1 hlt
      subst e
      have hx0 := HV.out.2 i hlt
      have hl0 := Hs.look_in HR.out.vals i n (Nat.le_refl _)
      have hw0 := Hs.worst_bd HV.out HR.out i hi
      obtain ⟨x, hx⟩ : ∃ x, x = V i := ⟨_, rfl⟩
      obtain ⟨y, hy⟩ : ∃ x, x = Hs.look F i n := ⟨_, rfl⟩
      obtain ⟨s, hs⟩ : ∃ x, x = Hs.worst V F n i := ⟨_, rfl⟩
      have HST : Hid (max s (Hs.mag (x - y)) = Hs.worst V F n (i + 1)) := by show _ = _; rw [hx, hy, hs]; rfl
      rw [← hx] at c0 hx0
      rw [← hs] at hw0 ⊢
      rw [← hy] at hl0
      have HYE := Lib.hid hy
      clear hx hs hy
      have hq6 : IntKind.i64.wrap (x - y) = x - y := lnwrap (by omega) (by omega)
      go_wp2_with fail
      refine (valueAt_any la n cap F i wr (H.out.below hB.out) HR.out).mono ?_
      rintro e w3 ⟨rfl, hb⟩
      rw [← HYE.out]
      have HB3 : Hid (Below w.heap.size w w3) := hB.out.trans (hb.mono hB.out.size)
      clear hb hB c0
      go_wp2_with fail
      refine (hmag_any (x - y) _ (by omega) (by omega)).mono ?_
      rintro e w4 ⟨rfl, hw4⟩
      subst hw4
      obtain ⟨d, hd⟩ : ∃ d, d = Hs.mag (x - y) := ⟨_, rfl⟩
      rw [← hd] at HST ⊢
      clear hd
      go_wp2_with fail
      go_roundw
      case rel => exact ⟨i + 1, by omega, by go_num, by first | rw [HST.out] | (rw [← HST.out]; congr 1; omega), HB3⟩
      case measure => simp [intOf]; omega
    · obtain rfl : i = m := by omega
      go_wp2_with fail
      go_ret
      exact ⟨by rw [HE.out]; rfl, hB.out⟩
end Go.Proofs.YtmejmpdljckfgaaDoor
