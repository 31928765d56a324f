/-
  The book of a district: plain facts, the program's, the model's.
-/
import Derived.Test.YtdpghhmcibiplaaDoorLkDIn
import Derived.Test.YtdpghhmcibiplaaDoorAw
import Derived.Test.YtdpghhmcibiplaaDoorNtEx1
import Derived.Test.YtdpghhmcibiplaaDoorWkErr
namespace Go.Proofs.YtdpghhmcibiplaaDoor
open Go.RowKit Go.Deep

namespace Di
/-- Three lists of numbers. -/
structure D where
  n : Nat
  f : Nat → Int
  m : Nat
  g : Nat → Int
  q : Nat
  h : Nat → Int
def lost (d : D) (i : Nat) : Int := d.f i - d.g i - d.h i
def sum (d : D) : Nat → Int
  | 0 => 0
  | k + 1 => sum d k + lost d k
/-- The worst place of the first k, and how bad it is. -/
def worst (d : D) : Nat → Int × Int
  | 0 => (-1, 0)
  | k + 1 => if k = 0 ∨ (worst d k).2 < lost d k then ((k : Int), lost d k) else worst d k
def Ok (n : Nat) (f : Nat → Int) : Prop := ∀ i, i < n → 0 ≤ f i ∧ f i ≤ 1000000
theorem lost_bd {d : D} (h1 : Ok d.n d.f) (h2 : Ok d.n d.g) (h3 : Ok d.n d.h) {i : Nat} (hi : i < d.n) : -2000000 ≤ lost d i ∧ lost d i ≤ 1000000 := by
  have := h1 i hi; have := h2 i hi; have := h3 i hi
  unfold lost; omega
theorem sum_bd {d : D} (h1 : Ok d.n d.f) (h2 : Ok d.n d.g) (h3 : Ok d.n d.h) : ∀ k, k ≤ d.n → -(2000000 * (k : Int)) ≤ sum d k ∧ sum d k ≤ 2000000 * (k : Int)
  | 0, _ => by simp [sum]
  | k + 1, hk => by
    have := sum_bd h1 h2 h3 k (by omega)
    have := lost_bd h1 h2 h3 (i := k) (by omega)
    show _ ≤ sum d k + lost d k ∧ sum d k + lost d k ≤ _
    omega
theorem worst_at (d : D) : ∀ k, k ≠ 0 → 0 ≤ (worst d k).1 ∧ (worst d k).1 < k
  | 0, h => absurd rfl h
  | k + 1, _ => by
    show 0 ≤ (if k = 0 ∨ _ then _ else _ : Int × Int).1 ∧ _
    by_cases c : k = 0 ∨ (worst d k).2 < lost d k
    · rw [worst, if_pos c]; exact ⟨by show (0 : Int) ≤ k; omega, by show (k : Int) < _; omega⟩
    · rw [worst, if_neg c]
      have := worst_at d k (fun h => c (Or.inl h))
      omega
theorem worst_none (d : D) (k : Nat) : ((worst d k).1 == -1) = (k == 0) := by
  by_cases c : k = 0
  · subst c; rfl
  · have := worst_at d k c
    have e1 : ((worst d k).1 == -1) = false := by simp; omega
    have e2 : (k == 0) = false := by simp; omega
    rw [e1, e2]
theorem worst_take {d : D} {k : Nat} (h : k = 0 ∨ (worst d k).2 < lost d k) : worst d (k + 1) = ((k : Int), lost d k) := by rw [worst, if_pos h]
theorem worst_keep {d : D} {k : Nat} (h : ¬ (k = 0 ∨ (worst d k).2 < lost d k)) : worst d (k + 1) = worst d k := by rw [worst, if_neg h]
def okB (n : Nat) (f : Nat → Int) : Bool := (List.range n).all fun i => decide (0 ≤ f i ∧ f i ≤ 1000000)
theorem okB_iff {n : Nat} {f : Nat → Int} : okB n f = true ↔ Ok n f := by
  unfold okB Ok
  rw [List.all_eq_true]
  constructor
  · intro h i hi; exact of_decide_eq_true (h i (List.mem_range.2 hi))
  · intro h i hi; exact decide_eq_true (h i (List.mem_range.1 hi))
theorem okB_yes {n : Nat} {f : Nat → Int} (h : Ok n f) : okB n f = true := okB_iff.2 h
theorem okB_no {n : Nat} {f : Nat → Int} (h : ¬ Ok n f) : okB n f = false := Bool.eq_false_iff.2 (fun k => h (okB_iff.1 k))
/-- The code. -/
def code (d : D) : Int := if 400 < d.n ∨ 400 < d.m ∨ 400 < d.q then 2 else if d.m ≠ d.n ∨ d.q ≠ d.n then 1 else if okB d.n d.f && (okB d.n d.g && okB d.n d.h) then 0 else 1
def lostA (d : D) : Int := if code d = 0 then sum d d.n else 0
def worstA (d : D) : Int := if code d = 0 then (worst d d.n).1 else 0
theorem code_size {d : D} (h : 400 < d.n ∨ 400 < d.m ∨ 400 < d.q) : code d = 2 := by unfold code; rw [if_pos h]
theorem code_len {d : D} (h : ¬ (400 < d.n ∨ 400 < d.m ∨ 400 < d.q)) (k : d.m ≠ d.n ∨ d.q ≠ d.n) : code d = 1 := by unfold code; rw [if_neg h, if_pos k]
theorem code_num {d : D} (h : ¬ (400 < d.n ∨ 400 < d.m ∨ 400 < d.q)) (k : ¬ (d.m ≠ d.n ∨ d.q ≠ d.n)) (j : (okB d.n d.f && (okB d.n d.g && okB d.n d.h)) = false) : code d = 1 := by unfold code; rw [if_neg h, if_neg k, j]; rfl
theorem code_ok {d : D} (h : ¬ (400 < d.n ∨ 400 < d.m ∨ 400 < d.q)) (k : ¬ (d.m ≠ d.n ∨ d.q ≠ d.n)) (j : (okB d.n d.f && (okB d.n d.g && okB d.n d.h)) = true) : code d = 0 := by unfold code; rw [if_neg h, if_neg k, j]; rfl
end Di

set_option maxHeartbeats 400000 in
theorem dwithin_any (x m : Int) (w : World) :
    Calls Tryd.prog 117 #[.int .i64 x, .int .i64 m] w fun e w' => e = .returned (.bool (decide (0 ≤ x ∧ x ≤ m))) ∧ w' = w := by
  by_cases h1 : 0 ≤ x
  · by_cases h2 : x ≤ m
    · rw [decide_eq_true (show 0 ≤ x ∧ x ≤ m from ⟨h1, h2⟩)]
      go_enter Tryd.func117, Tryd.ntmps117
      go_wp2_with fail
      go_ret
      exact ⟨rfl, rfl⟩
    · rw [decide_eq_false (show ¬ (0 ≤ x ∧ x ≤ m) from fun h => h2 h.2)]
      go_enter Tryd.func117, Tryd.ntmps117
      go_wp2_with fail
      go_ret
      exact ⟨rfl, rfl⟩
  · rw [decide_eq_false (show ¬ (0 ≤ x ∧ x ≤ m) from fun h => h1 h.1)]
    go_enter Tryd.func117, Tryd.ntmps117
    go_wp2_with fail
    go_ret
    exact ⟨rfl, rfl⟩
theorem dflows_any (a : Option Addr) (n cap : Nat) (f : Nat → Int) (w : World) (h : IsAt a n f w) (hn : n ≤ 400) :
    Calls Tryd.prog 89 #[.slice a n cap] w fun e w' => e = .returned (.bool (Di.okB n f)) ∧ w' = w := by
  refine (flows_raw a n cap f w h (by omega)).mono ?_
  rintro e w1 ⟨⟨b, rfl, hb⟩, rfl⟩
  refine ⟨?_, rfl⟩
  by_cases c : ∀ i, i < n → 0 ≤ f i ∧ f i ≤ 1000000
  · rw [Di.okB_yes c, hb.2 c]
  · rw [Di.okB_no c]
    cases b with
    | false => rfl
    | true => exact absurd (hb.1 rfl) c
set_option maxHeartbeats 1000000 in
theorem dall_any (a : Option Addr) (n cap : Nat) (f : Nat → Int) (w : World) (h : IsAt a n f w) (hn : n ≤ 400) :
    Calls Tryd.prog 57 #[.slice a n cap, .int .i64 0, .int .i64 1000000] w fun e w' => e = .returned (.bool (Di.okB n f)) ∧ w' = w := by
  have H := Lib.hid h
  clear h
  go_enter Tryd.func57, Tryd.ntmps57
  go_wp2_with fail
  go_loopw [7] (fun iv wr => ∃ (i : Nat), i ≤ n ∧ iv = .int .i64 i ∧ wr = w ∧ Hid (∀ j, j < i → 0 ≤ f j ∧ f j ≤ 1000000)) (fun iv _ => n - (intOf iv).toNat)
  case atStart => exact ⟨0, Nat.zero_le _, rfl, rfl, fun j hj => absurd hj (Nat.not_lt_zero _)⟩
  case round =>
    obtain ⟨i, hi, rfl, rfl, hP⟩ := hrel
    by_cases hlt : i < n
    · have hltz : (i : Int) < (n : Int) := by omega
      obtain ⟨b, rfl, c0⟩ := H.out.at1 hlt
      by_cases c1 : f i < 0
      · have HE := Lib.hid (Di.okB_no (n := n) (f := f) (fun h => by have := h i hlt; omega))
        go_wp2_with fail
        go_ret
        exact ⟨by rw [HE.out]; rfl, rfl⟩
      by_cases c2 : 1000000 < f i
      · have HE := Lib.hid (Di.okB_no (n := n) (f := f) (fun h => by have := h i hlt; omega))
        go_wp2_with fail
        go_ret
        exact ⟨by rw [HE.out]; rfl, rfl⟩
      have HC := Lib.hid (show 0 ≤ f i ∧ f i ≤ 1000000 by omega)
      go_wp2_with fail
      go_roundw
      case rel => exact ⟨i + 1, by omega, by go_num, by trivial, fun j hj => by
        by_cases e : j = i
        · subst e; exact HC.out
        · exact hP.out j (by omega)⟩
      case measure => simp [intOf]; omega
    · obtain rfl : i = n := by omega
      have HE := Lib.hid (Di.okB_yes (n := i) (f := f) hP.out)
      go_wp2_with fail
      go_ret
      exact ⟨by rw [HE.out]; rfl, rfl⟩
end Go.Proofs.YtdpghhmcibiplaaDoor
