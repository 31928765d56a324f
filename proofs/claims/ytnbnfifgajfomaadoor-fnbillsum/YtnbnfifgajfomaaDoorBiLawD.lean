/-
  The laws FnExactPlanDebt and FnDebt.
-/
import Derived.Test.YtnbnfifgajfomaaDoorBiD
import Derived.Test.YtnbnfifgajfomaaDoorDrawA
import Derived.Test.YtnbnfifgajfomaaDoorSource
import Derived.BigQuiet
namespace Go.Proofs.YtnbnfifgajfomaaDoor
open Go.RowKit Go.Deep

set_option maxRecDepth 100000 in
set_option maxHeartbeats 2000000 in
theorem bisum_any (a : Option Addr) (n cap : Nat) (f : Nat → Int) (w : World) (h : IsIn a n f w) (hn : n ≤ 1000) (hf : ∀ i, i < n → 0 ≤ f i ∧ f i ≤ 100000000000) :
    Calls Tryd.prog 11 #[.slice a n cap] w fun e w' => e = .returned (.int .i64 (Bi.sum f n)) ∧ w' = w := by
  have H := Lib.hid h
  have HF := Lib.hid hf
  clear h hf
  go_enter Tryd.func11, Tryd.ntmps11
  go_wp2_with fail
  go_loopw [3, 4] (fun sv iv wr => ∃ (i : Nat), i ≤ n ∧ iv = .int .i64 i ∧ sv = .int .i64 (Bi.sum f i) ∧ Hid (wr = w)) (fun _ iv _ => n - (intOf iv).toNat)
  case atStart => exact ⟨0, Nat.zero_le _, rfl, rfl, rfl⟩
  case round =>
    obtain ⟨i, hi, rfl, rfl, hW⟩ := hrel
    obtain rfl := hW.out
    clear hW
    by_cases hlt : i < n
    · have hltz : (i : Int) < (n : Int) := by omega
      obtain ⟨b, o, rfl, c0⟩ := H.out.at1 hlt
      have hs := Bi.sum_bd (f := f) (M := 100000000000) i (fun j hj => HF.out j (by omega))
      have hx := HF.out i hlt
      obtain ⟨s, hse⟩ : ∃ s, s = Bi.sum f i := ⟨_, rfl⟩
      rw [← hse] at hs ⊢
      have HS : Hid (s + f i = Bi.sum f (i + 1)) := by show _ = _; rw [hse]; rfl
      have hs0 := hs.1
      have hs1 : s ≤ 100000000000000 := by omega
      have hx0 := hx.1
      have hx1 := hx.2
      clear hse hs hx
      go_wp2_with fail
      go_roundw
      case rel => exact ⟨i + 1, by omega, by go_num, by rw [HS.out], by first | exact rfl | exact (trivial : True)⟩
      case measure => simp [intOf]; omega
    · obtain rfl : i = n := by omega
      go_wp2_with fail
      go_ret
      exact ⟨rfl, rfl⟩
end Go.Proofs.YtnbnfifgajfomaaDoor
