/-
  The program's value at a place.
-/
import Derived.Test.YtmejmpdljckfgaaDoorHsI1
namespace Go.Proofs.YtmejmpdljckfgaaDoor
open Go.RowKit Go.Deep

set_option maxRecDepth 100000 in
set_option maxHeartbeats 4000000 in
theorem valueAt_any (la : Option Addr) (n cap : Nat) (F : Nat → Int) (a : Int) (w : World) (h : IsAt la (n * 2) F w) (hr : Hs.Right F n) :
    Calls Tryd.prog 56 #[.slice la n cap, .int .i64 a] w fun e w' => e = .returned (.int .i64 (Hs.look F a n)) ∧ Below w.heap.size w w' := by
  have H := Lib.hid h
  have HR := Lib.hid hr
  have hn3 : n ≤ 300 := hr.1
  clear h hr
  go_enter Tryd.func56, Tryd.ntmps56
  go_wp2_with fail
  go_loopw [5, 7, 10] (fun xv _ iv wr => ∃ (i : Nat), i ≤ n ∧ iv = .int .i64 i ∧ xv = .int .i64 (Hs.look F a i) ∧ Hid (Below w.heap.size w wr)) (fun _ _ iv _ => n - (intOf iv).toNat)
  case atStart => exact ⟨0, Nat.zero_le _, rfl, rfl, Below.refl _ _⟩
  case round =>
    obtain ⟨i, hi, rfl, rfl, hB⟩ := hrel
    by_cases hlt : i < n
    · have hltz : (i : Int) < (n : Int) := by omega
      obtain ⟨b, e, k0, k1⟩ := (H.out.below hB.out).at2 hlt
      subst e
      have HST : Hid (a < F (i * 2) → Hs.look F a i = Hs.look F a n) := fun h => (Hs.look_stop HR.out h n (by omega) (Nat.le_refl _)).symm
      have HNX : Hid (F (i * 2) ≤ a → F (i * 2 + 1) = Hs.look F a (i + 1)) := fun h => by show _ = (if F (i * 2) ≤ a then _ else _); rw [if_pos h]
      obtain ⟨v, hv⟩ : ∃ x, x = Hs.look F a i := ⟨_, rfl⟩
      obtain ⟨x, hx⟩ : ∃ x, x = F (i * 2) := ⟨_, rfl⟩
      obtain ⟨y, hy⟩ : ∃ x, x = F (i * 2 + 1) := ⟨_, rfl⟩
      rw [← hv, ← hx] at HST
      rw [← hx, ← hy] at HNX
      rw [← hx] at k0
      rw [← hy] at k1
      rw [← hv]
      clear hv hx hy
      have HB1 := Lib.hid (hB.out.alloc hB.out.size (.cells #[.int .i64 x, .int .i64 y] 104))
      by_cases c : a < x
      · have HE := Lib.hid (HST.out c)
        clear HST HNX
        go_wp2_with fail
        go_ret
        exact ⟨by rw [HE.out]; rfl, HB1.out⟩
      · have HE := Lib.hid (HNX.out (by omega))
        clear HST HNX
        go_wp2_with fail
        go_roundw
        case rel => exact ⟨i + 1, by omega, by go_num, by rw [HE.out], HB1⟩
        case measure => simp [intOf]; omega
    · obtain rfl : i = n := by omega
      go_wp2_with fail
      go_ret
      exact ⟨rfl, hB.out⟩
end Go.Proofs.YtmejmpdljckfgaaDoor
