/-
  The law FnTurns.
-/
import Derived.Test.YtjcdkaojdpcagaaMtI1
import Derived.Test.YtjcdkaojdpcagaaMtDr
namespace Go.Proofs.Ytjcdkaojdpcagaa
open Go.RowKit Go.Deep

set_option maxRecDepth 100000 in
set_option maxHeartbeats 4000000 in
theorem turns_law (w : World) (a : Option Addr) (len cap : Nat) (h : Bytes a len w) (hl : len ≤ 9223372036854775807) :
    Calls Try.prog 6 #[.slice a len cap] w fun e w' => e = .returned (.bool true) ∧ Below w.heap.size w w' := by
  have H := Lib.hid h
  clear h
  by_cases hbig : (1048576 : Int) < (len : Int)
  · go_enter Try.func6, Try.ntmps6
    go_wp2_with fail
    go_ret
    exact ⟨rfl, Below.refl _ _⟩
  go_enter Try.func6, Try.ntmps6
  go_wp2_with fail
  refine (drawTurn_any a len cap _ H.out (by omega)).mono ?_
  rintro e w1 ⟨⟨d, x, y, rfl, hd0, hd1, hx, hy⟩, hb⟩
  have HB := Lib.hid hb
  clear hb H hbig
  go_wp2_with fail
  refine (specTurn_any d x y _).mono ?_
  rintro e w2 ⟨rfl, rfl⟩
  obtain ⟨t, ht⟩ : ∃ t, t = Mt.turn d x y := ⟨_, rfl⟩
  have HT := Lib.hid ht
  rw [← ht]
  clear ht
  by_cases c : Mt.Shows d x ∧ Mt.Shows d y
  case neg =>
    have ht1 : t = -1 := by rw [HT.out]; exact Mt.turn_no c
    have ht0 : t < 0 := by omega
    have hte : (t == -1) = true := by simp [ht1]
    clear ht1 c
    go_wp2_with fail
    refine (implTurn_any d x y _).mono ?_
    rintro e w3 ⟨rfl, hb⟩
    rw [← HT.out]
    have HB2 : Hid (Below w.heap.size w w3) := HB.out.trans (hb.mono HB.out.size)
    clear hb
    go_wp2_with fail
    go_ret
    exact ⟨rfl, HB2.out⟩
  obtain ⟨F, hF⟩ : ∃ F, F = Mt.full d := ⟨_, rfl⟩
  have hFb : 1 ≤ F ∧ F ≤ 10000000 := by rw [hF]; exact Mt.full_bd c.1.1.2
  have htb : 0 ≤ t ∧ t < F := by rw [HT.out, hF]; exact Mt.turn_bd c
  have hxx : 0 ≤ x ∧ x < F := by rw [hF]; exact c.1.2
  have hlead : (x + t) % F = y := by rw [HT.out, hF]; exact Mt.turn_lead c
  have HL : Hid ((x + t).tmod F = y) := by show (x + t).tmod F = y; rw [Int.tmod_eq_emod_of_nonneg (by omega)]; exact hlead
  have HF := Lib.hid hF
  have ht0 : ¬ t < 0 := by omega
  obtain ⟨D, hD⟩ : ∃ D : Nat, d = (D : Int) := ⟨d.toNat, by omega⟩
  subst hD
  have hD8 : D ≤ 8 := by omega
  have HFD : Hid (F = Mt.pw D) := by show F = Mt.pw D; rw [hF]; unfold Mt.full; simp
  clear c hlead hF
  go_wp2_with fail
  go_loopw [6, 7] (fun fv iv wr => ∃ (i : Nat) (z : Int), i ≤ D ∧ fv = .int .i64 z ∧ iv = .int .i64 i ∧ Hid (wr = w2) ∧ Hid (z = Mt.pw i)) (fun _ iv _ => D - (intOf iv).toNat)
  case atStart => exact ⟨0, 1, Nat.zero_le _, rfl, rfl, rfl, rfl⟩
  case round =>
    obtain ⟨i, z, hi, rfl, rfl, hw, hz⟩ := hrel
    obtain rfl := hw.out
    have hbz : 1 ≤ z ∧ z ≤ 100000000 := by rw [hz.out]; exact Mt.pw_bd i (by omega)
    by_cases hlt : i < D
    · have hltz : (i : Int) < (D : Int) := by omega
      go_wp2_with fail
      go_roundw
      case rel => exact ⟨i + 1, z * 10, by omega, rfl, by go_num, by first | exact rfl | exact (trivial : True), by show z * 10 = Mt.pw (i + 1); rw [hz.out]; rfl⟩
      case measure => simp [intOf]; omega
    · obtain rfl : i = D := by omega
      obtain rfl : z = F := by rw [hz.out, HFD.out]
      clear hz hw
      go_wp2_with fail
      refine (implTurn_any (i : Int) x y _).mono ?_
      rintro e w3 ⟨rfl, hb⟩
      rw [← HT.out]
      have HB2 : Hid (Below w.heap.size w w3) := HB.out.trans (hb.mono HB.out.size)
      clear hb
      have hz0 : (z == 0) = false := by simp; omega
      have hm1 : 0 ≤ (x + t).tmod z ∧ (x + t).tmod z < z := by rw [Int.tmod_eq_emod_of_nonneg (by omega)]; exact ⟨Int.emod_nonneg _ (by omega), Int.emod_lt_of_pos _ (by omega)⟩
      have hev : ((x + t) % z == y) = true := by rw [← Int.tmod_eq_emod_of_nonneg (by omega), HL.out]; simp
      go_wp2_with fail
      go_ret
      exact ⟨rfl, HB2.out⟩
end Go.Proofs.Ytjcdkaojdpcagaa
