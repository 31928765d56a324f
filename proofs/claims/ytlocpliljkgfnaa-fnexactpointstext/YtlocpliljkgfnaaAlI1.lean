/-
  The program's tests of alarms, acts and values.
-/
import Derived.Test.YtlocpliljkgfnaaAlMem
import Derived.Test.YtlocpliljkgfnaaMtI1
import Derived.Test.YtlocpliljkgfnaaReg
namespace Go.Proofs.Ytlocpliljkgfnaa
open Go.RowKit Go.Deep

theorem alabout_any (n : Int) (w : World) :
    Calls Try.prog 39 #[.int .i64 n, .int .i64 1000000] w fun e w' => e = .returned (.bool (decide (Al.V n))) ∧ w' = w := by
  go_enter Try.func39, Try.ntmps39
  go_wp2_with fail
  all_goals
    go_ret
    exact ⟨by rw [show decide (Al.V n) = decide (-1000000 ≤ n ∧ n ≤ 1000000) from rfl]; congr 2; simp <;> omega, rfl⟩
set_option maxRecDepth 100000 in
set_option maxHeartbeats 2000000 in
theorem value_any (n : Int) (w : World) :
    Calls Try.prog 33 #[.int .i64 n] w fun e w' => e = .returned (.bool (decide (Al.V n))) ∧ Below w.heap.size w w' := by
  go_enter Try.func33, Try.ntmps33
  go_wp2_with fail
  refine (alabout_any _ _).mono ?_
  rintro e w1 ⟨rfl, rfl⟩
  by_cases c : Al.V n
  · have HE := Lib.hid (decide_eq_true c)
    rw [decide_eq_true c]
    clear c
    go_wp2_with fail
    go_ret
    exact ⟨by rw [HE.out]; rfl, Below.refl _ _⟩
  · have HE := Lib.hid (decide_eq_false c)
    rw [decide_eq_false c]
    clear c
    go_wp2_with fail
    go_ret
    exact ⟨by rw [HE.out]; rfl, Below.refl _ _⟩
set_option maxRecDepth 100000 in
set_option maxHeartbeats 2000000 in
theorem ivclose_any (i g : Nat) (f : Nat → Int) (w : World) (hg : w.rowIs g 44 1 (rowN [(.func (.func 33) #[] #[])])) :
    Calls Try.prog 52 #[.int .i64 (f i), .pointer (some ⟨g, 0, none⟩)] w fun e w' => e = .returned (.bool (!decide (Al.V (f i)))) ∧ Below w.heap.size w w' := by
  have g1 : w.cell? ⟨g, 0, none⟩ = some (.func (.func 33) #[] #[]) := hg.cell (i := 0) (by omega)
  clear hg
  go_enter Try.func52, Try.ntmps52
  go_wp2_with fail
  refine (value_any _ _).mono ?_
  rintro e w1 ⟨rfl, hb⟩
  have HB1 := Lib.hid hb
  clear hb
  by_cases c : Al.V (f i)
  · have HE := Lib.hid (decide_eq_true c)
    rw [decide_eq_true c]
    clear c
    go_wp2_with fail
    go_ret
    exact ⟨by rw [HE.out]; rfl, HB1.out⟩
  · have HE := Lib.hid (decide_eq_false c)
    rw [decide_eq_false c]
    clear c
    go_wp2_with fail
    go_ret
    exact ⟨by rw [HE.out]; rfl, HB1.out⟩
set_option maxRecDepth 100000 in
set_option maxHeartbeats 2000000 in
theorem ivindex_any (la : Option Addr) (n lk g : Nat) (f : Nat → Int) (w : World) (h : IsAt la n f w) (hs : n ≤ 1048576) (hg : w.rowIs g 44 1 (rowN [(.func (.func 33) #[] #[])])) :
    Calls Try.prog 53 #[.slice la n lk, .func (.func 52) #[] #[.pointer (some ⟨g, 0, none⟩)]] w fun e w' => (∃ z : Int, e = .returned (.int .i64 z) ∧ (0 ≤ z ↔ ¬ ∀ i, i < n → Al.V (f i))) ∧ Below w.heap.size w w' := by
  have H := Lib.hid h
  have HG := Lib.hid hg
  clear h hg
  go_enter Try.func53, Try.ntmps53
  go_wp2_with fail
  go_loopw [5, 8] (fun _ iv wr => ∃ (i : Nat), i ≤ n ∧ iv = .int .i64 i ∧ Hid (Below w.heap.size w wr) ∧ Hid (∀ i', i' < i → (fun i => Al.V (f i)) i')) (fun _ iv _ => n - (intOf iv).toNat)
  case atStart => exact ⟨0, Nat.zero_le _, rfl, Below.refl _ _, fun j hj => absurd hj (Nat.not_lt_zero _)⟩
  case round =>
    obtain ⟨i, hi, rfl, hB, hP⟩ := hrel
    by_cases hlt : i < n
    · have hltz : (i : Int) < (n : Int) := by omega
      obtain ⟨b, e, c0⟩ := (H.out.below hB.out).at1 hlt
      subst e
      go_wp2_with fail
      refine (ivclose_any i g f _ (nrow_below HG.out hB.out)).mono ?_
      rintro e w1 ⟨rfl, hb⟩
      have HB1 : Hid (Below w.heap.size w w1) := hB.out.trans (hb.mono hB.out.size)
      clear hb c0
      by_cases c : Al.V (f i)
      · rw [show (!decide (Al.V (f i))) = false by rw [decide_eq_true c]; rfl]
        have HC := Lib.hid c
        clear c
        go_wp2_with fail
        go_roundw
        case rel => exact ⟨i + 1, by omega, by go_num, HB1, fun j hj => by
          by_cases e : j = i
          · subst e; exact HC.out
          · exact hP.out j (by omega)⟩
        case measure => simp [intOf]; omega
      · rw [show (!decide (Al.V (f i))) = true by rw [decide_eq_false c]; rfl]
        have HC : Hid (¬ ∀ i, i < n → Al.V (f i)) := fun x => c (x i hlt)
        clear c
        go_wp2_with fail
        go_ret
        exact ⟨⟨_, rfl, ⟨fun _ => HC.out, fun _ => by omega⟩⟩, HB1.out⟩
    · obtain rfl : i = n := by omega
      go_wp2_with fail
      go_ret
      exact ⟨⟨_, rfl, ⟨fun x => absurd x (by omega), fun x => (by obtain ⟨j, hj, hk⟩ := x; exact absurd (hP.out j hj) hk)⟩⟩, hB.out⟩
set_option maxRecDepth 100000 in
set_option maxHeartbeats 2000000 in
theorem ivcontains_any (la : Option Addr) (n lk g : Nat) (f : Nat → Int) (w : World) (h : IsAt la n f w) (hs : n ≤ 1048576) (hg : w.rowIs g 44 1 (rowN [(.func (.func 33) #[] #[])])) :
    Calls Try.prog 51 #[.slice la n lk, .func (.func 52) #[] #[.pointer (some ⟨g, 0, none⟩)]] w fun e w' => e = .returned (.bool (Mt.dB (¬ ∀ i, i < n → Al.V (f i)))) ∧ Below w.heap.size w w' := by
  have H := Lib.hid h
  have HG := Lib.hid hg
  clear h hg
  go_enter Try.func51, Try.ntmps51
  go_wp2_with fail
  refine (ivindex_any la n lk g f _ H.out hs HG.out).mono ?_
  rintro e w1 ⟨⟨z, rfl, hz⟩, hb⟩
  have HB := Lib.hid hb
  have HZ := Lib.hid hz
  clear hb hz
  by_cases c : 0 ≤ z
  · have HE := Lib.hid (Mt.dB_tt (HZ.out.1 c))
    go_wp2_with fail
    go_ret
    exact ⟨by rw [HE.out]; simp <;> omega, HB.out⟩
  · have HE := Lib.hid (Mt.dB_ff (fun x => c (HZ.out.2 x)))
    go_wp2_with fail
    go_ret
    exact ⟨by rw [HE.out]; simp <;> omega, HB.out⟩
set_option maxRecDepth 100000 in
set_option maxHeartbeats 2000000 in
theorem ivall_any (la : Option Addr) (n lk : Nat) (f : Nat → Int) (w : World) (h : IsAt la n f w) (hs : n ≤ 1048576) :
    Calls Try.prog 47 #[.slice la n lk, (.func (.func 33) #[] #[])] w fun e w' => e = .returned (.bool (Mt.dB (∀ i, i < n → Al.V (f i)))) ∧ Below w.heap.size w w' := by
  have hmf : ∀ (fn : Fn) (first cap : Array Value) (w : World), (Instr.makeFunc fn first cap).run Try.prog w = .ok (.func fn first cap) w := fun _ _ _ _ => rfl
  obtain ⟨W, hW⟩ : ∃ W, W = w.alloc (.cells #[(.func (.func 33) #[] #[])] 44) := ⟨_, rfl⟩
  have R1 : Hid (W.rowIs w.heap.size 44 1 (rowN [(.func (.func 33) #[] #[])])) := by show World.rowIs _ _ _ _ _; rw [hW]; exact rowN_alloc w _ _
  have HB : Hid (Below w.heap.size w W) := by show Below _ _ _; rw [hW]; exact nbel_alloc _ _
  have H := Lib.hid (h.below HB.out)
  have HW := Lib.hid hW
  clear hW h
  go_enter Try.func47, Try.ntmps47
  go_wp2_with fail
  rw [← HW.out]
  clear HW
  refine (ivcontains_any la n lk w.heap.size f _ H.out hs R1.out).mono ?_
  rintro e w1 ⟨rfl, hb⟩
  have HB1 : Hid (Below w.heap.size w w1) := HB.out.trans (hb.mono HB.out.size)
  clear hb
  by_cases c : ∀ i, i < n → Al.V (f i)
  · have HE := Lib.hid (Mt.dB_tt c)
    rw [Mt.dB_ff (fun x => x c)]
    clear c
    go_wp2_with fail
    go_ret
    exact ⟨by rw [HE.out]; rfl, HB1.out⟩
  · have HE := Lib.hid (Mt.dB_ff c)
    rw [Mt.dB_tt c]
    clear c
    go_wp2_with fail
    go_ret
    exact ⟨by rw [HE.out]; rfl, HB1.out⟩
end Go.Proofs.Ytlocpliljkgfnaa
