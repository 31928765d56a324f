/-
  The model's test of ways.
-/
import Derived.Test.YtipmjobhegpdgaaGreatDoorPlW2
import Derived.Test.YtipmjobhegpdgaaGreatDoorPlS1
namespace Go.Proofs.YtipmjobhegpdgaaGreatDoor
open Go.RowKit Go.Deep

set_option maxRecDepth 100000 in
set_option maxHeartbeats 1000000 in
theorem sother_any (n : Pl.Plan) (r : Nat) (x : Int) (w : World) :
    Calls Tryz.prog 52 #[.agg #[.int .i64 (n.R (r * 3)), .int .i64 (n.R (r * 3 + 1)), .int .i64 (n.R (r * 3 + 2))], .int .i64 x] w fun e w' => e = .returned (.int .i64 (Pl.oth n r x)) ∧ Below w.heap.size w w' := by
  unfold Pl.oth
  generalize n.R (r * 3) = f
  generalize n.R (r * 3 + 1) = t
  generalize n.R (r * 3 + 2) = v
  by_cases h1 : f = x
  · rw [if_pos h1]
    subst h1
    go_enter Tryz.func52, Tryz.ntmps52
    go_wp2_with fail
    go_ret
    exact ⟨rfl, nbel_alloc _ _⟩
  · rw [if_neg h1]
    have h1' : (f == x) = false := by simp [h1]
    clear h1
    by_cases h2 : t = x
    · rw [if_pos h2]
      subst h2
      go_enter Tryz.func52, Tryz.ntmps52
      go_wp2_with fail
      go_ret
      exact ⟨rfl, nbel_alloc _ _⟩
    · rw [if_neg h2]
      have h2' : (t == x) = false := by simp [h2]
      clear h2
      go_enter Tryz.func52, Tryz.ntmps52
      go_wp2_with fail
      go_ret
      exact ⟨rfl, nbel_alloc _ _⟩
set_option maxRecDepth 100000 in
set_option maxHeartbeats 1000000 in
theorem shas_any (a : Option Addr) (n cap : Nat) (f : Nat → Int) (x : Int) (w : World) (h : IsAt a n f w) (hn : n ≤ 1048576) :
    Calls Tryz.prog 61 #[.slice a n cap, .int .i64 x] w fun e w' => e = .returned (.bool (dB (Pl.Has n f x))) ∧ w' = w := by
  have H := Lib.hid h
  clear h
  go_enter Tryz.func61, Tryz.ntmps61
  go_wp2_with fail
  go_loopw [5] (fun iv wr => ∃ (i : Nat), i ≤ n ∧ iv = .int .i64 i ∧ wr = w ∧ Hid (∀ j, j < i → f j ≠ x)) (fun iv _ => n - (intOf iv).toNat)
  case atStart => exact ⟨0, Nat.zero_le _, rfl, rfl, fun j hj => absurd hj (Nat.not_lt_zero _)⟩
  case round =>
    obtain ⟨i, hi, rfl, rfl, hP⟩ := hrel
    by_cases hlt : i < n
    · have hltz : (i : Int) < (n : Int) := by omega
      obtain ⟨b, e, c0⟩ := H.out.at1 hlt
      subst e
      by_cases c : f i = x
      · have HC : Hid (dB (Pl.Has n f x) = true) := dB_tt ⟨i, hlt, c⟩
        have c' : (f i == x) = true := by simp [c]
        clear c
        go_wp2_with fail
        go_ret
        exact ⟨by rw [HC.out]; rfl, rfl⟩
      · have HC := Lib.hid c
        have c' : (f i == x) = false := by simp [c]
        clear c
        go_wp2_with fail
        go_roundw
        case rel => exact ⟨i + 1, by omega, by go_num, by trivial, fun j hj => by
          by_cases e : j = i
          · subst e; exact HC.out
          · exact hP.out j (by omega)⟩
        case measure => simp [intOf]; omega
    · obtain rfl : i = n := by omega
      have HC : Hid (dB (Pl.Has i f x) = false) := dB_ff (fun ⟨j, hj, e⟩ => hP.out j hj e)
      go_wp2_with fail
      go_ret
      exact ⟨by rw [HC.out]; rfl, rfl⟩
/-- A row that stands in one of the first ways. -/
noncomputable def Pl.uA (LN : Nat → Nat) (L : Nat → Nat → Int) (i r : Nat) : Bool := dB (∃ i', i' < i ∧ ∃ k, k < LN i' ∧ L i' k = (r : Int))
theorem Pl.uA_zero {LN : Nat → Nat} {L : Nat → Nat → Int} : Pl.uA LN L 0 = fun _ => false := by
  funext r; exact dB_ff (fun ⟨i, hi, _⟩ => by omega)
theorem Pl.uA_uW {p : Pl.Plan} {LN : Nat → Nat} {L : Nat → Nat → Int} {i r : Nat} (h : Pl.gd p r) : Pl.uA LN L i r = Pl.uW p LN L i r := dB_congr ⟨fun x => ⟨h, x⟩, fun x => x.2⟩
/-- .. or among the last rows of this one. -/
noncomputable def Pl.uB (u : Nat → Bool) (l : Nat → Int) (m q r : Nat) : Bool := u r || dB (∃ j, q ≤ j ∧ j < m ∧ l j = (r : Int))
theorem Pl.uB_start {u : Nat → Bool} {l : Nat → Int} {m : Nat} : Pl.uB u l m m = u := by
  funext r; unfold Pl.uB; rw [dB_ff (fun ⟨j, h1, h2, _⟩ => by omega)]; simp
theorem Pl.uB_next {u : Nat → Bool} {l : Nat → Int} {m q r : Nat} (hq : q < m) (hr : l q = (r : Int)) : updB (Pl.uB u l m (q + 1)) r true = Pl.uB u l m q := by
  funext j
  unfold updB Pl.uB
  by_cases e : j = r
  · subst e
    rw [if_pos rfl, dB_tt ⟨q, Nat.le_refl _, hq, hr⟩]; simp
  · rw [if_neg e]
    congr 1
    refine dB_congr ⟨fun ⟨x, h1, h2, h3⟩ => ⟨x, by omega, h2, h3⟩, fun ⟨x, h1, h2, h3⟩ => ⟨x, ?_, h2, h3⟩⟩
    by_cases ex : x = q
    · subst ex; rw [hr] at h3; omega
    · omega
theorem Pl.uB_end {LN : Nat → Nat} {L : Nat → Nat → Int} {i : Nat} : Pl.uB (Pl.uA LN L i) (L i) (LN i) 0 = Pl.uA LN L (i + 1) := by
  funext r
  unfold Pl.uB Pl.uA
  by_cases h1 : ∃ i', i' < i ∧ ∃ k, k < LN i' ∧ L i' k = (r : Int)
  · rw [dB_tt h1, dB_tt (show ∃ i', i' < i + 1 ∧ ∃ k, k < LN i' ∧ L i' k = (r : Int) by obtain ⟨j, hj, x⟩ := h1; exact ⟨j, by omega, x⟩)]; rfl
  · rw [dB_ff h1, Bool.false_or]
    refine dB_congr ⟨fun ⟨k, _, hk, e⟩ => ⟨i, by omega, k, hk, e⟩, fun ⟨j, hj, k, hk, e⟩ => ?_⟩
    by_cases ej : j = i
    · subst ej; exact ⟨k, Nat.zero_le _, hk, e⟩
    · exact absurd ⟨j, by omega, k, hk, e⟩ h1
/-- What the last rows of a way show. -/
structure Pl.Bk (p : Pl.Plan) (l : Nat → Int) (u : Nat → Bool) (m q : Nat) : Prop where
  rng : ∀ j, q ≤ j → j < m → 0 ≤ l j ∧ l j < p.rn
  fresh : ∀ j, q ≤ j → j < m → Pl.gd p (l j).toNat → u (l j).toNat = false ∧ ∀ i, j < i → i < m → l i ≠ l j
theorem Pl.bk_use {p : Pl.Plan} {LN : Nat → Nat} {L : Nat → Nat → Int} {i : Nat} : Pl.Bk p (L i) (Pl.uA LN L i) (LN i) 0 ↔ Pl.Use p (L i) (Pl.uW p LN L i) (LN i) := by
  constructor
  · intro h
    refine ⟨fun j hj => h.rng j (Nat.zero_le _) hj, fun j hj gd => ⟨?_, fun k hk e => ?_⟩⟩
    · rw [← Pl.uA_uW gd]; exact (h.fresh j (Nat.zero_le _) hj gd).1
    · exact (h.fresh k (Nat.zero_le _) (by omega) (by rw [e]; exact gd)).2 j hk hj e.symm
  · intro h
    refine ⟨fun j _ hj => h.rng j hj, fun j _ hj gd => ⟨?_, fun k hk hkm e => ?_⟩⟩
    · rw [Pl.uA_uW gd]; exact (h.fresh j hj gd).1
    · exact (h.fresh k hkm (by rw [e]; exact gd)).2 j hk e.symm
theorem Pl.back_low {p : Pl.Plan} (h : Pl.Right p) {l : Nat → Int} {m : Nat} (hI : ∀ k, k < m → 0 ≤ l k ∧ l k < p.rn) {x : Int} {k : Nat} (hk : k < m) (e : Pl.back p l m x (k + 1) < 0) : ¬ Pl.Has p.sn p.S (Pl.back p l m x m) := by
  have h2 := hI (m - 1 - k) (by omega)
  have h3 := (Pl.oth_ge h (r := (l (m - 1 - k)).toNat) (by omega) (Pl.back p l m x k)).1
  have h4 : Pl.back p l m x (k + 1) = -1 := by
    have : Pl.back p l m x (k + 1) = Pl.oth p (l (m - 1 - k)).toNat (Pl.back p l m x k) := rfl
    omega
  have h5 := Pl.back_neg h hI h4 (m - (k + 1)) (by omega)
  rw [show k + 1 + (m - (k + 1)) = m by omega] at h5
  rw [h5]
  exact Pl.has_neg h
end Go.Proofs.YtipmjobhegpdgaaGreatDoor
