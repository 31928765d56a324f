/-
  Two shifts that clash: the program's test.
-/
import Derived.Test.YtganlipebndeoaaJbSh
import Derived.Test.YtganlipebndeoaaReg
import Derived.Deep.QuietTactic
namespace Go.Proofs.Ytganlipebndeoaa
open Go.RowKit Go.Deep

theorem Pl.Rising.mono {n : Nat} {f : Nat → Int} {top : Nat} (h : Pl.Rising n f top) {i j : Nat} (hij : i < j) (hj : j < n) : f i < f j := by
  induction j with
  | zero => omega
  | succ j ih =>
    have h1 := (h (j + 1) hj).2 (by omega)
    simp only [Nat.add_sub_cancel] at h1
    by_cases e : i = j
    · subst e; exact h1
    · have := ih (by omega) (by omega); omega
/-- Two jobs have a row in common. -/
def Je.share (x y : Je) : Prop := ∃ i, i < x.rn ∧ Pl.Has y.rn y.R (x.R i)
/-- Two shifts clash. -/
def Jb.clash (x : Je) (s : Int) (y : Je) (t : Int) : Prop := (s < t + y.dy ∧ t < s + x.dy) ∧ x.share y
set_option maxRecDepth 100000 in
set_option maxHeartbeats 1000000 in
theorem jless_any (a b : Int) (w : World) :
    Calls Try.prog 53 #[.int .i64 a, .int .i64 b] w fun e w' => e = .returned (.bool (decide (a < b))) ∧ w' = w := by
  have h : Calls Try.prog 55 #[.int .i64 a] w fun e w' => e = .returned (.bool false) ∧ w' = w := by
    go_enter Try.func55, Try.ntmps55
    go_wp2_with fail
    go_ret
    exact ⟨rfl, rfl⟩
  have H := Lib.hid h
  clear h
  go_enter Try.func53, Try.ntmps53
  go_wp2_with fail
  refine H.out.mono ?_
  rintro e w1 ⟨rfl, hw⟩
  subst w1
  go_wp2_with fail
  go_ret
  exact ⟨rfl, rfl⟩
theorem jnan_any (a : Int) (w : World) :
    Calls Try.prog 54 #[.int .i64 a] w fun e w' => e = .returned (.bool false) ∧ w' = w := by
  go_enter Try.func54, Try.ntmps54
  go_wp2_with fail
  go_ret
  exact ⟨rfl, rfl⟩
set_option maxRecDepth 100000 in
set_option maxHeartbeats 2000000 in
theorem bsearch_any (a : Option Addr) (n cap : Nat) (f : Nat → Int) (x : Int) (top : Nat) (w : World) (h : IsAt a n f w) (hn : n ≤ 1048576) (hr : Pl.Rising n f top) :
    Calls Try.prog 51 #[.slice a n cap, .int .i64 x] w fun e w' => (∃ z : Int, e = .returned (.tuple #[.int .i64 z, .bool (dB (Pl.Has n f x))])) ∧ w' = w := by
  have H := Lib.hid h
  have HR := Lib.hid hr
  clear h hr
  go_enter Try.func51, Try.ntmps51
  go_wp2_with fail
  go_loopw [7, 8, 9] (fun iv jv _ wr => ∃ (i j : Nat), i ≤ j ∧ j ≤ n ∧ iv = .int .i64 i ∧ jv = .int .i64 j ∧ wr = w ∧ Hid ((∀ k, k < i → f k < x) ∧ ∀ k, j ≤ k → k < n → x ≤ f k)) (fun iv jv _ _ => (intOf jv).toNat - (intOf iv).toNat)
  case atStart => exact ⟨0, n, Nat.zero_le _, Nat.le_refl _, rfl, rfl, rfl, fun k hk => absurd hk (Nat.not_lt_zero _), fun k h1 h2 => by omega⟩
  case round =>
    obtain ⟨i, j, hij, hjn, rfl, rfl, rfl, hP⟩ := hrel
    by_cases hlt : i < j
    · have hltz : (i : Int) < (j : Int) := by omega
      obtain ⟨t, ht⟩ : ∃ t, t = (i + j) / 2 := ⟨_, rfl⟩
      have hsh : ((i : Int) + (j : Int)) / 2 = (t : Int) := by omega
      have htn : t < n := by omega
      have htz : (t : Int) < (n : Int) := by omega
      have HT : Hid (i ≤ t ∧ t < j) := by show _ ∧ _; omega
      obtain ⟨b, e, c0⟩ := H.out.at1 htn
      subst e
      clear ht
      go_wp2_with fail
      refine (jless_any _ _ _).mono ?_
      rintro e w1 ⟨rfl, hw⟩
      subst w1
      by_cases c : f t < x
      · have cd : decide (f t < x) = true := by simpa using c
        have HC := Lib.hid c
        rw [cd]
        clear c cd
        go_wp2_with fail
        go_roundw
        case rel => exact ⟨t + 1, j, by have := HT.out; omega, hjn, by go_num, rfl, trivial, fun k hk => by
          have c := HC.out
          by_cases e : k = t
          · subst e; exact c
          · have := HR.out.mono (show k < t by omega) htn; omega, hP.out.2⟩
        case measure => simp [intOf]; have := HT.out; omega
      · have cd : decide (f t < x) = false := by simpa using c
        have HC : Hid (x ≤ f t) := by show x ≤ f t; omega
        rw [cd]
        clear c cd
        go_wp2_with fail
        go_roundw
        case rel => exact ⟨i, t, HT.out.1, by omega, rfl, rfl, trivial, hP.out.1, fun k h1 h2 => by
          have c := HC.out
          by_cases e : k = t
          · subst e; exact c
          · have := HR.out.mono (show t < k by omega) h2; omega⟩
        case measure => simp [intOf]; have := HT.out; omega
    · obtain rfl : i = j := by omega
      by_cases hin : i < n
      · have hinz : (i : Int) < (n : Int) := by omega
        obtain ⟨b, e, c0⟩ := H.out.at1 hin
        subst e
        by_cases c : f i = x
        · have cd : (f i == x) = true := by simpa using c
          have HE : Hid (dB (Pl.Has n f x) = true) := dB_tt ⟨i, hin, c⟩
          clear c
          go_wp2_with fail
          exact bodyPost_ret (v := .tuple #[.int .i64 i, .bool true]) (by simp only [results, Try.results51]; simp [go_sem]) rfl ⟨⟨_, by rw [HE.out]⟩, rfl⟩
        · have cd : (f i == x) = false := by simpa using c
          have HE : Hid (dB (Pl.Has n f x) = false) := dB_ff (fun ⟨k, hk, e⟩ => by
            rcases Nat.lt_or_ge k i with h1 | h1
            · have := hP.out.1 k h1; omega
            · by_cases e2 : k = i
              · subst e2; exact c e
              · have := HR.out.mono (show i < k by omega) hk
                have := hP.out.2 i (Nat.le_refl _) hin
                omega)
          clear c
          go_wp2_with fail
          refine (jnan_any _ _).mono ?_
          rintro e w1 ⟨rfl, hw⟩
          subst w1
          go_wp2_with fail
          exact bodyPost_ret (v := .tuple #[.int .i64 i, .bool false]) (by simp only [results, Try.results51]; simp [go_sem]) rfl ⟨⟨_, by rw [HE.out]⟩, rfl⟩
      · have hinz : ¬ (i : Int) < (n : Int) := by omega
        have HE : Hid (dB (Pl.Has n f x) = false) := dB_ff (fun ⟨k, hk, e⟩ => by have := hP.out.1 k (by omega); omega)
        go_wp2_with fail
        exact bodyPost_ret (v := .tuple #[.int .i64 i, .bool false]) (by simp only [results, Try.results51]; simp [go_sem]) rfl ⟨⟨_, by rw [HE.out]⟩, rfl⟩
/-- The block of a shift. -/
abbrev shR (x : Je) (s : Int) : List Value := [.int .i64 x.dy, .int .i64 x.cw, .slice x.pa x.an x.ak, .slice x.pr x.rn x.rk, .int .i64 s]
theorem jrow5 {w : World} {g : Nat} {t : TypeId} {a b c d e : Value} (h : w.rowIs g t 5 (rowN [a, b, c, d, e])) : (w.cell? ⟨g, 0, none⟩ = some a ∧ w.cell? ⟨g, 1, none⟩ = some b ∧ w.cell? ⟨g, 2, none⟩ = some c ∧ w.cell? ⟨g, 3, none⟩ = some d ∧ w.cell? ⟨g, 4, none⟩ = some e) ∧ (w.frozen? ⟨g, 0, none⟩ = false ∧ w.frozen? ⟨g, 1, none⟩ = false ∧ w.frozen? ⟨g, 2, none⟩ = false ∧ w.frozen? ⟨g, 3, none⟩ = false ∧ w.frozen? ⟨g, 4, none⟩ = false) :=
  ⟨⟨h.cell (by omega), h.cell (by omega), h.cell (by omega), h.cell (by omega), h.cell (by omega)⟩, h.frozen 0, h.frozen 1, h.frozen 2, h.frozen 3, h.frozen 4⟩
set_option maxRecDepth 100000 in
set_option maxHeartbeats 2000000 in
theorem shares1_any (y : Je) (t : Int) (g : Nat) (z : Int) (w : World) (h : w.rowIs g 56 5 (rowN (shR y t))) (hl : IsAt y.pr y.rn y.R w) (hn : y.rn ≤ 1048576) (hr : Pl.Rising y.rn y.R 100) :
    Calls Try.prog 50 #[.int .i64 z, .pointer (some ⟨g, 0, none⟩)] w fun e w' => e = .returned (.bool (dB (Pl.Has y.rn y.R z))) ∧ w' = w := by
  obtain ⟨dy, cw, pa, an, ak, A, pr, rn, rk, R⟩ := y
  simp only at hl hn hr
  obtain ⟨⟨c0, c1, c2, c3, c4⟩, _⟩ := jrow5 h
  simp only at c0 c1 c2 c3 c4
  have lg := h.lt
  have HL := Lib.hid hl
  have HR := Lib.hid hr
  obtain ⟨q, hq⟩ : ∃ q, q = dB (Pl.Has rn R z) := ⟨_, rfl⟩
  have HBS : Hid (Calls Try.prog 51 #[.slice pr rn rk, .int .i64 z] w fun e w' => (∃ z : Int, e = .returned (.tuple #[.int .i64 z, .bool q])) ∧ w' = w) := by rw [hq]; exact bsearch_any pr rn rk R z 100 w hl hn hr
  show Calls _ _ _ _ fun e w' => e = .returned (.bool (dB (Pl.Has rn R z))) ∧ w' = w
  rw [← hq]
  clear hl hr h hq HL HR
  go_enter Try.func50, Try.ntmps50
  go_wp2_with fail
  refine HBS.out.mono ?_
  rintro e w1 ⟨⟨zi, rfl⟩, hw⟩
  subst w1
  go_wp2_with fail
  go_ret
  exact ⟨rfl, rfl⟩
set_option maxRecDepth 100000 in
set_option maxHeartbeats 2000000 in
theorem sharesIx_any (x y : Je) (t : Int) (g : Nat) (w : World) (hx : IsAt x.pr x.rn x.R w) (hxn : x.rn ≤ 1048576) (h : w.rowIs g 56 5 (rowN (shR y t))) (hl : IsAt y.pr y.rn y.R w) (hn : y.rn ≤ 1048576) (hr : Pl.Rising y.rn y.R 100) :
    Calls Try.prog 52 #[.slice x.pr x.rn x.rk, .func (.func 50) #[] #[.pointer (some ⟨g, 0, none⟩)]] w fun e w' => (∃ z : Int, e = .returned (.int .i64 z) ∧ (0 ≤ z ↔ x.share y)) ∧ w' = w := by
  have H := Lib.hid hx
  have HG := Lib.hid h
  have HL := Lib.hid hl
  have HR := Lib.hid hr
  obtain ⟨dy, cw, pa, an, ak, A, pr, rn, rk, R⟩ := x
  simp only at hxn H ⊢
  have HNS : Hid (∀ P : Prop, (P ↔ Je.share ⟨dy, cw, pa, an, ak, A, pr, rn, rk, R⟩ y) ↔ (P ↔ ∃ i, i < rn ∧ Pl.Has y.rn y.R (R i))) := fun _ => Iff.rfl
  clear hx h hl hr
  go_enter Try.func52, Try.ntmps52
  go_wp2_with fail
  go_loopw [5, 8] (fun _ iv wr => ∃ (i : Nat), i ≤ rn ∧ iv = .int .i64 i ∧ wr = w ∧ Hid (∀ j, j < i → ¬ Pl.Has y.rn y.R (R j))) (fun _ iv _ => rn - (intOf iv).toNat)
  case atStart => exact ⟨0, Nat.zero_le _, rfl, rfl, fun j hj => absurd hj (Nat.not_lt_zero _)⟩
  case round =>
    obtain ⟨i, hi, rfl, rfl, hP⟩ := hrel
    by_cases hlt : i < rn
    · have hltz : (i : Int) < (rn : Int) := by omega
      obtain ⟨b, e, c0⟩ := H.out.at1 hlt
      subst e
      go_wp2_with fail
      refine (shares1_any y t g (R i) _ HG.out HL.out hn HR.out).mono ?_
      rintro e w1 ⟨rfl, hw⟩
      subst w1
      by_cases c : Pl.Has y.rn y.R (R i)
      · rw [dB_tt c]
        have HC := Lib.hid c
        clear c
        go_wp2_with fail
        go_ret
        exact ⟨⟨_, rfl, ⟨fun _ => ⟨i, hlt, HC.out⟩, fun _ => by omega⟩⟩, rfl⟩
      · rw [dB_ff c]
        have HC := Lib.hid c
        clear c
        go_wp2_with fail
        go_roundw
        case rel => exact ⟨i + 1, by omega, by go_num, trivial, fun j hj => by
          by_cases e : j = i
          · subst e; exact HC.out
          · exact hP.out j (by omega)⟩
        case measure => simp [intOf]; omega
    · obtain rfl : i = rn := by omega
      go_wp2_with fail
      go_ret
      exact ⟨⟨_, rfl, ⟨fun x => absurd x (by omega), fun ⟨j, hj, x⟩ => absurd x (hP.out j hj)⟩⟩, rfl⟩
set_option maxRecDepth 100000 in
set_option maxHeartbeats 2000000 in
theorem sharesRow_any (x y : Je) (s t : Int) (w : World) (hx : IsAt x.pr x.rn x.R w) (hxn : x.rn ≤ 1048576) (hl : IsAt y.pr y.rn y.R w) (hn : y.rn ≤ 1048576) (hr : Pl.Rising y.rn y.R 100) :
    Calls Try.prog 45 #[shV x s, shV y t] w fun e w' => e = .returned (.bool (dB (x.share y))) ∧ Below w.heap.size w w' := by
  obtain ⟨W, hW⟩ : ∃ W, W = (w.alloc (.cells #[.int .i64 x.dy, .int .i64 x.cw, .slice x.pa x.an x.ak, .slice x.pr x.rn x.rk, .int .i64 s] 56)).alloc (.cells #[.int .i64 y.dy, .int .i64 y.cw, .slice y.pa y.an y.ak, .slice y.pr y.rn y.rk, .int .i64 t] 56) := ⟨_, rfl⟩
  have HB : Hid (Below w.heap.size w W) := by show Below _ _ _; rw [hW]; exact (nbel_alloc _ _).alloc (by simp) _
  have HY : Hid (W.rowIs (w.heap.size + 1) 56 5 (rowN (shR y t))) := by show W.rowIs _ _ _ _; rw [hW]; exact rowN_alloc' (by simp) _ _
  have HX := Lib.hid (hx.below HB.out)
  have HL := Lib.hid (hl.below HB.out)
  have HR := Lib.hid hr
  have HW := Lib.hid hW
  have HCF : Hid (∀ z : Int, (0 ≤ z ↔ x.share y) → (decide (0 ≤ z) = dB (x.share y))) := fun z hz => by
    by_cases c : 0 ≤ z
    · rw [dB_tt (hz.1 c)]; simpa using c
    · rw [dB_ff (fun k => c (hz.2 k))]; simpa using c
  clear hx hl hr hW
  go_enter Try.func45, Try.ntmps45
  go_wp2_with fail
  rw [← HW.out]
  clear HW
  have HCC : Calls Try.prog 49 #[.slice x.pr x.rn x.rk, .func (.func 50) #[] #[.pointer (some ⟨w.heap.size + 1, 0, none⟩)]] W fun e w' => e = .returned (.bool (dB (x.share y))) ∧ w' = W := by
    go_enter Try.func49, Try.ntmps49
    go_wp2_with fail
    refine (sharesIx_any x y t (w.heap.size + 1) _ HX.out hxn HY.out HL.out hn HR.out).mono ?_
    rintro e w1 ⟨⟨z, rfl, hz⟩, hw⟩
    subst w1
    have HZ := Lib.hid (HCF.out z hz)
    clear hz
    go_wp2_with fail
    go_ret
    exact ⟨by rw [← HZ.out]; rfl, rfl⟩
  refine HCC.mono ?_
  rintro e w1 ⟨rfl, hw⟩
  subst w1
  go_wp2_with fail
  go_ret
  exact ⟨rfl, HB.out⟩
end Go.Proofs.Ytganlipebndeoaa
