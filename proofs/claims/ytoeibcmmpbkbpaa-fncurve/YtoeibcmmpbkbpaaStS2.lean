/-
  The contracts of the model's levels and volumes along a curve.
-/
import Derived.Test.YtoeibcmmpbkbpaaStS1
namespace Go.Proofs.Ytoeibcmmpbkbpaa
open Go.RowKit Go.Deep

theorem swrap_id {x : Int} (h1 : -9223372036854775808 ≤ x) (h2 : x ≤ 9223372036854775807) : IntKind.i64.wrap x = x := by simp [IntKind.wrap, IntKind.bits, IntKind.signed]; omega
theorem srise_a {n : Nat} {c : Nat → St.Pr} (h : St.CurveOk n c) : St.RiseTo n (fun i => (c i).a) := fun j i h1 h2 => (St.rises_all h j i h1 h2).1
theorem srise_b {n : Nat} {c : Nat → St.Pr} (h : St.CurveOk n c) : St.RiseTo n (fun i => (c i).b) := fun j i h1 h2 => (St.rises_all h j i h1 h2).2
theorem smid_bounds {x k0 k1 s0 s1 : Int} (h0 : k0 < x) (h1 : x ≤ k1) (hs : s0 < s1) :
    0 ≤ (x - k0) * (s1 - s0) ∧ (x - k0) * (s1 - s0) ≤ (k1 - k0) * (s1 - s0) ∧ 0 ≤ (x - k0) * (s1 - s0) / (k1 - k0) ∧ (x - k0) * (s1 - s0) / (k1 - k0) ≤ s1 - s0 := by
  have a1 : 0 ≤ (x - k0) * (s1 - s0) := Int.mul_nonneg (by omega) (by omega)
  have a2 : (x - k0) * (s1 - s0) ≤ (k1 - k0) * (s1 - s0) := Int.mul_le_mul_of_nonneg_right (by omega) (by omega)
  refine ⟨a1, a2, Int.ediv_nonneg a1 (by omega), ?_⟩
  have := Int.ediv_le_ediv (c := k1 - k0) (by omega) a2
  rwa [Int.mul_comm (k1 - k0), Int.mul_ediv_cancel _ (by omega)] at this

set_option maxRecDepth 100000 in
set_option maxHeartbeats 4000000 in
theorem sLevelAt_any (a : Option Addr) (n cap : Nat) (c : Nat → St.Pr) (x : Int) (w : World) (h : PrsAt a n c w) :
    Calls Try.prog 11 #[.slice a n cap, .int .i64 x] w fun e w' => (∃ z, e = .returned (.int .i64 z) ∧ (St.CurveOk n c → z = St.along n (fun i => (c i).b) (fun i => (c i).a) x) ∧ (¬ St.CurveOk n c → z = 0)) ∧ Gr w w' := by
  by_cases hbig : 400 < n
  · have hz : (400 : Int) < (n : Int) := by omega
    have hno : ¬ St.CurveOk n c := fun h => by have := h.1; omega
    have HNO := Lib.hid hno
    clear hno
    go_enter Try.func11, Try.ntmps11
    go_wp2_with fail
    go_ret
    exact ⟨⟨0, rfl, fun h => absurd h HNO.out, fun _ => rfl⟩, Gr.refl _⟩
  have hz : ¬ (400 : Int) < (n : Int) := by omega
  obtain ⟨b1, h1⟩ := bool_of (St.CurveOk n c)
  have K1 := Lib.hid h1
  have H := Lib.hid h
  clear h h1
  go_enter Try.func11, Try.ntmps11
  go_wp2_with fail
  refine ((sCurve_any a n cap c _ H.out).mono fun e w' ⟨g1, g2⟩ => ⟨g1.eq K1.out, g2⟩ : Calls Try.prog 24 #[.slice a n cap] w fun e w' => e = .returned (.bool b1) ∧ Gr w w').mono ?_
  rintro e W ⟨rfl, hG⟩
  have HG := Lib.hid hG
  cases b1 with
  | false =>
    clear hG
    go_wp2_with fail
    go_ret
    have hno : ¬ St.CurveOk n c := fun h => by have := K1.out.2 h; cases this
    exact ⟨⟨0, rfl, fun h => absurd h hno, fun _ => rfl⟩, HG.out⟩
  | true =>
  have hok : St.CurveOk n c := by have := K1.out; simpa using this
  obtain ⟨b, hab, hall⟩ := (H.out.below hG.bel).all (by have := hok.1; omega)
  subst hab
  have HALL := Lib.hid hall
  have HOK := Lib.hid hok
  have hn := hok.1
  have HKR := Lib.hid (srise_b hok)
  have HSR := Lib.hid (srise_a hok)
  obtain ⟨f0, f1⟩ := hall 0 (by omega)
  simp only [Nat.zero_mul] at f0 f1
  have hzn : (0 : Int) < (n : Int) := by omega
  clear hG hall hok
  by_cases hx : x ≤ (c 0).b
  · go_wp2_with fail
    go_ret
    exact ⟨⟨_, rfl, fun _ => (St.along_first (so := fun i => (c i).a) hn.1 HKR.out hx).symm, fun h => absurd HOK.out h⟩, HG.out⟩
  go_wp2_with fail
  clear f0 f1
  go_loopw [5] (fun iv wr => ∃ (i : Nat), 1 ≤ i ∧ i ≤ n ∧ iv = .int .i64 i ∧ Hid (Gr W wr) ∧ Hid (∀ j, j < i → (c j).b < x)) (fun iv _ => n - (intOf iv).toNat)
  case atStart =>
    refine ⟨1, Nat.le_refl _, by omega, rfl, Gr.refl _, fun j hj => ?_⟩
    obtain rfl : j = 0 := by omega
    omega
  case round =>
    obtain ⟨i, hi1, hi, rfl, hG, hP⟩ := hrel
    by_cases hlt : i < n
    · have hltz : (i : Int) < (n : Int) := by omega
      have hz1 : ((i : Int) - 1).toNat = i - 1 := by omega
      have hz3 : ¬ (i : Int) - 1 < 0 := by omega
      have hz4 : (i : Int) - 1 < (n : Int) := by omega
      have hz5 : (i : Int) ≤ 30 := by omega
      have hz6 : (1 : Int) ≤ (i : Int) := by omega
      obtain ⟨c0, c1⟩ := (HALL.out i hlt).block (hG.out.bel.block _ (HALL.out i hlt).lt)
      obtain ⟨d0, d1⟩ := (HALL.out (i - 1) (by omega)).block (hG.out.bel.block _ (HALL.out (i - 1) (by omega)).lt)
      have hlb : b < wr.heap.size := World.block_lt_of_cell? _ _ c0
      have HG2 : Hid (Gr W ((wr.alloc (.cells #[.int .i64 (c (i - 1)).a, .int .i64 (c (i - 1)).b] 30)).alloc (.cells #[.int .i64 (c i).a, .int .i64 (c i).b] 30))) := (hG.out.alloc _).alloc _
      by_cases hxi : x ≤ (c i).b
      · have hx0 : (c (i - 1)).b < x := hP.out (i - 1) (by omega)
        have hsl : (c (i - 1)).a < (c i).a := HSR.out i (i - 1) (by omega) (by omega)
        have FIN : Hid (St.along n (fun i => (c i).b) (fun i => (c i).a) x = (c (i - 1)).a + (x - (c (i - 1)).b) * ((c i).a - (c (i - 1)).a) / ((c i).b - (c (i - 1)).b)) := St.along_mid (so := fun i => (c i).a) HKR.out hi1 hlt hx0 hxi
        have bl := (HOK.out.2 (i - 1) (by omega)).1
        have bh := (HOK.out.2 i (by omega)).1
        obtain ⟨mb0, mb1, mb2, mb3⟩ := smid_bounds hx0 hxi hsl
        obtain ⟨⟨bl1, bl2⟩, bl3, bl4⟩ := bl
        obtain ⟨⟨bh1, bh2⟩, bh3, bh4⟩ := bh
        have hpr : ((c i).b - (c (i - 1)).b) * ((c i).a - (c (i - 1)).a) ≤ 1000000000 * 1000000000 := Int.mul_le_mul (by omega) (by omega) (by omega) (by omega)
        have hpr2 : (x - (c (i - 1)).b) * ((c i).a - (c (i - 1)).a) ≤ 1000000000000000000 := by omega
        have hw1 : IntKind.i64.wrap (x - (c (i - 1)).b) = x - (c (i - 1)).b := swrap_id (by omega) (by omega)
        have hw2 : IntKind.i64.wrap ((c i).a - (c (i - 1)).a) = (c i).a - (c (i - 1)).a := swrap_id (by omega) (by omega)
        have hw3 : IntKind.i64.wrap ((x - (c (i - 1)).b) * ((c i).a - (c (i - 1)).a)) = (x - (c (i - 1)).b) * ((c i).a - (c (i - 1)).a) := swrap_id (by omega) (by omega)
        have hw4 : IntKind.i64.wrap ((c i).b - (c (i - 1)).b) = (c i).b - (c (i - 1)).b := swrap_id (by omega) (by omega)
        have hw5 : ((x - (c (i - 1)).b) * ((c i).a - (c (i - 1)).a)).tdiv ((c i).b - (c (i - 1)).b) = (x - (c (i - 1)).b) * ((c i).a - (c (i - 1)).a) / ((c i).b - (c (i - 1)).b) := Int.tdiv_eq_ediv_of_nonneg mb0
        have hw6 : IntKind.i64.wrap ((x - (c (i - 1)).b) * ((c i).a - (c (i - 1)).a) / ((c i).b - (c (i - 1)).b)) = (x - (c (i - 1)).b) * ((c i).a - (c (i - 1)).a) / ((c i).b - (c (i - 1)).b) := swrap_id (by omega) (by omega)
        have hw7 : IntKind.i64.wrap ((c (i - 1)).a + (x - (c (i - 1)).b) * ((c i).a - (c (i - 1)).a) / ((c i).b - (c (i - 1)).b)) = (c (i - 1)).a + (x - (c (i - 1)).b) * ((c i).a - (c (i - 1)).a) / ((c i).b - (c (i - 1)).b) := swrap_id (by omega) (by omega)
        have hkd : 0 < (c i).b - (c (i - 1)).b := by omega
        have hkd2 : ¬ (c i).b - (c (i - 1)).b = 0 := by omega
        have hkd3 : ((c i).b - (c (i - 1)).b == 0) = false := by simp; omega
        clear mb1 hpr
        go_wp2_with fail
        go_quiet (fail)
        go_wp2_with fail
        go_ret
        exact ⟨⟨_, rfl, fun _ => FIN.out.symm, fun h => absurd HOK.out h⟩, HG.out.trans (HG2.out.drewN _)⟩
      · have N : Hid (∀ j, j < i + 1 → (c j).b < x) := fun j hj => by
          by_cases e : j = i
          · subst e; omega
          · exact hP.out j (by omega)
        go_wp2_with fail
        go_roundw
        case rel => exact ⟨i + 1, by omega, by omega, by go_num, HG2, N⟩
        case measure => simp [intOf]; omega
    · obtain rfl : i = n := by omega
      have hz1 : ((i : Int) - 1).toNat = i - 1 := by omega
      have hz3 : ¬ (i : Int) - 1 < 0 := by omega
      have hz4 : (i : Int) - 1 < (i : Int) := by omega
      have hz5 : (i : Int) ≤ 30 := by omega
      obtain ⟨d0, d1⟩ := (HALL.out (i - 1) (by omega)).block (hG.out.bel.block _ (HALL.out (i - 1) (by omega)).lt)
      go_wp2_with fail
      go_ret
      exact ⟨⟨_, rfl, fun _ => (St.along_last (so := fun i => (c i).a) hn.1 (fun j hj => hP.out j hj)).symm, fun h => absurd HOK.out h⟩, HG.out.trans hG.out⟩

end Go.Proofs.Ytoeibcmmpbkbpaa
