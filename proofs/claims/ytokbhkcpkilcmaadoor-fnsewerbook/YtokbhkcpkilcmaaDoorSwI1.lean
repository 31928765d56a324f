/-
  The contracts of the program's tests of sewers and storms.
-/
import Derived.Test.YtokbhkcpkilcmaaDoorSwMem
import Derived.Test.YtokbhkcpkilcmaaDoorAw
namespace Go.Proofs.YtokbhkcpkilcmaaDoor
open Go.RowKit Go.Deep

set_option maxHeartbeats 400000 in
theorem within_any (x m : Int) (b : Bool) (hb : b = true ↔ (0 ≤ x ∧ x ≤ m)) (w : World) :
    Calls Tryd.prog 61 #[.int .i64 x, .int .i64 m] w fun e w' => e = .returned (.bool b) ∧ w' = w := by
  obtain rfl : b = decide (0 ≤ x ∧ x ≤ m) := by
    cases b with
    | true => exact (decide_eq_true (hb.1 rfl)).symm
    | false => exact (decide_eq_false (fun h => by have := hb.2 h; cases this)).symm
  exact awithin_any x m w
set_option maxRecDepth 100000 in
set_option maxHeartbeats 2000000 in
theorem amounts_any (r : Sw.Rc) (w : World) :
    Calls Tryd.prog 50 #[rcV r] w fun e w' => BoolEnd (Sw.Amounts r) e ∧ Below w.heap.size w w' := by
  obtain ⟨b1, h1⟩ := bool_of (0 ≤ r.rm ∧ r.rm ≤ 1000000)
  obtain ⟨b2, h2⟩ := bool_of (0 ≤ r.fw ∧ r.fw ≤ 1000000)
  obtain ⟨b3, h3⟩ := bool_of (0 ≤ r.lp ∧ r.lp ≤ 1000000)
  obtain ⟨b4, h4⟩ := bool_of (0 ≤ r.st ∧ r.st ≤ r.rm)
  have H1 := Lib.hid h1
  have H2 := Lib.hid h2
  have H3 := Lib.hid h3
  have H4 := Lib.hid h4
  clear h1 h2 h3 h4
  have hbl : Below w.heap.size w (w.alloc (.cells #[.int .i64 r.kd, .int .i64 r.st, .int .i64 r.rm, .int .i64 r.fw, .int .i64 r.lp, .int .i64 r.dn] 55)) := (Below.refl _ _).alloc (Nat.le_refl _) _
  have HB := Lib.hid hbl
  clear hbl
  by_cases k1 : 1 ≤ r.kd
  · by_cases k2 : r.kd ≤ 3
    · have K1 := Lib.hid k1
      have K2 := Lib.hid k2
      go_enter Tryd.func50, Tryd.ntmps50
      go_wp2_with fail
      refine (within_any _ _ b1 H1.out _).mono ?_
      rintro e w1 ⟨rfl, rfl⟩
      cases b1 with
      | false =>
        go_wp2_with fail
        go_ret
        exact ⟨.ff (fun h => by have := H1.out.2 h.2.1; cases this), HB.out⟩
      | true =>
        go_wp2_with fail
        refine (within_any _ _ b2 H2.out _).mono ?_
        rintro e w1 ⟨rfl, rfl⟩
        cases b2 with
        | false =>
          go_wp2_with fail
          go_ret
          exact ⟨.ff (fun h => by have := H2.out.2 h.2.2.1; cases this), HB.out⟩
        | true =>
          go_wp2_with fail
          refine (within_any _ _ b3 H3.out _).mono ?_
          rintro e w1 ⟨rfl, rfl⟩
          cases b3 with
          | false =>
            go_wp2_with fail
            go_ret
            exact ⟨.ff (fun h => by have := H3.out.2 h.2.2.2.1; cases this), HB.out⟩
          | true =>
            go_wp2_with fail
            refine (within_any _ _ b4 H4.out _).mono ?_
            rintro e w1 ⟨rfl, rfl⟩
            cases b4 with
            | false =>
              go_wp2_with fail
              go_ret
              exact ⟨.ff (fun h => by have := H4.out.2 h.2.2.2.2; cases this), HB.out⟩
            | true =>
              go_wp2_with fail
              go_ret
              exact ⟨.tt ⟨⟨K1.out, K2.out⟩, (by have := H1.out; simpa using this), (by have := H2.out; simpa using this), (by have := H3.out; simpa using this), (by have := H4.out; simpa using this)⟩, HB.out⟩
    · have K2 := Lib.hid k2
      go_enter Tryd.func50, Tryd.ntmps50
      go_wp2_with fail
      go_ret
      exact ⟨BoolEnd.ff (P := Sw.Amounts r) (fun h => by have h1 := K2.out; have h2 := h.1.2; omega), HB.out⟩
  · have K1 := Lib.hid k1
    go_enter Tryd.func50, Tryd.ntmps50
    go_wp2_with fail
    go_ret
    exact ⟨BoolEnd.ff (P := Sw.Amounts r) (fun h => by have h1 := K1.out; have h2 := h.1.1; omega), HB.out⟩

set_option maxRecDepth 100000 in
set_option maxHeartbeats 1000000 in
theorem down_any (d : Int) (i n : Nat) (w : World) :
    Calls Tryd.prog 51 #[.int .i64 d, .int .i64 i, .int .i64 n] w fun e w' => BoolEnd (Sw.DownOk n i d) e ∧ w' = w := by
  by_cases h1 : d = -1
  · go_enter Tryd.func51, Tryd.ntmps51
    go_wp2_with fail
    go_ret
    exact ⟨.tt (Or.inl h1), rfl⟩
  · have e1 : (d == -1) = false := by simp [h1]
    by_cases h2 : (i : Int) < d
    · by_cases h3 : d < (n : Int)
      · go_enter Tryd.func51, Tryd.ntmps51
        go_wp2_with fail
        go_ret
        exact ⟨.tt (Or.inr ⟨h2, h3⟩), rfl⟩
      · go_enter Tryd.func51, Tryd.ntmps51
        go_wp2_with fail
        go_ret
        exact ⟨BoolEnd.ff (P := Sw.DownOk n i d) (fun h => by rcases h with h | h <;> omega), rfl⟩
    · go_enter Tryd.func51, Tryd.ntmps51
      go_wp2_with fail
      go_ret
      exact ⟨BoolEnd.ff (P := Sw.DownOk n i d) (fun h => by rcases h with h | h <;> omega), rfl⟩

set_option maxRecDepth 100000 in
set_option maxHeartbeats 2000000 in
theorem implRight_any (a : Option Addr) (n cap : Nat) (rs : Nat → Sw.Rc) (w : World) (h : RcsAt a n rs w) :
    Calls Tryd.prog 31 #[.slice a n cap] w fun e w' => BoolEnd (Sw.Right n rs) e ∧ Below w.heap.size w w' := by
  by_cases hn1 : n = 0
  · subst hn1
    go_enter Tryd.func31, Tryd.ntmps31
    go_wp2_with fail
    go_ret
    exact ⟨.ff (fun h => by have := h.1; omega), Below.refl _ _⟩
  have hz : ¬ (n : Int) = 0 := by omega
  have hzb : ((n : Int) == 0) = false := by simp; omega
  have hzb2 : (n == 0) = false := by simp; omega
  by_cases hn2 : 40 < n
  · have hz2 : (40 : Int) < (n : Int) := by omega
    go_enter Tryd.func31, Tryd.ntmps31
    go_wp2_with fail
    go_ret
    exact ⟨.ff (fun h => by have := h.1; omega), Below.refl _ _⟩
  have hz2 : ¬ (40 : Int) < (n : Int) := by omega
  have H := Lib.hid h
  clear h
  go_enter Tryd.func31, Tryd.ntmps31
  go_wp2_with fail
  go_loopw [15] (fun iv wr => ∃ (i : Nat), i ≤ n ∧ iv = .int .i64 i ∧ Hid (Below w.heap.size w wr) ∧ Hid (∀ j, j < i → Sw.Amounts (rs j) ∧ Sw.DownOk n j (rs j).dn)) (fun iv _ => n - (intOf iv).toNat)
  case atStart => exact ⟨0, Nat.zero_le _, rfl, Below.refl _ _, fun j hj => absurd hj (Nat.not_lt_zero _)⟩
  case round =>
    obtain ⟨i, hi, rfl, hB, hP⟩ := hrel
    by_cases hlt : i < n
    · have hltz : (i : Int) < (n : Int) := by omega
      obtain ⟨b, rfl, c0, c1, c2, c3, c4, c5⟩ := (H.out.below hB.out).at_ hlt
      go_wp2_with fail
      refine (amounts_any (rs i) _).mono ?_
      rintro e w1 ⟨⟨b1, rfl, hb1⟩, hbl⟩
      have hbl2 : Below wr.heap.size wr w1 := ((Below.refl _ _).alloc (Nat.le_refl _) _).trans (hbl.mono (by simp))
      have HB1 : Hid (Below w.heap.size w w1) := hB.out.trans (hbl2.mono hB.out.size)
      have c6 : w1.cell? ⟨wr.heap.size, 5, none⟩ = some (.int .i64 (rs i).dn) := (hbl.cell (p := ⟨wr.heap.size, 5, none⟩) (by simp)).trans (by simp [go_sem])
      have K1 := Lib.hid hb1
      clear hbl hbl2 c0 c1 c2 c3 c4 c5 hB hb1
      cases b1 with
      | false =>
        go_wp2_with fail
        go_ret
        exact ⟨.ff (fun h => by have := K1.out.2 (h.2 i hlt).1; cases this), HB1.out⟩
      | true =>
        go_wp2_with fail
        refine (down_any (rs i).dn i n _).mono ?_
        rintro e w2 ⟨⟨b2, rfl, hb2⟩, rfl⟩
        have K2 := Lib.hid hb2
        clear hb2 c6
        cases b2 with
        | false =>
          go_wp2_with fail
          go_ret
          exact ⟨.ff (fun h => by have := K2.out.2 (h.2 i hlt).2; cases this), HB1.out⟩
        | true =>
          go_wp2_with fail
          go_roundw
          case rel =>
            refine ⟨i + 1, by omega, by go_num, HB1, fun j hj => ?_⟩
            by_cases e : j = i
            · subst e; exact ⟨(by have := K1.out; simpa using this), (by have := K2.out; simpa using this)⟩
            · exact hP.out j (by omega)
          case measure => simp [intOf]; omega
    · obtain rfl : i = n := by omega
      go_wp2_with fail
      go_ret
      exact ⟨.tt ⟨⟨by omega, by omega⟩, hP.out⟩, hB.out⟩
theorem flowsRv_any (a : Option Addr) (m cap : Nat) (f : Nat → Int) (w : World) (h : IntsAt a m f w) (hm : m ≤ 4194304) :
    Calls Tryd.prog 63 #[.slice a m cap] w fun e w' => BoolEnd (Sw.RainOk m f) e ∧ w' = w :=
  (flows_raw a m cap f w h hm).mono fun _ _ ⟨⟨b, he, hb⟩, hw⟩ => ⟨⟨b, he, hb⟩, hw⟩
set_option maxRecDepth 100000 in
set_option maxHeartbeats 2000000 in
theorem rainRight_any (a : Option Addr) (m cap n : Nat) (f : Nat → Int) (w : World) (h : IntsAt a m f w) (hm : m ≤ 4194304) :
    Calls Tryd.prog 54 #[.slice a m cap, .int .i64 n] w fun e w' => BoolEnd (m = n ∧ Sw.RainOk n f) e ∧ w' = w := by
  by_cases hmn : m = n
  · subst hmn
    have H := Lib.hid h
    clear h
    go_enter Tryd.func54, Tryd.ntmps54
    go_wp2_with fail
    refine (flowsRv_any a m cap f _ H.out hm).mono ?_
    rintro e w1 ⟨⟨b, rfl, hb⟩, rfl⟩
    have HB := Lib.hid hb
    clear hb
    go_wp2_with fail
    go_ret
    exact ⟨⟨b, rfl, ⟨fun h => ⟨by first | rfl | trivial, HB.out.1 h⟩, fun h => HB.out.2 h.2⟩⟩, rfl⟩
  · have hz : ¬ (m : Int) = (n : Int) := by omega
    have hz2 : ((m : Int) == (n : Int)) = false := by simp; omega
    have hz3 : (m == n) = false := by simp; omega
    go_enter Tryd.func54, Tryd.ntmps54
    go_wp2_with fail
    go_ret
    exact ⟨.ff (fun h => hmn h.1), rfl⟩
end Go.Proofs.YtokbhkcpkilcmaaDoor
