/-
  The contract of the model's reader of a number.
-/
import Derived.Test.YtdlojhncbgfjbaaGreatDoorReadMath
import Derived.Test.YtdlojhncbgfjbaaGreatDoorDecW
import Derived.Lib.Strings
namespace Go.Proofs.YtdlojhncbgfjbaaGreatDoor
open Go.RowKit

/-- What l01Num must give. -/
def M.NumTo (t : List UInt8) (n : Int) (b : Bool) : Prop :=
  -9999999999 ≤ n ∧ n ≤ 9999999999 ∧ (b = true → Lib.itoa n = t) ∧ ∀ m : Int, -2147483647 ≤ m → m ≤ 2147483647 → Lib.itoa m = t → n = m ∧ b = true

/-- The ending of l01Num. -/
def NumEnd (t : List UInt8) (e : Ending) : Prop := ∃ n b, M.NumTo t n b ∧ e = .returned (.tuple #[.int .i64 n, .bool b])

theorem M.num_no (t : List UInt8) (h : (M.digs t).length < 1 ∨ 10 < (M.digs t).length ∨ ∃ c ∈ M.digs t, c.toNat < 48 ∨ 57 < c.toNat) : M.NumTo t 0 false := by
  refine ⟨by omega, by omega, (fun k => by cases k), fun m h1 h2 e => ?_⟩
  exfalso
  subst e
  have a := M.digs_len m h1 h2
  have b := M.digs_digit m
  rcases h with h | h | ⟨c, hc, h⟩
  · omega
  · omega
  · have := b c hc; omega
theorem M.num_yes (t u : List UInt8) (n : Int) (b : Bool) (hn : n = M.sval t) (h1 : -9999999999 ≤ n) (h2 : n ≤ 9999999999) (hu : u = Lib.itoa n) (hb : b = (u == t)) : M.NumTo t n b := by
  subst hb hu
  refine ⟨h1, h2, fun k => beq_iff_eq.1 k, fun m _ _ e => ?_⟩
  subst e
  rw [M.sval_itoa] at hn
  subst hn
  exact ⟨rfl, by simp⟩
theorem M.head_of (s : ByteArray) (h : 0 < s.size) : s.data.toList.head? = some (s[0]'h) := by
  rw [List.head?_eq_getElem?, List.getElem?_eq_getElem (by simpa using h)]
  rfl
theorem M.at_of (s : ByteArray) (k : Nat) (h : k < s.size) : s.data.toList[k]'(by simpa using h) = s[k]'h := rfl
theorem M.head_int {s : ByteArray} {h : 0 < s.size} : ((((s[0]'h).toNat : Int) == 45) = true) ↔ s.data.toList.head? = some 45 := by
  rw [M.head_of s h]
  have e : (45 : UInt8).toNat = 45 := by decide
  constructor
  · intro k
    have k2 : (s[0]'h).toNat = 45 := by simp at k; omega
    rw [show s[0]'h = 45 from UInt8.toNat_inj.1 (k2.trans e.symm)]
  · intro k
    have k2 := Option.some.inj k
    rw [k2]; decide
theorem M.valN_nine (l : List UInt8) (k : Nat) (hd : ∀ c ∈ l.take k, c.toNat ≤ 57) (hk : k ≤ 9) : M.valN 0 (l.take k) ≤ 999999999 := by
  have h := M.valN_lt (l.take k) hd k
  rw [List.take_take, Nat.min_self] at h
  have : 10 ^ k ≤ 10 ^ 9 := Nat.pow_le_pow_right (by omega) hk
  omega

theorem num_empty (s : ByteArray) (hs : s.size = 0) (w : World) :
    Calls Tryz.prog 23 #[.string s] w fun e w' => NumEnd s.data.toList e ∧ Below w.heap.size w w' := by
  have H : M.NumTo s.data.toList 0 false := M.num_no _ (Or.inl (by
    have e : s.data.toList = [] := by apply List.eq_nil_of_length_eq_zero; simpa using hs
    rw [e]; decide))
  have HN := Lib.hid H
  clear H
  go_enter Tryz.func23, Tryz.ntmps23
  go_wp2_with fail
  go_ret2
  exact ⟨⟨0, false, HN.out, rfl⟩, Below.refl _ _⟩

theorem num_plain_len (s : ByteArray) (h0 : 0 < s.size) (hh : (((s[0]'h0).toNat : Int) == 45) = false) (hl : s.size < 1 ∨ 10 < s.size) (w : World) :
    Calls Tryz.prog 23 #[.string s] w fun e w' => NumEnd s.data.toList e ∧ Below w.heap.size w w' := by
  have H : M.NumTo s.data.toList 0 false := M.num_no _ (by
    unfold M.digs
    have hz : s.data.toList.length = s.size := rfl
    rw [if_neg (fun k => by have := (M.head_int (h := h0)).2 k; rw [hh] at this; cases this)]
    skip
    omega)
  have HN := Lib.hid H
  clear H
  have c1 : (0 : Int) < (s.size : Int) := by omega
  rcases hl with hl | hl
  · have c2 : ((s.size : Nat) : Int) < 1 := by omega
    go_enter Tryz.func23, Tryz.ntmps23
    go_wp2_with fail
    go_ret2
    exact ⟨⟨0, false, HN.out, rfl⟩, Below.refl _ _⟩
  · have c2 : ¬ ((s.size : Nat) : Int) < 1 := by omega
    have c3 : (10 : Int) < ((s.size : Nat) : Int) := by omega
    clear hl
    go_enter Tryz.func23, Tryz.ntmps23
    go_wp2_with fail
    go_ret2
    exact ⟨⟨0, false, HN.out, rfl⟩, Below.refl _ _⟩

set_option maxRecDepth 100000 in
set_option maxHeartbeats 1000000 in
theorem num_plain (s : ByteArray) (h0 : 0 < s.size) (hh : (((s[0]'h0).toNat : Int) == 45) = false) (_hl1 : 1 ≤ s.size) (hl2 : s.size ≤ 10) (w : World) :
    Calls Tryz.prog 23 #[.string s] w fun e w' => NumEnd s.data.toList e ∧ Below w.heap.size w w' := by
  have hD : M.digs s.data.toList = (s).data.toList := by
    unfold M.digs
    rw [if_neg (fun k => by have := (M.head_int (h := h0)).2 k; rw [hh] at this; cases this)]
    skip
  have HS : Hid (M.sval s.data.toList = (M.valN 0 (s).data.toList : Int)) := by
    show _ = _
    unfold M.sval
    rw [hD]
    rw [if_neg (fun k => by have := (M.head_int (h := h0)).2 k; rw [hh] at this; cases this)]
  have HD := Lib.hid hD
  clear hD
  have c1 : (0 : Int) < (s.size : Int) := by omega
  have c2 : ¬ ((s.size : Nat) : Int) < 1 := by omega
  have c3 : ¬ (10 : Int) < ((s.size : Nat) : Int) := by omega
  go_enter Tryz.func23, Tryz.ntmps23
  go_wp2_with fail
  go_loop [6, 7] (fun nv iv => ∃ (n : Int) (k : Nat), k ≤ s.size ∧ nv = .int .i64 n ∧ iv = .int .i64 k ∧ 0 ≤ n ∧ n ≤ 9999999999 ∧ Hid (n = (M.valN 0 (s.data.toList.take k) : Int)) ∧ Hid (∀ c ∈ s.data.toList.take k, c.toNat ≤ 57)) (fun _ iv => s.size - (intOf iv).toNat)
  case atStart => exact ⟨0, 0, Nat.zero_le _, rfl, rfl, by omega, by omega, by show _ = _; rfl, by show ∀ _, _; simp⟩
  case round =>
    obtain ⟨n, k, hk, rfl, rfl, hn0, hn1, hv, hd⟩ := hrel
    by_cases hlt : k < s.size
    · have hltz : (k : Int) < (s.size : Int) := by omega
      have hn9 : n ≤ 999999999 := by
        have := M.valN_nine s.data.toList k hd.out (by omega)
        have := hv.out; omega
      have hm : s[k]'hlt ∈ s.data.toList := by rw [← M.at_of s k hlt]; exact List.getElem_mem _
      have HM := Lib.hid hm
      have htk : Hid (s.data.toList.take (k + 1) = s.data.toList.take k ++ [s[k]'hlt]) := by
        show _ = _
        rw [List.take_succ_eq_append_getElem (by simpa using hlt)]; rfl
      clear hm
      by_cases a1 : (((s[k]'hlt).toNat : Nat) : Int) < 48
      · have HN : Hid (M.NumTo s.data.toList 0 false) := M.num_no _ (Or.inr (Or.inr ⟨_, by rw [HD.out]; exact HM.out, Or.inl (by omega)⟩))
        go_wp2_with fail
        go_ret2
        exact ⟨⟨0, false, HN.out, rfl⟩, Below.refl _ _⟩
      · by_cases a2 : (57 : Int) < (((s[k]'hlt).toNat : Nat) : Int)
        · have HN : Hid (M.NumTo s.data.toList 0 false) := M.num_no _ (Or.inr (Or.inr ⟨_, by rw [HD.out]; exact HM.out, Or.inr (by omega)⟩))
          go_wp2_with fail
          go_ret2
          exact ⟨⟨0, false, HN.out, rfl⟩, Below.refl _ _⟩
        · go_wp2_with fail
          go_round
          case rel =>
            refine ⟨10 * n + (((s[k]'hlt).toNat : Int) - 48), k + 1, by omega, ?_, by go_num, by omega, by omega, ?_, ?_⟩
            · first | rfl | go_num | skip
            · show _ = _
              rw [htk.out, M.valN_append]
              have := hv.out; omega
            · show ∀ c ∈ _, _
              rw [htk.out]
              intro c hc
              rcases List.mem_append.1 hc with hc | hc
              · exact hd.out c hc
              · obtain rfl := List.mem_singleton.1 hc
                omega
          case measure => simp [intOf]; omega
    · obtain rfl : k = s.size := by omega
      have hfull : s.data.toList.take s.size = s.data.toList := List.take_of_length_le (Nat.le_refl _)
      have HV : Hid (n = M.sval s.data.toList) := by
        show _ = _
        have := hv.out
        rw [hfull] at this
        rw [HS.out, ← this]
      clear hfull
      go_wp2_with fail
      refine (specDec_wide _ _ (by omega) (by omega)).mono ?_
      rintro e w1 ⟨rfl, hb⟩
      have HB : Hid (Below w.heap.size w w1) := hb
      clear hb
      go_wp2_with fail
      go_ret2
      exact ⟨⟨n, _, M.num_yes _ _ _ _ HV.out (by omega) (by omega) rfl (by rw [ByteArray.toList_eq] <;> rfl), rfl⟩, HB.out⟩

theorem num_minus_len (s : ByteArray) (h0 : 0 < s.size) (hh : (((s[0]'h0).toNat : Int) == 45) = true) (hl : (s.size - 1) < 1 ∨ 10 < (s.size - 1)) (w : World) :
    Calls Tryz.prog 23 #[.string s] w fun e w' => NumEnd s.data.toList e ∧ Below w.heap.size w w' := by
  have H : M.NumTo s.data.toList 0 false := M.num_no _ (by
    unfold M.digs
    have hz : s.data.toList.length = s.size := rfl
    rw [if_pos ((M.head_int (h := h0)).1 hh)]
    rw [List.length_tail]
    omega)
  have HN := Lib.hid H
  clear H
  have c1 : (0 : Int) < (s.size : Int) := by omega
  rcases hl with hl | hl
  · have c2 : (((s.size - 1) : Nat) : Int) < 1 := by omega
    go_enter Tryz.func23, Tryz.ntmps23
    go_wp2_with fail
    go_ret2
    exact ⟨⟨0, false, HN.out, rfl⟩, Below.refl _ _⟩
  · have c2 : ¬ (((s.size - 1) : Nat) : Int) < 1 := by omega
    have c3 : (10 : Int) < (((s.size - 1) : Nat) : Int) := by omega
    clear hl
    go_enter Tryz.func23, Tryz.ntmps23
    go_wp2_with fail
    go_ret2
    exact ⟨⟨0, false, HN.out, rfl⟩, Below.refl _ _⟩

set_option maxRecDepth 100000 in
set_option maxHeartbeats 1000000 in
theorem num_minus (s : ByteArray) (h0 : 0 < s.size) (hh : (((s[0]'h0).toNat : Int) == 45) = true) (_hl1 : 1 ≤ (s.size - 1)) (hl2 : (s.size - 1) ≤ 10) (w : World) :
    Calls Tryz.prog 23 #[.string s] w fun e w' => NumEnd s.data.toList e ∧ Below w.heap.size w w' := by
  have hD : M.digs s.data.toList = (s.extract 1 s.size).data.toList := by
    unfold M.digs
    rw [if_pos ((M.head_int (h := h0)).1 hh)]
    rw [Lib.extract_data, List.take_of_length_le (by simp), List.drop_one]
  have HS : Hid (M.sval s.data.toList = -(M.valN 0 (s.extract 1 s.size).data.toList : Int)) := by
    show _ = _
    unfold M.sval
    rw [hD]
    rw [if_pos ((M.head_int (h := h0)).1 hh)]
  have HD := Lib.hid hD
  clear hD
  have c1 : (0 : Int) < (s.size : Int) := by omega
  have c2 : ¬ (((s.size - 1) : Nat) : Int) < 1 := by omega
  have c3 : ¬ (10 : Int) < (((s.size - 1) : Nat) : Int) := by omega
  go_enter Tryz.func23, Tryz.ntmps23
  go_wp2_with fail
  obtain ⟨D, hDs⟩ : ∃ D : ByteArray, D = s.extract 1 s.size := ⟨_, rfl⟩
  have hsz : D.size = s.size - 1 := by
    rw [hDs, show (s.extract 1 s.size).size = (s.extract 1 s.size).data.toList.length from rfl, Lib.extract_data, List.take_of_length_le (by simp), List.length_drop]; rfl
  rw [← hDs] at HS HD ⊢
  clear hDs
  go_loop [6, 7] (fun nv iv => ∃ (n : Int) (k : Nat), k ≤ D.size ∧ nv = .int .i64 n ∧ iv = .int .i64 k ∧ 0 ≤ n ∧ n ≤ 9999999999 ∧ Hid (n = (M.valN 0 (D.data.toList.take k) : Int)) ∧ Hid (∀ c ∈ D.data.toList.take k, c.toNat ≤ 57)) (fun _ iv => D.size - (intOf iv).toNat)
  case atStart => exact ⟨0, 0, Nat.zero_le _, rfl, rfl, by omega, by omega, by show _ = _; rfl, by show ∀ _, _; simp⟩
  case round =>
    obtain ⟨n, k, hk, rfl, rfl, hn0, hn1, hv, hd⟩ := hrel
    by_cases hlt : k < D.size
    · have hltz : (k : Int) < (D.size : Int) := by omega
      have hn9 : n ≤ 999999999 := by
        have := M.valN_nine D.data.toList k hd.out (by omega)
        have := hv.out; omega
      have hm : D[k]'hlt ∈ D.data.toList := by rw [← M.at_of D k hlt]; exact List.getElem_mem _
      have HM := Lib.hid hm
      have htk : Hid (D.data.toList.take (k + 1) = D.data.toList.take k ++ [D[k]'hlt]) := by
        show _ = _
        rw [List.take_succ_eq_append_getElem (by simpa using hlt)]; rfl
      clear hm
      by_cases a1 : (((D[k]'hlt).toNat : Nat) : Int) < 48
      · have HN : Hid (M.NumTo s.data.toList 0 false) := M.num_no _ (Or.inr (Or.inr ⟨_, by rw [HD.out]; exact HM.out, Or.inl (by omega)⟩))
        go_wp2_with fail
        go_ret2
        exact ⟨⟨0, false, HN.out, rfl⟩, Below.refl _ _⟩
      · by_cases a2 : (57 : Int) < (((D[k]'hlt).toNat : Nat) : Int)
        · have HN : Hid (M.NumTo s.data.toList 0 false) := M.num_no _ (Or.inr (Or.inr ⟨_, by rw [HD.out]; exact HM.out, Or.inr (by omega)⟩))
          go_wp2_with fail
          go_ret2
          exact ⟨⟨0, false, HN.out, rfl⟩, Below.refl _ _⟩
        · go_wp2_with fail
          go_round
          case rel =>
            refine ⟨10 * n + (((D[k]'hlt).toNat : Int) - 48), k + 1, by omega, ?_, by go_num, by omega, by omega, ?_, ?_⟩
            · first | rfl | go_num | skip
            · show _ = _
              rw [htk.out, M.valN_append]
              have := hv.out; omega
            · show ∀ c ∈ _, _
              rw [htk.out]
              intro c hc
              rcases List.mem_append.1 hc with hc | hc
              · exact hd.out c hc
              · obtain rfl := List.mem_singleton.1 hc
                omega
          case measure => simp [intOf]; omega
    · obtain rfl : k = D.size := by omega
      have hfull : D.data.toList.take D.size = D.data.toList := List.take_of_length_le (Nat.le_refl _)
      have HV : Hid (-n = M.sval s.data.toList) := by
        show _ = _
        have := hv.out
        rw [hfull] at this
        rw [HS.out, ← this]
      clear hfull
      go_wp2_with fail
      refine (specDec_wide _ _ (by omega) (by omega)).mono ?_
      rintro e w1 ⟨rfl, hb⟩
      have HB : Hid (Below w.heap.size w w1) := hb
      clear hb
      go_wp2_with fail
      go_ret2
      exact ⟨⟨-n, _, M.num_yes _ _ _ _ HV.out (by omega) (by omega) rfl (by rw [ByteArray.toList_eq] <;> rfl), rfl⟩, HB.out⟩

theorem num_any (s : ByteArray) (w : World) :
    Calls Tryz.prog 23 #[.string s] w fun e w' => NumEnd s.data.toList e ∧ Below w.heap.size w w' := by
  by_cases h0 : s.size = 0
  · exact num_empty s h0 w
  · have h0' : 0 < s.size := by omega
    cases hh : (((s[0]'h0').toNat : Int) == 45)
    · by_cases hl : s.size < 1 ∨ 10 < s.size
      · exact num_plain_len s h0' hh hl w
      · exact num_plain s h0' hh (by omega) (by omega) w
    · by_cases hl : s.size - 1 < 1 ∨ 10 < s.size - 1
      · exact num_minus_len s h0' hh hl w
      · exact num_minus s h0' hh (by omega) (by omega) w
end Go.Proofs.YtdlojhncbgfjbaaGreatDoor
