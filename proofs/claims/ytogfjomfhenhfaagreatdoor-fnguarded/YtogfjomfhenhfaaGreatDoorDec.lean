/-
  The contract of the model's number in digits.
-/
import Derived.Test.YtogfjomfhenhfaaGreatDoorRight
import Derived.Lib.ItoaNum
import Derived.Laws.IdiomStrings
namespace Go.Proofs.YtogfjomfhenhfaaGreatDoor
open Go.RowKit

namespace M
/-- The digits of a number above nought; none of nought. -/
def dgs (u : Nat) : List UInt8 := if u = 0 then [] else Lib.decDigits u
theorem dgs_step (u : Nat) (h : u ≠ 0) : dgs u = dgs (u / 10) ++ [UInt8.ofNat (48 + u % 10)] := by
  unfold dgs
  rw [if_neg h]
  by_cases k : u < 10
  · rw [Lib.decDigits, dif_pos k, if_pos (by omega)]
    have : u % 10 = u := by omega
    rw [this]; rfl
  · rw [if_neg (by omega)]
    conv => lhs; rw [Lib.decDigits, dif_neg k]
theorem dgs_join (u : Nat) (h : u ≠ 0) (os D : List UInt8) (hd : dgs u ++ os = D) : dgs (u / 10) ++ (UInt8.ofNat (48 + u % 10) :: os) = D := by
  rw [← hd, dgs_step u h, List.append_assoc]; rfl
theorem ba_append (a b : Array UInt8) : (⟨a⟩ : ByteArray) ++ ⟨b⟩ = ⟨a ++ b⟩ := by
  apply ByteArray.ext; simp
theorem cons_str (c : UInt8) (os : List UInt8) : (⟨#[c]⟩ : ByteArray) ++ ⟨os.toArray⟩ = ⟨(c :: os).toArray⟩ := by
  rw [ba_append]; simp
/-- The sign of a digit. -/
def dch (d : Int) : UInt8 := UInt8.ofNat (48 + d.toNat)
theorem digit_nat (d : Int) (h0 : 0 ≤ d) (h1 : d < 10) : ((dch d).toNat : Int) = 48 + d := by
  unfold dch
  have : (UInt8.ofNat (48 + d.toNat)).toNat = 48 + d.toNat := by
    rw [UInt8.toNat_ofNat']
    omega
  omega
theorem dec_len (u : Nat) : (Lib.decDigits u).length ≤ u + 1 := by
  induction u using Nat.strongRecOn with
  | ind u ih =>
    rw [Lib.decDigits]
    by_cases k : u < 10
    · rw [dif_pos k]; simp
    · rw [dif_neg k]
      have := ih (u / 10) (by omega)
      simp
      omega
theorem os_len (u N : Nat) (os : List UInt8) (h : dgs u ++ os = Lib.decDigits N) : os.length ≤ N + 1 := by
  have h1 := congrArg List.length h
  rw [List.length_append] at h1
  have := dec_len N
  omega
end M

/-- One digit as a text. -/
theorem digit_text (d : Int) (h0 : 0 ≤ d) (h1 : d < 10) (wx : World) :
    (convert 22 9 (.slice (some ⟨wx.heap.size, 0, none⟩) 1 1)).run Tryz.prog (wx.alloc (.cells #[.int .u8 (48 + d)] 5)) = .ok (.string ⟨#[M.dch d]⟩) (wx.alloc (.cells #[.int .u8 (48 + d)] 5)) := by
  have := run_convert_bytes_back (P := Tryz.prog) (wx.alloc (.cells #[.int .u8 (48 + d)] 5)) 22 9 5 ⟨wx.heap.size, 0, none⟩ 1 [M.dch d] Tryz.underlying22 Tryz.underlying5 Tryz.underlying9 (fun j hj => by
    obtain rfl : j = 0 := by simpa using hj
    simp only [List.getElem_cons_zero]
    rw [M.digit_nat d h0 h1]
    simp [Addr.add])
  simpa using this

set_option maxRecDepth 100000 in
set_option maxHeartbeats 1000000 in
theorem dec_pos (N : Int) (w : World) (h1 : 0 < N) (h2 : N ≤ 2147483647) :
    Calls Tryz.prog 85 #[.int .i64 N] w fun e w' => e = .returned (.string ⟨(Lib.decDigits N.toNat).toArray⟩) ∧ Below w.heap.size w w' := by
  have h0 : (N == 0) = false := by simp; omega
  have hn : ¬ N < 0 := by omega
  go_enter Tryz.func85, Tryz.ntmps85
  go_wp2
  go_loopw [0, 4, 5] (fun a o _ wx => ∃ (n : Int) (os : List UInt8), 0 ≤ n ∧ n ≤ 2147483647 ∧ a = .int .i64 n ∧ o = .string ⟨os.toArray⟩ ∧ Hid (M.dgs n.toNat ++ os = Lib.decDigits N.toNat) ∧ w.heap.size ≤ wx.heap.size ∧ Hid (Below w.heap.size w wx)) (fun a _ _ _ => (intOf a).toNat)
  case atStart => exact ⟨N, [], by omega, h2, rfl, rfl, by show _ = _; unfold M.dgs; rw [if_neg (by omega)]; simp, Nat.le_refl _, Below.refl _ _⟩
  case round =>
    obtain ⟨n, os, hn0, hn1, rfl, rfl, hd, hz, hB⟩ := hrel
    by_cases k : n = 0
    · have k' : (n != 0) = false := by simp [k]
      subst k
      go_wp2
      go_ret
      exact ⟨by have := hd.out; simp [M.dgs] at this; rw [this]; rfl, hB.out⟩
    · have k' : (n != 0) = true := by simp [k]
      have hm0 : 0 ≤ n % 10 := Int.emod_nonneg _ (by omega)
      have hm1 : n % 10 < 10 := Int.emod_lt_of_pos _ (by omega)
      have hcv := digit_text (n % 10) hm0 hm1
      have hol := M.os_len _ _ os hd.out
      have hol2 : os.length ≤ 2147483648 := by omega
      clear hol
      have K : Hid (n ≠ 0) := k
      clear k
      go_wp2_with fail
      go_roundw
      case rel =>
        refine ⟨n / 10, M.dch (n % 10) :: os, ?_, ?_, rfl, ?_, ?_, ?_, ?_⟩
        · omega
        · omega
        · exact congrArg Value.string (M.cons_str _ _)
        · show _ = _
          have : (n / 10).toNat = n.toNat / 10 := by omega
          have e2 : M.dch (n % 10) = UInt8.ofNat (48 + n.toNat % 10) := by
            unfold M.dch
            have : (n % 10).toNat = n.toNat % 10 := by omega
            rw [this]
          rw [this, e2]
          exact M.dgs_join n.toNat (by have := K.out; omega) os _ hd.out
        · simp; omega
        · exact hB.out.alloc hz _
      case measure => have := K.out; simp [intOf]; omega

set_option maxRecDepth 100000 in
set_option maxHeartbeats 1000000 in
theorem dec_neg (N : Int) (w : World) (h1 : N < 0) (h2 : -2147483647 ≤ N) :
    Calls Tryz.prog 85 #[.int .i64 N] w fun e w' => e = .returned (.string ⟨(45 :: Lib.decDigits N.natAbs).toArray⟩) ∧ Below w.heap.size w w' := by
  have h0 : (N == 0) = false := by simp; omega
  go_enter Tryz.func85, Tryz.ntmps85
  go_wp2
  go_loopw [0, 4, 5] (fun a o _ wx => ∃ (n : Int) (os : List UInt8), n ≤ 0 ∧ -2147483647 ≤ n ∧ a = .int .i64 n ∧ o = .string ⟨os.toArray⟩ ∧ Hid (M.dgs n.natAbs ++ os = Lib.decDigits N.natAbs) ∧ w.heap.size ≤ wx.heap.size ∧ Hid (Below w.heap.size w wx)) (fun a _ _ _ => (intOf a).natAbs)
  case atStart => exact ⟨N, [], by omega, h2, rfl, rfl, by show _ = _; unfold M.dgs; rw [if_neg (by omega)]; simp, Nat.le_refl _, Below.refl _ _⟩
  case round =>
    obtain ⟨n, os, hn0, hn1, rfl, rfl, hd, hz, hB⟩ := hrel
    by_cases k : n = 0
    · have k' : (n != 0) = false := by simp [k]
      subst k
      have hos : Hid (os = Lib.decDigits N.natAbs) := by have := hd.out; simp [M.dgs] at this; exact this
      have hol := M.os_len _ _ os hd.out
      have hol2 : os.length ≤ 2147483648 := by omega
      clear hol
      go_wp2
      go_ret
      exact ⟨by rw [← hos.out]; exact congrArg (fun x => Ending.returned (Value.string x)) (M.cons_str _ _), hB.out⟩
    · have k' : (n != 0) = true := by simp [k]
      have hol := M.os_len _ _ os hd.out
      have hol2 : os.length ≤ 2147483648 := by omega
      clear hol
      have K : Hid (n ≠ 0) := k
      clear k
      have tm : Hid (n.tmod 10 = -((n.natAbs % 10 : Nat) : Int)) := by
        show n.tmod 10 = _
        have e : n = -((n.natAbs : Nat) : Int) := by omega
        rw [e, Int.neg_tmod, Int.natAbs_neg, Int.natAbs_natCast]
        rw [Int.tmod_eq_emod_of_nonneg (by omega)]
        omega
      have hr0 : n.tmod 10 ≤ 0 := by have := tm.out; omega
      have hr1 : -10 < n.tmod 10 := by have := tm.out; omega
      have hq : Hid ((n.tdiv 10).natAbs = n.natAbs / 10) := by show _ = _; rw [Int.natAbs_tdiv]; rfl
      have hq0 : n.tdiv 10 ≤ 0 := by
        have e : n = -((n.natAbs : Nat) : Int) := by omega
        rw [e, Int.neg_tdiv, Int.tdiv_eq_ediv_of_nonneg (by omega)]
        omega
      have hq1 : -2147483647 ≤ n.tdiv 10 := by have := hq.out; omega
      by_cases c : n.tmod 10 < 0
      · have ht := tm.out
        have HT : Hid (n.tmod 10 = -((n.natAbs % 10 : Nat) : Int)) := ht
        clear ht tm
        have hcv := digit_text (-(n.tmod 10)) (by omega) (by omega)
        go_wp2_with fail
        go_roundw
        case rel =>
          refine ⟨n.tdiv 10, M.dch (-(n.tmod 10)) :: os, ?_, ?_, rfl, ?_, ?_, ?_, ?_⟩
          · omega
          · omega
          · exact congrArg Value.string (M.cons_str _ _)
          · show _ = _
            have e2 : M.dch (-(n.tmod 10)) = UInt8.ofNat (48 + n.natAbs % 10) := by
              unfold M.dch
              have : (-(n.tmod 10)).toNat = n.natAbs % 10 := by have := HT.out; omega
              rw [this]
            rw [hq.out, e2]
            exact M.dgs_join n.natAbs (by have := K.out; omega) os _ hd.out
          · simp; omega
          · exact hB.out.alloc hz _
        case measure => show (n.tdiv 10).natAbs < n.natAbs; rw [hq.out]; have := K.out; omega
      · have c0 : n.tmod 10 = 0 := by omega
        have HT : Hid (n.tmod 10 = -((n.natAbs % 10 : Nat) : Int)) := tm
        have c1 : 0 ≤ n.tmod 10 := by omega
        clear tm c0
        have hcv := digit_text (n.tmod 10) (by omega) (by omega)
        go_wp2_with fail
        go_roundw
        case rel =>
          refine ⟨n.tdiv 10, M.dch (n.tmod 10) :: os, ?_, ?_, rfl, ?_, ?_, ?_, ?_⟩
          · omega
          · omega
          · exact congrArg Value.string (M.cons_str _ _)
          · show _ = _
            have e2 : M.dch (n.tmod 10) = UInt8.ofNat (48 + n.natAbs % 10) := by
              unfold M.dch
              have : (n.tmod 10).toNat = n.natAbs % 10 := by have := HT.out; omega
              rw [this]
            rw [hq.out, e2]
            exact M.dgs_join n.natAbs (by have := K.out; omega) os _ hd.out
          · simp; omega
          · exact hB.out.alloc hz _
        case measure => show (n.tdiv 10).natAbs < n.natAbs; rw [hq.out]; have := K.out; omega

theorem specDec_any (N : Int) (w : World) (h1 : -2147483647 ≤ N) (h2 : N ≤ 2147483647) :
    Calls Tryz.prog 85 #[.int .i64 N] w fun e w' => e = .returned (.string ⟨(Lib.itoa N).toArray⟩) ∧ Below w.heap.size w w' := by
  unfold Lib.itoa
  by_cases k : N < 0
  · rw [if_pos k]; exact dec_neg N w k h1
  · rw [if_neg k]
    by_cases k0 : N = 0
    · subst k0
      have e : Lib.decDigits (Int.toNat 0) = [48] := by rw [Lib.decDigits]; rfl
      rw [e]
      go_enter Tryz.func85, Tryz.ntmps85
      go_wp2
      go_ret
      exact ⟨rfl, Below.refl _ _⟩
    · exact dec_pos N w (by omega) h2
end Go.Proofs.YtogfjomfhenhfaaGreatDoor
