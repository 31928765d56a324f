/-
  The contract of the model's sum of a frame.
-/
import Derived.Test.YtdlojhncbgfjbaaGreatDoorProg
import Derived.Test.YtdlojhncbgfjbaaGreatDoorCrcMath
import Derived.WalkKit
import Derived.WalkSpells
import Derived.WalkLawsBesides
import Derived.Below
import Derived.Lib.Hide
import Derived.Lib.Strings
namespace Go.Proofs.YtdlojhncbgfjbaaGreatDoor
open Go.RowKit

namespace Crc
theorem xor_byte (n : Nat) (c : UInt8) (h : n < 65536) : bits .xor .i64 (n : Int) ((c.toNat : Int) * 256) = ((n ^^^ c.toNat * 256 : Nat) : Int) := by
  have := c.toNat_lt
  have e : ((c.toNat : Int) * 256) = ((c.toNat * 256 : Nat) : Int) := by omega
  rw [e, i64_xor _ _ (by omega) (by omega)]
theorem xor_poly (n : Nat) (h : n < 65536) : bits .xor .i64 ((n : Int) * 2) 69665 = (((2 * n) ^^^ 69665 : Nat) : Int) := by
  have e : ((n : Int) * 2) = ((2 * n : Nat) : Int) := by omega
  have e2 : (69665 : Int) = ((69665 : Nat) : Int) := rfl
  rw [e, e2, i64_xor _ _ (by omega) (by omega)]
theorem bit_big (n : Nat) (h : 65536 ≤ 2 * n) : bit n = (2 * n) ^^^ 69665 := by unfold bit; rw [if_pos h]
theorem bit_small (n : Nat) (h : ¬ 65536 ≤ 2 * n) : bit n = 2 * n := by unfold bit; rw [if_neg h]
end Crc

set_option maxRecDepth 100000 in
set_option maxHeartbeats 1000000 in
theorem specSum_any (s : ByteArray) (hs : s.size ≤ 281474976710656) (w : World) :
    Calls Tryz.prog 36 #[.string s] w fun e w' => e = .returned (.int .i64 (Crc.sum s.data.toList)) ∧ w' = w := by
  go_enter Tryz.func36, Tryz.ntmps36
  go_wp2_with fail
  go_loop [3, 4, 5] (fun nv iv _ => ∃ (n k : Nat), k ≤ s.size ∧ iv = .int .i64 k ∧ nv = .int .i64 n ∧ n < 65536 ∧ Hid (n = Crc.sum (s.data.toList.take k))) (fun _ iv _ => s.size - (intOf iv).toNat)
  case atStart => exact ⟨65535, 0, Nat.zero_le _, rfl, rfl, by decide, by show _ = _; rw [List.take_zero]; rfl⟩
  case round =>
    obtain ⟨n, k, hk, rfl, rfl, hn, hsum⟩ := hrel
    by_cases hlt : k < s.size
    · have hltz : (k : Int) < (s.size : Int) := by omega
      have hx := Crc.xor_byte n (s[k]'hlt) hn
      have hc : (((s[k]'hlt).toNat : Nat) : Int) < 256 := by have := (s[k]'hlt).toNat_lt; omega
      have hst : Hid (Crc.sum (s.data.toList.take (k + 1)) = Crc.step n (s[k]'hlt).toNat) := by
        show _ = _
        rw [Crc.sum_take _ k (by simpa using hlt), ← hsum.out]; rfl
      have hm : n ^^^ (s[k]'hlt).toNat * 256 < 65536 := Crc.xor_lt _ _ hn (by have := (s[k]'hlt).toNat_lt; omega)
      unfold Crc.step at hst
      generalize hM : n ^^^ (s[k]'hlt).toNat * 256 = m at *
      clear hM
      go_wp2_with fail
      clear hx hsum
      go_loop [3, 5] (fun nv kv => ∃ (x j : Nat), j ≤ 8 ∧ kv = .int .i64 j ∧ nv = .int .i64 x ∧ x < 65536 ∧ Hid (x = Crc.bitsN j m)) (fun _ kv => 8 - (intOf kv).toNat)
      case atStart => exact ⟨m, 0, by omega, rfl, rfl, hm, by show _ = _; rfl⟩
      case round =>
        obtain ⟨x, j, hj, rfl, rfl, hx, hb⟩ := hrel
        by_cases hj8 : j < 8
        · have hjz : (j : Int) < 8 := by omega
          by_cases hbig : 65536 ≤ 2 * x
          · have hp := Crc.xor_poly x hx
            have hlt2 : (2 * x) ^^^ 69665 < 65536 := Crc.bit_hi x hbig hx
            have hb2 : Hid ((2 * x) ^^^ 69665 = Crc.bitsN (j + 1) m) := by
              show _ = _
              rw [← Crc.bit_big x hbig, hb.out]; rfl
            have hz : (65536 : Int) ≤ (x : Int) * 2 := by omega
            clear hbig
            generalize (2 * x) ^^^ 69665 = y at *
            go_wp2_with fail
            go_round
            case rel => exact ⟨y, j + 1, by omega, by go_num, by go_num, hlt2, hb2⟩
            case measure => simp [intOf]; omega
          · have hb2 : Hid (2 * x = Crc.bitsN (j + 1) m) := by
              show _ = _
              rw [← Crc.bit_small x hbig, hb.out]; rfl
            have hz : ¬ (65536 : Int) ≤ (x : Int) * 2 := by omega
            go_wp2_with fail
            go_round
            case rel => exact ⟨2 * x, j + 1, by omega, by go_num, by go_num, by omega, hb2⟩
            case measure => simp [intOf]; omega
        · obtain rfl : j = 8 := by omega
          go_wp2_with fail
          go_round
          case rel => exact ⟨x, k + 1, by omega, by go_num, rfl, hx, by show _ = _; rw [hst.out]; exact hb.out⟩
          case measure => simp [intOf]; omega
    · obtain rfl : k = s.size := by omega
      go_wp2_with fail
      go_ret
      have e : s.data.toList.take s.size = s.data.toList := List.take_of_length_le (Nat.le_refl _)
      exact ⟨by rw [hsum.out, e]; rfl, rfl⟩
end Go.Proofs.YtdlojhncbgfjbaaGreatDoor
