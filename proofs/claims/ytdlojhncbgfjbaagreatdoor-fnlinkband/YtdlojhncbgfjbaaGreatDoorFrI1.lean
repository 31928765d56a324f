/-
  The contract of the program's sum of bytes.
-/
import Derived.Test.YtdlojhncbgfjbaaGreatDoorFrSum
namespace Go.Proofs.YtdlojhncbgfjbaaGreatDoor
open Go.RowKit

namespace Crc
theorem u32_byte (n : Nat) (c : UInt8) (h : n < 65536) : bits .xor .u32 (n : Int) ((c.toNat : Int) * 256) = ((n ^^^ c.toNat * 256 : Nat) : Int) := by
  have := c.toNat_lt
  have e : ((c.toNat : Int) * 256) = ((c.toNat * 256 : Nat) : Int) := by omega
  rw [e, u32_xor_nat _ _ (by omega) (by omega)]
theorem u32_poly (n : Nat) (h : n < 65536) : bits .xor .u32 ((n : Int) * 2) 69665 = (((2 * n) ^^^ 69665 : Nat) : Int) := by
  have e : ((n : Int) * 2) = ((2 * n : Nat) : Int) := by omega
  have e2 : (69665 : Int) = ((69665 : Nat) : Int) := rfl
  rw [e, e2, u32_xor_nat _ _ (by omega) (by omega)]
end Crc

set_option maxRecDepth 100000 in
set_option maxHeartbeats 1000000 in
theorem sumBytes_any (l : List UInt8) (a : Option Addr) (b o c : Nat) (hl : l.length ≤ 1048576) (w : World) (ha : l ≠ [] → a = some ⟨b, o, none⟩) (hc : ∀ j (h : j < l.length), w.cell? ⟨b, o + j, none⟩ = some (.int .u8 l[j].toNat)) :
    Calls Tryz.prog 109 #[.slice a l.length c] w fun e w' => e = .returned (.int .u32 (Crc.sum l)) ∧ w' = w := by
  have HC := Lib.hid hc
  clear hc
  go_enter Tryz.func109, Tryz.ntmps109
  go_wp2_with fail
  go_loop [3, 5, 8] (fun nv _ iv => ∃ (n k : Nat), k ≤ l.length ∧ iv = .int .i64 k ∧ nv = .int .u32 n ∧ n < 65536 ∧ Hid (n = Crc.sum (l.take k))) (fun _ _ iv => l.length - (intOf iv).toNat)
  case atStart => exact ⟨65535, 0, Nat.zero_le _, rfl, rfl, by decide, by show _ = _; rw [List.take_zero]; rfl⟩
  case round =>
    obtain ⟨n, k, hk, rfl, rfl, hn, hsum⟩ := hrel
    by_cases hlt : k < l.length
    · have hltz : (k : Int) < (l.length : Int) := by omega
      obtain rfl := ha (fun e => by subst e; simp at hlt)
      have hcell := HC.out k hlt
      have hx := Crc.u32_byte n (l[k]'hlt) hn
      have hcl : (((l[k]'hlt).toNat : Nat) : Int) < 256 := by have := (l[k]'hlt).toNat_lt; omega
      have hst : Hid (Crc.sum (l.take (k + 1)) = Crc.step n (l[k]'hlt).toNat) := by
        show _ = _
        rw [Crc.sum_take _ k hlt, ← hsum.out]
      have hm : n ^^^ (l[k]'hlt).toNat * 256 < 65536 := Crc.xor_lt _ _ hn (by have := (l[k]'hlt).toNat_lt; omega)
      unfold Crc.step at hst
      generalize hM : n ^^^ (l[k]'hlt).toNat * 256 = m at *
      clear hM
      go_wp2_with fail
      clear hx hsum
      go_loop [3, 17] (fun nv kv => ∃ (x j : Nat), j ≤ 8 ∧ kv = .int .i64 j ∧ nv = .int .u32 x ∧ x < 65536 ∧ Hid (x = Crc.bitsN j m)) (fun _ kv => 8 - (intOf kv).toNat)
      case atStart => exact ⟨m, 0, by omega, rfl, rfl, hm, by show _ = _; rfl⟩
      case round =>
        obtain ⟨x, j, hj, rfl, rfl, hx, hb⟩ := hrel
        by_cases hj8 : j < 8
        · have hjz : (j : Int) < 8 := by omega
          by_cases hbig : 65536 ≤ 2 * x
          · have hp := Crc.u32_poly x hx
            have hlt2 : (2 * x) ^^^ 69665 < 65536 := Crc.bit_hi x hbig hx
            have hb2 : Hid ((2 * x) ^^^ 69665 = Crc.bitsN (j + 1) m) := by
              show _ = _
              rw [← Crc.bit_big x hbig, hb.out]; rfl
            have hz : (65536 : Int) ≤ (x : Int) * 2 := by omega
            clear hbig
            generalize (2 * x) ^^^ 69665 = y at *
            go_wp2_with fail
            go_round
            case rel => exact ⟨y, j + 1, by omega, by go_num, by go_num, hlt2, hb2⟩
            case measure => simp [intOf]; omega
          · have hb2 : Hid (2 * x = Crc.bitsN (j + 1) m) := by
              show _ = _
              rw [← Crc.bit_small x hbig, hb.out]; rfl
            have hz : ¬ (65536 : Int) ≤ (x : Int) * 2 := by omega
            go_wp2_with fail
            go_round
            case rel => exact ⟨2 * x, j + 1, by omega, by go_num, by go_num, by omega, hb2⟩
            case measure => simp [intOf]; omega
        · obtain rfl : j = 8 := by omega
          go_wp2_with fail
          go_round
          case rel => exact ⟨x, k + 1, by omega, by go_num, rfl, hx, by show _ = _; rw [hst.out]; exact hb.out⟩
          case measure => simp [intOf]; omega
    · obtain rfl : k = l.length := by omega
      go_wp2_with fail
      go_ret
      exact ⟨by rw [hsum.out, List.take_length]; rfl, rfl⟩
end Go.Proofs.YtdlojhncbgfjbaaGreatDoor
