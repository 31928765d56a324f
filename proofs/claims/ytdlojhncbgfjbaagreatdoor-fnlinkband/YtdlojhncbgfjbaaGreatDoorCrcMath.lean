/-
  The sum of a frame, in whole numbers: no program in this text.
-/
import Derived.Laws.BitsAllLaws
namespace Go.Proofs.YtdlojhncbgfjbaaGreatDoor

namespace Crc
theorem i64_xor (a b : Nat) (ha : a < 9223372036854775808) (hb : b < 9223372036854775808) : bits .xor .i64 (a : Int) (b : Int) = ((a ^^^ b : Nat) : Int) := by
  have hx : a ^^^ b < 2 ^ 63 := Nat.xor_lt_two_pow (by omega) (by omega)
  show IntKind.i64.wrap ((BitVec.ofInt 64 (a : Int) ^^^ BitVec.ofInt 64 (b : Int)).toNat : Int) = _
  rw [BitVec.toNat_xor, ofInt_u64 a (by omega), ofInt_u64 b (by omega)]
  simp [IntKind.wrap, IntKind.bits, IntKind.signed]
  omega

/-- One doubling. -/
def bit (n : Nat) : Nat := if 65536 ≤ 2 * n then (2 * n) ^^^ 69665 else 2 * n
/-- k doublings. -/
def bitsN : Nat → Nat → Nat
  | 0, n => n
  | k + 1, n => bit (bitsN k n)
/-- One byte. -/
def step (n c : Nat) : Nat := bitsN 8 (n ^^^ c * 256)
/-- The sum of a text from a number on. -/
def sumFrom (n : Nat) (l : List UInt8) : Nat := l.foldl (fun n c => step n c.toNat) n
def sum (l : List UInt8) : Nat := sumFrom 65535 l

theorem sumFrom_nil (n : Nat) : sumFrom n [] = n := by unfold sumFrom; rw [List.foldl_nil]
theorem sumFrom_cons (n : Nat) (c : UInt8) (r : List UInt8) : sumFrom n (c :: r) = sumFrom (step n c.toNat) r := by unfold sumFrom; rw [List.foldl_cons]
theorem xor_cancel (a b c : Nat) (h : a ^^^ c = b ^^^ c) : a = b := by
  have := congrArg (· ^^^ c) h
  simpa [Nat.xor_assoc] using this
theorem xor_cancel' (a b c : Nat) (h : c ^^^ a = c ^^^ b) : a = b := by
  rw [Nat.xor_comm c a, Nat.xor_comm c b] at h; exact xor_cancel _ _ _ h
theorem xor_lt (a b : Nat) (ha : a < 65536) (hb : b < 65536) : a ^^^ b < 65536 := Nat.xor_lt_two_pow (n := 16) (by omega) (by omega)
/-- The seventeenth bit goes. -/
theorem bit_hi (n : Nat) (h : 65536 ≤ 2 * n) (h2 : n < 65536) : (2 * n) ^^^ 69665 < 65536 := by
  have e : (2 * n) ^^^ 69665 = (2 * n - 65536) ^^^ 4129 := by
    have e1 : 2 * n = 65536 ^^^ (2 * n - 65536) := by
      have : 65536 ^^^ (2 * n - 65536) = 65536 + (2 * n - 65536) := by
        have hl : 2 * n - 65536 < 2 ^ 16 := by omega
        rw [Nat.xor_comm]
        have := Nat.two_pow_add_eq_or_of_lt hl 1
        have h3 : (2 * n - 65536) ^^^ 65536 = (2 * n - 65536) ||| 65536 := by
          apply Nat.eq_of_testBit_eq
          intro i
          rw [Nat.testBit_xor, Nat.testBit_or]
          by_cases hi : i = 16
          · subst hi
            rw [Nat.testBit_lt_two_pow hl]
            simp
          · have : Nat.testBit 65536 i = false := by
              rw [show 65536 = 2 ^ 16 from rfl, Nat.testBit_two_pow]
              simpa using fun h => hi h.symm
            rw [this]; simp
        rw [h3, Nat.or_comm]
        rw [show (65536 : Nat) = 2 ^ 16 * 1 from rfl] at *
        omega
      omega
    conv => lhs; rw [e1]
    rw [Nat.xor_comm 65536, Nat.xor_assoc]
    rfl
  rw [e]
  exact xor_lt _ _ (by omega) (by omega)
theorem bit_lt (n : Nat) (h : n < 65536) : bit n < 65536 := by
  unfold bit
  split
  · exact bit_hi n (by assumption) h
  · omega
theorem bitsN_lt (k n : Nat) (h : n < 65536) : bitsN k n < 65536 := by
  induction k with
  | zero => exact h
  | succ k ih => exact bit_lt _ ih
theorem step_lt (n c : Nat) (h : n < 65536) (hc : c < 256) : step n c < 65536 := bitsN_lt _ _ (xor_lt _ _ h (by omega))
theorem sumFrom_lt (l : List UInt8) (n : Nat) (h : n < 65536) : sumFrom n l < 65536 := by
  induction l generalizing n with
  | nil => rw [sumFrom_nil]; exact h
  | cons c r ih => rw [sumFrom_cons]; exact ih _ (step_lt _ _ h c.toNat_lt)
theorem sum_lt (l : List UInt8) : sum l < 65536 := sumFrom_lt l _ (by decide)
theorem sumFrom_append (n : Nat) (a b : List UInt8) : sumFrom n (a ++ b) = sumFrom (sumFrom n a) b := by
  unfold sumFrom; rw [List.foldl_append]
theorem sum_take (l : List UInt8) (k : Nat) (h : k < l.length) : sum (l.take (k + 1)) = step (sum (l.take k)) l[k].toNat := by
  unfold sum
  rw [List.take_succ_eq_append_getElem h, sumFrom_append, sumFrom_cons, sumFrom_nil]

/-- A doubling forgets nothing. -/
theorem odd_xor (n : Nat) : ((2 * n) ^^^ 69665) % 2 = 1 := by
  have h : Nat.testBit ((2 * n) ^^^ 69665) 0 = true := by
    rw [Nat.testBit_xor]
    have e : Nat.testBit (2 * n) 0 = false := by rw [Nat.testBit_zero]; simp
    rw [e]; decide
  rw [Nat.testBit_zero] at h
  exact of_decide_eq_true h
theorem bit_inj (a b : Nat) (h : bit a = bit b) : a = b := by
  unfold bit at h
  split at h <;> split at h
  · have := xor_cancel _ _ _ h
    omega
  · have := odd_xor a; omega
  · have := odd_xor b; omega
  · omega
theorem bitsN_inj (k a b : Nat) (h : bitsN k a = bitsN k b) : a = b := by
  induction k with
  | zero => exact h
  | succ k ih => exact ih (bit_inj _ _ h)
theorem step_inj_left (c a b : Nat) (h : step a c = step b c) : a = b := by
  unfold step at h
  exact xor_cancel _ _ _ (bitsN_inj _ _ _ h)
theorem step_inj_right (n c d : Nat) (h : step n c = step n d) : c = d := by
  unfold step at h
  have h2 : c * 256 = d * 256 := xor_cancel' _ _ _ (bitsN_inj _ _ _ h)
  omega
theorem sumFrom_inj (l : List UInt8) (a b : Nat) (h : sumFrom a l = sumFrom b l) : a = b := by
  induction l generalizing a b with
  | nil => rw [sumFrom_nil, sumFrom_nil] at h; exact h
  | cons c r ih => rw [sumFrom_cons, sumFrom_cons] at h; exact step_inj_left _ _ _ (ih _ _ h)
/-- A text of which one byte is another one has another sum. -/
theorem sum_turned (a b : List UInt8) (c d : UInt8) (h : c ≠ d) : sum (a ++ c :: b) ≠ sum (a ++ d :: b) := by
  unfold sum
  rw [sumFrom_append, sumFrom_append, sumFrom_cons, sumFrom_cons]
  intro e
  have e3 := step_inj_right _ _ _ (sumFrom_inj _ _ _ e)
  exact h (UInt8.toNat_inj.1 e3)
end Crc
end Go.Proofs.YtdlojhncbgfjbaaGreatDoor
