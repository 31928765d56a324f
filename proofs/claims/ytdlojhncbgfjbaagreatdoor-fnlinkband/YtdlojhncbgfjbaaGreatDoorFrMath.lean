/-
  Frames as lists of bytes: no program in this text.
-/
import Derived.Test.YtdlojhncbgfjbaaGreatDoorCrcMath
namespace Go.Proofs.YtdlojhncbgfjbaaGreatDoor
namespace Fr
def rightB (u k s : Int) (n : Nat) : Bool := decide (0 ≤ u ∧ u ≤ 250 ∧ 1 ≤ k ∧ k ≤ 9 ∧ 0 ≤ s ∧ s ≤ 65535 ∧ n ≤ 64)
theorem rightB_iff (u k s : Int) (n : Nat) : rightB u k s n = true ↔ (0 ≤ u ∧ u ≤ 250 ∧ 1 ≤ k ∧ k ≤ 9 ∧ 0 ≤ s ∧ s ≤ 65535 ∧ n ≤ 64) := by unfold rightB; exact decide_eq_true_iff
/-- A number as a byte. -/
def by8 (x : Int) : UInt8 := UInt8.ofNat x.toNat
theorem by8_toNat (x : Int) (h0 : 0 ≤ x) (h1 : x < 256) : ((by8 x).toNat : Int) = x := by
  unfold by8
  rw [UInt8.toNat_ofNat']
  omega
theorem by8_of (c : UInt8) : by8 (c.toNat : Int) = c := by
  unfold by8
  have e : ((c.toNat : Int)).toNat = c.toNat := rfl
  rw [e]
  exact UInt8.ofNat_toNat
/-- What the sum is over. -/
def head (u k s : Int) (b : List UInt8) : List UInt8 := [by8 u, by8 k, by8 (s / 256), by8 (s % 256), by8 (b.length : Int)] ++ b
/-- A frame's bytes. -/
def text (u k s : Int) (b : List UInt8) : List UInt8 := 126 :: (head u k s b ++ [by8 ((Crc.sum (head u k s b) : Int) / 256), by8 ((Crc.sum (head u k s b) : Int) % 256)])
theorem head_len (u k s : Int) (b : List UInt8) : (head u k s b).length = 5 + b.length := by unfold head; simp; omega
theorem text_len (u k s : Int) (b : List UInt8) : (text u k s b).length = 8 + b.length := by unfold text; simp [head_len]; omega
/-- The text that FrameText tells. -/
def textL (u k s : Int) (b : List UInt8) : List UInt8 := if rightB u k s b.length then text u k s b else []

/-- What is read off a text that has its bytes. -/
structure Out where
  u : Int
  k : Int
  s : Int
  b : List UInt8
  used : Int
  code : Int
def bad (c : Int) : Out := ⟨0, 0, 0, [], 0, c⟩
def at8 (l : List UInt8) (i : Nat) : Int := ((l.getD i 0).toNat : Int)
theorem at8_range (l : List UInt8) (i : Nat) : 0 ≤ at8 l i ∧ at8 l i < 256 := by
  unfold at8; have := (l.getD i 0).toNat_lt; omega
/-- The length that a text tells of its frame's body. -/
def bodyLen (l : List UInt8) : Nat := (l.getD 5 0).toNat
def body (l : List UInt8) : List UInt8 := (l.drop 6).take (bodyLen l)
def seq (l : List UInt8) : Int := at8 l 3 * 256 + at8 l 4
/-- The answer of FrameRead to a text that is not too long. -/
def read (l : List UInt8) : Out :=
  if l = [] ∨ at8 l 0 ≠ 126 then bad 4
  else if l.length < 6 then bad 6
  else if rightB (at8 l 1) (at8 l 2) (seq l) 0 = false ∨ 64 < bodyLen l then bad 1
  else if l.length < 8 + bodyLen l then bad 6
  else if Crc.sum ((l.drop 1).take (5 + bodyLen l)) ≠ (l.getD (6 + bodyLen l) 0).toNat * 256 + (l.getD (7 + bodyLen l) 0).toNat then bad 7
  else ⟨at8 l 1, at8 l 2, seq l, body l, 8 + bodyLen l, 0⟩

theorem body_len (l : List UInt8) (h : 8 + bodyLen l ≤ l.length) : (body l).length = bodyLen l := by
  unfold body; simp; omega
theorem drop_cons (l : List UInt8) (i : Nat) (h : i < l.length) : l.drop i = l.getD i 0 :: l.drop (i + 1) := by
  rw [List.drop_eq_getElem_cons h, List.getD_eq_getElem?_getD, List.getElem?_eq_getElem h]; rfl
theorem by8_seq (l : List UInt8) : by8 (seq l / 256) = l.getD 3 0 ∧ by8 (seq l % 256) = l.getD 4 0 := by
  have h3 := at8_range l 3
  have h4 := at8_range l 4
  have e1 : seq l / 256 = at8 l 3 := by unfold seq; omega
  have e2 : seq l % 256 = at8 l 4 := by unfold seq; omega
  rw [e1, e2]
  exact ⟨by8_of _, by8_of _⟩
/-- The head of what a text tells is what stands there. -/
theorem head_read (l : List UInt8) (h : 8 + bodyLen l ≤ l.length) : head (at8 l 1) (at8 l 2) (seq l) (body l) = (l.drop 1).take (5 + bodyLen l) := by
  unfold head
  have b1 : by8 (at8 l 1) = l.getD 1 0 := by8_of _
  have b2 : by8 (at8 l 2) = l.getD 2 0 := by8_of _
  have b5 : by8 (bodyLen l : Int) = l.getD 5 0 := by8_of _
  rw [(by8_seq l).1, (by8_seq l).2, body_len l h, b1, b2, b5]
  rw [drop_cons l 1 (by omega), drop_cons l 2 (by omega), drop_cons l 3 (by omega), drop_cons l 4 (by omega), drop_cons l 5 (by omega)]
  have e : 5 + bodyLen l = bodyLen l + 1 + 1 + 1 + 1 + 1 := by omega
  rw [e, List.take_succ_cons, List.take_succ_cons, List.take_succ_cons, List.take_succ_cons, List.take_succ_cons]
  rfl
/-- A text begins with a frame's bytes just where its sum is right. -/
theorem text_read (l : List UInt8) (h : 8 + bodyLen l ≤ l.length) (h0 : at8 l 0 = 126) :
    text (at8 l 1) (at8 l 2) (seq l) (body l) = l.take (8 + bodyLen l) ↔ Crc.sum ((l.drop 1).take (5 + bodyLen l)) = (l.getD (6 + bodyLen l) 0).toNat * 256 + (l.getD (7 + bodyLen l) 0).toNat := by
  have hs := Crc.sum_lt ((l.drop 1).take (5 + bodyLen l))
  have e0 : l.getD 0 0 = 126 := by
    apply UInt8.toNat_inj.1
    have : ((l.getD 0 0).toNat : Int) = 126 := h0
    have e : (126 : UInt8).toNat = 126 := by decide
    omega
  have el : l.take (8 + bodyLen l) = 126 :: ((l.drop 1).take (5 + bodyLen l) ++ [l.getD (6 + bodyLen l) 0, l.getD (7 + bodyLen l) 0]) := by
    have d0 := drop_cons l 0 (by omega)
    rw [List.drop_zero] at d0
    generalize hn : bodyLen l = n at *
    rw [show 8 + n = (7 + n) + 1 by omega]
    have d1 : l.take (7 + n + 1) = (l.getD 0 0 :: l.drop (0 + 1)).take (7 + n + 1) := by rw [← d0]
    rw [d1, List.take_succ_cons, e0]
    congr 1
    rw [← hn]
    have e7 : 7 + bodyLen l = (5 + bodyLen l) + 2 := by omega
    rw [e7, List.take_add]
    congr 1
    rw [List.drop_drop, drop_cons l _ (by omega), drop_cons l _ (by omega)]
    rw [show 1 + (5 + bodyLen l) = 6 + bodyLen l by omega, show 5 + bodyLen l + 2 = 6 + bodyLen l + 1 by omega]
    rfl
  unfold text
  rw [head_read l h, el]
  generalize (l.drop 1).take (5 + bodyLen l) = hd at *
  generalize Crc.sum hd = sm at *
  have r1 := (l.getD (6 + bodyLen l) 0).toNat_lt
  have r2 := (l.getD (7 + bodyLen l) 0).toNat_lt
  constructor
  · intro e
    simp only [List.cons.injEq, true_and, List.append_cancel_left_eq, and_true] at e
    have a := by8_toNat ((sm : Int) / 256) (by omega) (by omega)
    have b := by8_toNat ((sm : Int) % 256) (by omega) (by omega)
    rw [e.1] at a
    rw [e.2] at b
    omega
  · intro e
    have a : by8 ((sm : Int) / 256) = l.getD (6 + bodyLen l) 0 := by
      rw [show (sm : Int) / 256 = ((l.getD (6 + bodyLen l) 0).toNat : Int) by omega, by8_of]
    have b : by8 ((sm : Int) % 256) = l.getD (7 + bodyLen l) 0 := by
      rw [show (sm : Int) % 256 = ((l.getD (7 + bodyLen l) 0).toNat : Int) by omega, by8_of]
    rw [a, b]
end Fr
end Go.Proofs.YtdlojhncbgfjbaaGreatDoor
