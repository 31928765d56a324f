/-
  The contract of the model's FrameRead.
-/
import Derived.Test.YtdlojhncbgfjbaaGreatDoorFrSpec
import Derived.Deep.QuietTactic
import Derived.BigQuiet
import Derived.BigRegion
import Derived.Test.YtdlojhncbgfjbaaGreatDoorReg
namespace Go.Proofs.YtdlojhncbgfjbaaGreatDoor
open Go.RowKit

/-- An answer of FrameRead as a value. -/
def Fr.val (o : Fr.Out) : Value := .agg #[.int .i64 o.u, .int .i64 o.k, .int .i64 o.s, .string ⟨o.b.toArray⟩, .int .i64 o.used, .int .i64 o.code]
def zero6 : Array Value := #[.int .i64 0, .int .i64 0, .int .i64 0, .string ⟨#[]⟩, .int .i64 0, .int .i64 0]

/-- A slot of an answer in a new block, in later worlds. -/
def Slot6 (w W : World) : Prop := Below (w.heap.size + 1) (w.alloc (.cells #[.int .i64 0, .int .i64 0, .int .i64 0, .string ⟨#[]⟩, .int .i64 0, .int .i64 0] 98)) W
theorem Slot6.start (w : World) : Slot6 w (w.alloc (.cells #[.int .i64 0, .int .i64 0, .int .i64 0, .string ⟨#[]⟩, .int .i64 0, .int .i64 0] 98)) := Below.refl _ _
theorem Slot6.size {w W : World} (h : Slot6 w W) : w.heap.size + 1 ≤ W.heap.size := by have := Below.size h; simpa using this
theorem Slot6.next {w W W' : World} (h : Slot6 w W) (hb : Below W.heap.size W W') : Slot6 w W' := Below.trans h (hb.mono h.size)
theorem Slot6.below {w W : World} (h : Slot6 w W) : Below w.heap.size w W := ((Below.refl _ _).alloc (Nat.le_refl _) _).trans (Below.mono h (by omega))
theorem kept6 {w w1 : World} (hb : Slot6 w w1) :
    (w1.cell? ⟨w.heap.size, 0, none⟩ = some (.int .i64 0) ∧ w1.cell? ⟨w.heap.size, 1, none⟩ = some (.int .i64 0) ∧ w1.cell? ⟨w.heap.size, 2, none⟩ = some (.int .i64 0) ∧ w1.cell? ⟨w.heap.size, 3, none⟩ = some (.string ⟨#[]⟩) ∧ w1.cell? ⟨w.heap.size, 4, none⟩ = some (.int .i64 0) ∧ w1.cell? ⟨w.heap.size, 5, none⟩ = some (.int .i64 0)) ∧
    (w1.frozen? ⟨w.heap.size, 0, none⟩ = false ∧ w1.frozen? ⟨w.heap.size, 1, none⟩ = false ∧ w1.frozen? ⟨w.heap.size, 2, none⟩ = false ∧ w1.frozen? ⟨w.heap.size, 3, none⟩ = false ∧ w1.frozen? ⟨w.heap.size, 4, none⟩ = false ∧ w1.frozen? ⟨w.heap.size, 5, none⟩ = false) ∧ w.heap.size < w1.heap.size := by
  unfold Slot6 at hb
  refine ⟨⟨?_, ?_, ?_, ?_, ?_, ?_⟩, ⟨?_, ?_, ?_, ?_, ?_, ?_⟩, ?_⟩
  · rw [hb.cell (by simp)]; simp
  · rw [hb.cell (by simp)]; simp
  · rw [hb.cell (by simp)]; simp
  · rw [hb.cell (by simp)]; simp
  · rw [hb.cell (by simp)]; simp
  · rw [hb.cell (by simp)]; simp
  · rw [hb.frozen (by simp)]; simp
  · rw [hb.frozen (by simp)]; simp
  · rw [hb.frozen (by simp)]; simp
  · rw [hb.frozen (by simp)]; simp
  · rw [hb.frozen (by simp)]; simp
  · rw [hb.frozen (by simp)]; simp
  · have := hb.size; simp at this; omega

namespace Fr
theorem at8_of (s : ByteArray) (i : Nat) (h : i < s.size) : at8 s.data.toList i = (((s[i]'h).toNat : Nat) : Int) := by
  unfold at8
  rw [List.getD_eq_getElem?_getD, List.getElem?_eq_getElem (by simpa using h)]
  rfl
theorem at8_n (s : ByteArray) (i : Nat) (h : i < s.size) : (s.data.toList.getD i 0).toNat = (s[i]'h).toNat := by
  rw [List.getD_eq_getElem?_getD, List.getElem?_eq_getElem (by simpa using h)]
  rfl
theorem nil_of (s : ByteArray) (h : s.size = 0) : s.data.toList = [] := List.eq_nil_of_length_eq_zero h
theorem ne_nil (s : ByteArray) (h : 0 < s.size) : s.data.toList ≠ [] := fun e => by
  have : s.size = 0 := congrArg List.length e
  omega
end Fr

set_option maxRecDepth 100000 in
set_option maxHeartbeats 1000000 in
theorem frRead_none (s : ByteArray) (hs : s.size ≤ 20000) (h0 : s.size = 0 ∨ ∃ h : 0 < s.size, (((s[0]'h).toNat : Nat) : Int) ≠ 126) (w : World) :
    Calls Tryz.prog 34 #[.string s] w fun e w' => e = .returned (Fr.val (Fr.read s.data.toList)) ∧ Below w.heap.size w w' := by
  have e : Fr.read s.data.toList = Fr.bad 4 := by
    unfold Fr.read
    rw [if_pos]
    rcases h0 with h0 | ⟨h, h0⟩
    · exact Or.inl (Fr.nil_of s h0)
    · right; rw [Fr.at8_of s 0 h]; exact h0
  rw [e]
  clear e
  have hz : ¬ (20000 : Int) < (s.size : Int) := by omega
  rcases h0 with h0 | ⟨h, h0⟩
  · have h1 : ((s.size : Int) == 0) = true := by simp [h0]
    go_enter Tryz.func34, Tryz.ntmps34
    go_wp2_with fail
    exact bodyPost_ret (v := Fr.val (Fr.bad 4)) (by simp [results, Tryz.results34, go_sem, Fr.val, Fr.bad]) rfl ⟨rfl, (Below.refl _ _).alloc (Nat.le_refl _) _⟩
  · have h1 : ((s.size : Int) == 0) = false := by rw [beq_eq_false_iff_ne]; omega
    have h2 : ((((s[0]'h).toNat : Nat) : Int) != 126) = true := by simpa using h0
    clear h0
    go_enter Tryz.func34, Tryz.ntmps34
    go_wp2_with fail
    exact bodyPost_ret (v := Fr.val (Fr.bad 4)) (by simp [results, Tryz.results34, go_sem, Fr.val, Fr.bad]) rfl ⟨rfl, (Below.refl _ _).alloc (Nat.le_refl _) _⟩

/-- What a walk knows of a text that has its head. -/
theorem first_ok {s : ByteArray} (h : 0 < s.size) (h0 : (((s[0]'h).toNat : Nat) : Int) = 126) : ¬ (s.data.toList = [] ∨ Fr.at8 s.data.toList 0 ≠ 126) := by
  intro k
  rcases k with k | k
  · exact Fr.ne_nil s h k
  · exact k (by rw [Fr.at8_of s 0 h]; exact h0)

set_option maxRecDepth 100000 in
set_option maxHeartbeats 1000000 in
theorem frRead_short (s : ByteArray) (hs : s.size < 6) (h : 0 < s.size) (h0 : (((s[0]'h).toNat : Nat) : Int) = 126) (w : World) :
    Calls Tryz.prog 34 #[.string s] w fun e w' => e = .returned (Fr.val (Fr.read s.data.toList)) ∧ Below w.heap.size w w' := by
  have e : Fr.read s.data.toList = Fr.bad 6 := by
    unfold Fr.read
    rw [if_neg (first_ok h h0), if_pos (show s.data.toList.length < 6 from hs)]
  rw [e]
  clear e
  have hz : ¬ (20000 : Int) < (s.size : Int) := by omega
  have h1 : ((s.size : Int) == 0) = false := by rw [beq_eq_false_iff_ne]; omega
  have h2 : ((((s[0]'h).toNat : Nat) : Int) != 126) = false := by simp [h0]
  have h3 : (s.size : Int) < 6 := by omega
  clear h0
  go_enter Tryz.func34, Tryz.ntmps34
  go_wp2_with fail
  exact bodyPost_ret (v := Fr.val (Fr.bad 6)) (by simp [results, Tryz.results34, go_sem, Fr.val, Fr.bad]) rfl ⟨rfl, (Below.refl _ _).alloc (Nat.le_refl _) _⟩

theorem fr_later {w w1 : World} {u k q : Int} (hb : Below ((w.alloc (.cells #[.int .i64 0, .int .i64 0, .int .i64 0, .string ⟨#[]⟩, .int .i64 0, .int .i64 0] 98)).alloc (.cells #[.int .i64 u, .int .i64 k, .int .i64 q, .string ⟨#[]⟩] 70)).drew.heap.size ((w.alloc (.cells #[.int .i64 0, .int .i64 0, .int .i64 0, .string ⟨#[]⟩, .int .i64 0, .int .i64 0] 98)).alloc (.cells #[.int .i64 u, .int .i64 k, .int .i64 q, .string ⟨#[]⟩] 70)).drew w1) :
    Slot6 w w1 ∧ (w1.cell? ⟨w.heap.size + 1, 0, none⟩ = some (.int .i64 u) ∧ w1.cell? ⟨w.heap.size + 1, 1, none⟩ = some (.int .i64 k) ∧ w1.cell? ⟨w.heap.size + 1, 2, none⟩ = some (.int .i64 q) ∧ w1.cell? ⟨w.heap.size + 1, 3, none⟩ = some (.string ⟨#[]⟩) ∧ w1.frozen? ⟨w.heap.size + 1, 3, none⟩ = false ∧ w.heap.size + 1 < w1.heap.size) := by
  refine ⟨(Slot6.start w).next ?_, ?_, ?_, ?_, ?_, ?_, ?_⟩
  · exact (((Below.refl _ _).alloc (Nat.le_refl _) _).drew).trans (hb.mono (by simp))
  · rw [hb.cell (by simp)]; simp
  · rw [hb.cell (by simp)]; simp
  · rw [hb.cell (by simp)]; simp
  · rw [hb.cell (by simp)]; simp
  · rw [hb.frozen (by simp)]; simp
  · have := hb.size; simp at this; omega
theorem below_set6 {w W : World} (h : Below w.heap.size w W) (a b c d e f : Value) : Below w.heap.size w ((((((W.setCell ⟨w.heap.size, 0, none⟩ a).setCell ⟨w.heap.size, 1, none⟩ b).setCell ⟨w.heap.size, 2, none⟩ c).setCell ⟨w.heap.size, 3, none⟩ d).setCell ⟨w.heap.size, 4, none⟩ e).setCell ⟨w.heap.size, 5, none⟩ f) :=
  (((((h.setCell (p := ⟨w.heap.size, 0, none⟩) (Nat.le_refl _) a).setCell (p := ⟨w.heap.size, 1, none⟩) (Nat.le_refl _) b).setCell (p := ⟨w.heap.size, 2, none⟩) (Nat.le_refl _) c).setCell (p := ⟨w.heap.size, 3, none⟩) (Nat.le_refl _) d).setCell (p := ⟨w.heap.size, 4, none⟩) (Nat.le_refl _) e).setCell (p := ⟨w.heap.size, 5, none⟩) (Nat.le_refl _) f
theorem keepF {w W W' : World} {F : Nat} {a0 a1 a2 a3 : Value} (hb : Below W.heap.size W W') (h : W.cell? ⟨F, 0, none⟩ = some a0 ∧ W.cell? ⟨F, 1, none⟩ = some a1 ∧ W.cell? ⟨F, 2, none⟩ = some a2 ∧ W.cell? ⟨F, 3, none⟩ = some a3 ∧ Hid (Slot6 w W)) :
    W'.cell? ⟨F, 0, none⟩ = some a0 ∧ W'.cell? ⟨F, 1, none⟩ = some a1 ∧ W'.cell? ⟨F, 2, none⟩ = some a2 ∧ W'.cell? ⟨F, 3, none⟩ = some a3 ∧ Hid (Slot6 w W') := by
  obtain ⟨c1, c2, c3, c4, hS⟩ := h
  exact ⟨(hb.cell (World.block_lt_of_cell? _ _ c1)).trans c1, (hb.cell (World.block_lt_of_cell? _ _ c2)).trans c2, (hb.cell (World.block_lt_of_cell? _ _ c3)).trans c3, (hb.cell (World.block_lt_of_cell? _ _ c4)).trans c4, hS.out.next hb⟩
theorem fr_store {w w1 : World} {a0 a1 a2 a3 : Value} (p0 : w1.cell? ⟨w.heap.size + 1, 0, none⟩ = some a0) (p1 : w1.cell? ⟨w.heap.size + 1, 1, none⟩ = some a1) (p2 : w1.cell? ⟨w.heap.size + 1, 2, none⟩ = some a2) (p3 : w1.cell? ⟨w.heap.size + 1, 3, none⟩ = some a3) (hS : Slot6 w w1) {v : Value} :
    (w1.setCell ⟨w.heap.size + 1, 3, none⟩ v).cell? ⟨w.heap.size + 1, 0, none⟩ = some a0 ∧ (w1.setCell ⟨w.heap.size + 1, 3, none⟩ v).cell? ⟨w.heap.size + 1, 1, none⟩ = some a1 ∧ (w1.setCell ⟨w.heap.size + 1, 3, none⟩ v).cell? ⟨w.heap.size + 1, 2, none⟩ = some a2 ∧ (w1.setCell ⟨w.heap.size + 1, 3, none⟩ v).cell? ⟨w.heap.size + 1, 3, none⟩ = some v ∧ Hid (Slot6 w (w1.setCell ⟨w.heap.size + 1, 3, none⟩ v)) := by
  refine ⟨?_, ?_, ?_, World.cell?_setCell_same _ _ _ p3, ?_⟩
  · rw [World.cell?_setCell_other _ _ _ _ (by simp)]; exact p0
  · rw [World.cell?_setCell_other _ _ _ _ (by simp)]; exact p1
  · rw [World.cell?_setCell_other _ _ _ _ (by simp)]; exact p2
  · exact Below.setCell (p := ⟨w.heap.size + 1, 3, none⟩) hS (Nat.le_refl _) v
theorem fstr_ne {x y : ByteArray} (h : x ≠ y) : (x.toList == y.toList) = false := by
  rw [Bool.eq_false_iff]
  intro k
  apply h
  rw [beq_iff_eq, ByteArray.toList_eq, ByteArray.toList_eq] at k
  apply ByteArray.ext
  exact Array.toList_inj.1 k
theorem fr_body (s : ByteArray) : (s.extract 6 (6 + Fr.bodyLen s.data.toList)).data.toList = Fr.body s.data.toList := by
  rw [Lib.extract_data]
  unfold Fr.body
  rw [show 6 + Fr.bodyLen s.data.toList - 6 = Fr.bodyLen s.data.toList by omega]
theorem fr_compare (s : ByteArray) (h0 : Fr.at8 s.data.toList 0 = 126) : 8 + Fr.bodyLen s.data.toList ≤ s.size → ((⟨(Fr.text (Fr.at8 s.data.toList 1) (Fr.at8 s.data.toList 2) (Fr.seq s.data.toList) (Fr.body s.data.toList)).toArray⟩ : ByteArray) = s.extract 0 (8 + Fr.bodyLen s.data.toList) ↔ Crc.sum ((s.data.toList.drop 1).take (5 + Fr.bodyLen s.data.toList)) = (s.data.toList.getD (6 + Fr.bodyLen s.data.toList) 0).toNat * 256 + (s.data.toList.getD (7 + Fr.bodyLen s.data.toList) 0).toNat) := by
  intro h
  rw [← Fr.text_read s.data.toList h h0]
  constructor
  · intro e
    have := congrArg (fun x : ByteArray => x.data.toList) e
    simp only [Lib.extract_data, List.drop_zero, Nat.sub_zero] at this
    exact this
  · intro e
    apply ByteArray.ext
    apply Array.toList_inj.1
    rw [Lib.extract_data, List.drop_zero, Nat.sub_zero]
    exact e

set_option maxRecDepth 100000 in
set_option maxHeartbeats 2000000 in
theorem frRead_long (s : ByteArray) (hs : s.size ≤ 20000) (h6 : 6 ≤ s.size) (h0 : (((s[0]'(by omega)).toNat : Nat) : Int) = 126) (w : World) :
    Calls Tryz.prog 34 #[.string s] w fun e w' => e = .returned (Fr.val (Fr.read s.data.toList)) ∧ Below w.heap.size w w' := by
  have hrd : Fr.read s.data.toList = if Fr.rightB (Fr.at8 s.data.toList 1) (Fr.at8 s.data.toList 2) (Fr.seq s.data.toList) 0 = false ∨ 64 < Fr.bodyLen s.data.toList then Fr.bad 1
      else if s.size < 8 + Fr.bodyLen s.data.toList then Fr.bad 6
      else if Crc.sum ((s.data.toList.drop 1).take (5 + Fr.bodyLen s.data.toList)) ≠ (s.data.toList.getD (6 + Fr.bodyLen s.data.toList) 0).toNat * 256 + (s.data.toList.getD (7 + Fr.bodyLen s.data.toList) 0).toNat then Fr.bad 7
      else ⟨Fr.at8 s.data.toList 1, Fr.at8 s.data.toList 2, Fr.seq s.data.toList, Fr.body s.data.toList, 8 + Fr.bodyLen s.data.toList, 0⟩ := by
    conv => lhs; unfold Fr.read
    rw [if_neg (first_ok (by omega) h0), if_neg (by show ¬ s.size < 6; omega)]
    rfl
  have HRD := Lib.hid hrd
  clear hrd
  have H0 := Lib.hid (show Fr.at8 s.data.toList 0 = 126 by rw [Fr.at8_of s 0 (by omega)]; exact h0)
  have e1 := Fr.at8_of s 1 (by omega)
  have e2 := Fr.at8_of s 2 (by omega)
  have e3 := Fr.at8_of s 3 (by omega)
  have e4 := Fr.at8_of s 4 (by omega)
  have e5 : Fr.bodyLen s.data.toList = (s[5]'(by omega)).toNat := Fr.at8_n s 5 (by omega)
  have hz : ¬ (20000 : Int) < (s.size : Int) := by omega
  have h1 : ((s.size : Int) == 0) = false := by rw [beq_eq_false_iff_ne]; omega
  have h2 : ((((s[0]'(by omega)).toNat : Nat) : Int) != 126) = false := by simp [h0]
  have h3 : ¬ (s.size : Int) < 6 := by omega
  have c1 : (((s[1]'(by omega)).toNat : Nat) : Int) < 256 := by have := (s[1]'(by omega)).toNat_lt; omega
  have c2 : (((s[2]'(by omega)).toNat : Nat) : Int) < 256 := by have := (s[2]'(by omega)).toNat_lt; omega
  have c3 : (((s[3]'(by omega)).toNat : Nat) : Int) < 256 := by have := (s[3]'(by omega)).toNat_lt; omega
  have c4 : (((s[4]'(by omega)).toNat : Nat) : Int) < 256 := by have := (s[4]'(by omega)).toNat_lt; omega
  have c5 : (((s[5]'(by omega)).toNat : Nat) : Int) < 256 := by have := (s[5]'(by omega)).toNat_lt; omega
  clear h0
  have i1 : 1 < s.size := by omega
  have i2 : 2 < s.size := by omega
  have i3 : 3 < s.size := by omega
  have i4 : 4 < s.size := by omega
  have j1 : (1 : Int) < (s.size : Int) := by omega
  have j2 : (2 : Int) < (s.size : Int) := by omega
  have j3 : (3 : Int) < (s.size : Int) := by omega
  have j4 : (4 : Int) < (s.size : Int) := by omega
  have E1 := Lib.hid e1
  have E2 := Lib.hid e2
  have E3 := Lib.hid e3
  have E4 := Lib.hid e4
  have E5 := Lib.hid e5
  clear e1 e2 e3 e4 e5
  go_enter Tryz.func34, Tryz.ntmps34
  go_wp2_with fail
  go_region
  have hq : Fr.seq s.data.toList = Int.ofNat (s[3]'i3).toNat * 256 + Int.ofNat (s[4]'i4).toNat := by unfold Fr.seq; rw [E3.out, E4.out]; rfl
  have hq0 : (0 : Int) ≤ Int.ofNat (s[3]'i3).toNat * 256 + Int.ofNat (s[4]'i4).toNat := by simp only [Int.ofNat_eq_natCast]; omega
  have hq1 : Int.ofNat (s[3]'i3).toNat * 256 + Int.ofNat (s[4]'i4).toNat ≤ 65535 := by simp only [Int.ofNat_eq_natCast]; omega
  rw [E1.out, E2.out, hq, E5.out] at HRD
  have HTR := Lib.hid (fr_compare s H0.out)
  rw [E1.out, E2.out, hq, E5.out] at HTR
  have HBL := Lib.hid (fr_body s)
  rw [E5.out] at HBL
  have HB0 := Lib.hid (fun h => Fr.body_len s.data.toList h)
  rw [E5.out] at HB0
  clear hq E1 E2 E3 E4 E5
  go_wp2_with fail
  generalize Int.ofNat (s[3]'i3).toNat * 256 + Int.ofNat (s[4]'i4).toNat = q at *
  generalize (((s[1]'i1).toNat : Nat) : Int) = u at *
  generalize (((s[2]'i2).toNat : Nat) : Int) = k at *
  generalize (s[5]'(by omega)).toNat = n at *
  refine (specFrRight_any u k q ⟨#[]⟩ _).mono ?_
  rintro e w1 ⟨rfl, hb⟩
  have hF := fr_later hb
  clear hb
  obtain ⟨hS, ⟨p0, p1, p2, p3, pf, hz1⟩⟩ := hF
  have e0 : (⟨#[]⟩ : ByteArray).size = 0 := rfl
  rw [e0]
  clear e0
  have HS := Lib.hid hS
  clear hS
  cases hr : Fr.rightB u k q 0
  · skip
    have HE : Hid (Fr.read s.data.toList = Fr.bad 1) := by show _ = _; rw [HRD.out, if_pos (Or.inl hr)]
    obtain ⟨⟨s0, s1, s2, s3, s4, s5⟩, ⟨f0, f1, f2, f3, f4, f5⟩, hz2⟩ := kept6 HS.out
    clear HRD HTR HBL HB0
    go_wp2_with fail
    exact bodyPost_ret (v := Fr.val (Fr.bad 1)) (by simp [results, Tryz.results34, go_sem, s0, s1, s2, s3, s4, s5, Fr.val, Fr.bad]) rfl ⟨by rw [HE.out], below_set6 HS.out.below _ _ _ _ _ _⟩
  · by_cases hn : 64 < n
    · have hn2 : (64 : Int) < (n : Int) := by omega
      have HE : Hid (Fr.read s.data.toList = Fr.bad 1) := by show _ = _; rw [HRD.out, if_pos (Or.inr hn)]
      obtain ⟨⟨s0, s1, s2, s3, s4, s5⟩, ⟨f0, f1, f2, f3, f4, f5⟩, hz2⟩ := kept6 HS.out
      clear HRD HTR HBL HB0
      go_wp2_with fail
      exact bodyPost_ret (v := Fr.val (Fr.bad 1)) (by simp [results, Tryz.results34, go_sem, s0, s1, s2, s3, s4, s5, Fr.val, Fr.bad]) rfl ⟨by rw [HE.out], below_set6 HS.out.below _ _ _ _ _ _⟩
    · have hn2 : ¬ (64 : Int) < (n : Int) := by omega
      have hno : ¬ (Fr.rightB u k q 0 = false ∨ 64 < n) := by rw [hr]; simp; omega
      by_cases hsh : s.size < 8 + n
      · have hsh2 : (s.size : Int) < 8 + (n : Int) := by omega
        have HE : Hid (Fr.read s.data.toList = Fr.bad 6) := by show _ = _; rw [HRD.out, if_neg hno, if_pos hsh]
        obtain ⟨⟨s0, s1, s2, s3, s4, s5⟩, ⟨f0, f1, f2, f3, f4, f5⟩, hz2⟩ := kept6 HS.out
        clear HRD HTR HBL HB0
        go_wp2_with fail
        exact bodyPost_ret (v := Fr.val (Fr.bad 6)) (by simp [results, Tryz.results34, go_sem, s0, s1, s2, s3, s4, s5, Fr.val, Fr.bad]) rfl ⟨by rw [HE.out], below_set6 HS.out.below _ _ _ _ _ _⟩
      · have hsh2 : ¬ (s.size : Int) < 8 + (n : Int) := by omega
        have hD1 : Hid ((s.extract 6 (6 + n)).data.toList = Fr.body s.data.toList) := HBL.out
        have hD2 : (s.extract 6 (6 + n)).size = n := by
          show (s.extract 6 (6 + n)).data.toList.length = n
          rw [hD1.out]; exact HB0.out (by show 8 + n ≤ s.size; omega)
        have hD3 := hD1
        have hT := HTR.out (by omega)
        have hrd : Fr.read s.data.toList = if Crc.sum ((s.data.toList.drop 1).take (5 + n)) ≠ (s.data.toList.getD (6 + n) 0).toNat * 256 + (s.data.toList.getD (7 + n) 0).toNat then Fr.bad 7 else ⟨u, k, q, Fr.body s.data.toList, 8 + n, 0⟩ := by
          rw [HRD.out, if_neg hno, if_neg hsh]
        rw [ite_not] at hrd
        have HRD2 := Lib.hid hrd
        have HT2 := Lib.hid hT
        have hr2 : Fr.rightB u k q n = true := by
          have := (Fr.rightB_iff _ _ _ _).1 hr
          apply (Fr.rightB_iff _ _ _ _).2; omega
        have HR2 := Lib.hid hr2
        have HFT := Lib.hid (fun wx => specFrText_yes u k q (s.extract 6 (6 + n)) wx (by rw [hD2]; exact hr2))
        rw [hD1.out] at HFT
        clear hrd hT HRD HTR HBL HB0 hD1 hr2 hno hn hsh
        have n1 : (6 : Int) ≤ 6 + (n : Int) := by omega
        have n2 : 6 + (n : Int) ≤ (s.size : Int) := by omega
        have n3 : 8 + (n : Int) ≤ (s.size : Int) := by omega
        go_wp2_with fail
        have HW : Hid ((fun w' => w'.cell? ⟨w.heap.size + 1, 0, none⟩ = some (.int .i64 u) ∧ w'.cell? ⟨w.heap.size + 1, 1, none⟩ = some (.int .i64 k) ∧ w'.cell? ⟨w.heap.size + 1, 2, none⟩ = some (.int .i64 q) ∧ w'.cell? ⟨w.heap.size + 1, 3, none⟩ = some (.string (s.extract 6 (6 + n))) ∧ Hid (Slot6 w w')) (w1.setCell ⟨w.heap.size + 1, 3, none⟩ (.string (s.extract 6 (6 + n))))) := fr_store p0 p1 p2 p3 HS.out
        clear p0 p1 p2 p3 pf HS
        generalize w1.setCell ⟨w.heap.size + 1, 3, none⟩ (.string (s.extract 6 (6 + n))) = W2 at *
        have HDb : Hid (s.extract 6 (6 + n) = ⟨(Fr.body s.data.toList).toArray⟩) := by
          show _ = _
          apply ByteArray.ext; apply Array.toList_inj.1; exact hD3.out
        clear hD3
        generalize s.extract 6 (6 + n) = D at *
        have hw8 : IntKind.i64.wrap (8 + (n : Int)) = 8 + (n : Int) := by simp [IntKind.wrap, IntKind.bits, IntKind.signed]; omega
        have hn8 : (0 : Int) ≤ 8 + (n : Int) := by omega
        have ht8 : (8 + (n : Int)).toNat = 8 + n := by omega
        refine wp_region_held_drew (S := (fun w' => w'.cell? ⟨w.heap.size + 1, 0, none⟩ = some (.int .i64 u) ∧ w'.cell? ⟨w.heap.size + 1, 1, none⟩ = some (.int .i64 k) ∧ w'.cell? ⟨w.heap.size + 1, 2, none⟩ = some (.int .i64 q) ∧ w'.cell? ⟨w.heap.size + 1, 3, none⟩ = some (.string D) ∧ Hid (Slot6 w w'))) (by kernel_rfl) (keepF (Below.refl _ _).drew HW.out) (fun hHeld => ?_)
        refine take_do (i := 0) (v := .agg #[.int .i64 u, .int .i64 k, .int .i64 q, .string D]) rfl (by kernel_rfl) (by kernel_rfl) (by kernel_rfl) (fun _ _ _ h => h) (by rfl) ?_ (by assumption) ?_
        · intro w hSw
          go_simp
        simp only [Act.put, List.setIfInBounds_toArray, List.set_cons_zero, List.set_cons_succ]
        refine take_do (i := 2) (v := .string s) rfl (by kernel_rfl) (by kernel_rfl) (by kernel_rfl) (fun _ _ _ h => h) (by rfl) ?_ (by assumption) ?_
        · intro w hSw
          go_simp
        simp only [Act.put, List.setIfInBounds_toArray, List.set_cons_zero, List.set_cons_succ]
        refine take_do (i := 3) (v := .int .i64 n) rfl (by kernel_rfl) (by kernel_rfl) (by kernel_rfl) (fun _ _ _ h => h) (by rfl) ?_ (by assumption) ?_
        · intro w hSw
          go_simp
        simp only [Act.put, List.setIfInBounds_toArray, List.set_cons_zero, List.set_cons_succ]
        refine take_do (i := 4) (v := .int .i64 (8 + n)) rfl (by kernel_rfl) (by kernel_rfl) (by kernel_rfl) (fun _ _ _ h => h) (by rfl) ?_ (by assumption) ?_
        · intro w hSw
          go_simp
        simp only [Act.put, List.setIfInBounds_toArray, List.set_cons_zero, List.set_cons_succ]
        refine take_do (i := 5) (v := .string (s.extract 0 (8 + n))) rfl (by kernel_rfl) (by kernel_rfl) (by kernel_rfl) (fun _ _ _ h => h) (by rfl) ?_ (by assumption) ?_
        · intro w hSw
          go_simp
        simp only [Act.put, List.setIfInBounds_toArray, List.set_cons_zero, List.set_cons_succ]
        refine take_call (i := 1) rfl (by kernel_rfl) (fun K hK => ?_)
        go_simp
        refine (HFT.out _).mono ?_
        rintro e w' ⟨rfl, hb⟩
        go_wp2_with fail
        refine hK.out _ _ (keepF hb hHeld) (fun hHeld2 => ?_)
        clear hK hHeld hb
        have hHeld := hHeld2
        clear hHeld2
        generalize (⟨(Fr.text u k q (Fr.body s.data.toList)).toArray⟩ : ByteArray) = T at *
        generalize s.extract 0 (8 + n) = E at *
        by_cases hTE : T = E
        · have HE : Hid (Fr.read s.data.toList = ⟨u, k, q, Fr.body s.data.toList, 8 + n, 0⟩) := by show _ = _; rw [HRD2.out, if_pos (HT2.out.1 hTE)]
          subst hTE
          refine take_do (i := 6) (v := .bool false) rfl (by kernel_rfl) (by kernel_rfl) (by kernel_rfl) (fun _ _ _ h => h) (by rfl) ?_ (by assumption) ?_
          · intro w hSw
            go_simp
          simp only [Act.put, List.setIfInBounds_toArray, List.set_cons_zero, List.set_cons_succ]
          refine wpAnyH_done (by kernel_rfl) ?_ _
          obtain ⟨p0, p1, p2, p3, HS⟩ := hHeld
          obtain ⟨⟨s0, s1, s2, s3, s4, s5⟩, ⟨f0, f1, f2, f3, f4, f5⟩, hz2⟩ := kept6 HS.out
          go_wp2_with fail
          exact bodyPost_ret (v := .agg #[.int .i64 u, .int .i64 k, .int .i64 q, .string D, .int .i64 (8 + n), .int .i64 0]) (by simp [results, Tryz.results34, go_sem, s0, s1, s2, s3, s4, s5]) rfl ⟨by rw [HE.out]; unfold Fr.val; rw [← HDb.out], below_set6 HS.out.below _ _ _ _ _ _⟩
        · have HE : Hid (Fr.read s.data.toList = Fr.bad 7) := by show _ = _; rw [HRD2.out, if_neg (fun h => hTE (HT2.out.2 h))]
          have hne : (T.toList == E.toList) = false := fstr_ne hTE
          clear hTE
          refine take_do (i := 6) (v := .bool true) rfl (by kernel_rfl) (by kernel_rfl) (by kernel_rfl) (fun _ _ _ h => h) (by rfl) ?_ (by assumption) ?_
          · intro w hSw
            go_simp
          simp only [Act.put, List.setIfInBounds_toArray, List.set_cons_zero, List.set_cons_succ]
          refine wpAnyH_done (by kernel_rfl) ?_ _
          obtain ⟨p0, p1, p2, p3, HS⟩ := hHeld
          obtain ⟨⟨s0, s1, s2, s3, s4, s5⟩, ⟨f0, f1, f2, f3, f4, f5⟩, hz2⟩ := kept6 HS.out
          go_wp2_with fail
          exact bodyPost_ret (v := Fr.val (Fr.bad 7)) (by simp [results, Tryz.results34, go_sem, s0, s1, s2, s3, s4, s5, Fr.val, Fr.bad]) rfl ⟨by rw [HE.out], below_set6 HS.out.below _ _ _ _ _ _⟩

theorem specFrRead_any (s : ByteArray) (hs : s.size ≤ 20000) (w : World) :
    Calls Tryz.prog 34 #[.string s] w fun e w' => e = .returned (Fr.val (Fr.read s.data.toList)) ∧ Below w.heap.size w w' := by
  by_cases h0 : s.size = 0
  · exact frRead_none s hs (Or.inl h0) w
  · have h : 0 < s.size := by omega
    by_cases h1 : (((s[0]'h).toNat : Nat) : Int) = 126
    · by_cases h6 : s.size < 6
      · exact frRead_short s h6 h h1 w
      · exact frRead_long s hs (by omega) h1 w
    · exact frRead_none s hs (Or.inr ⟨h, h1⟩) w

set_option maxHeartbeats 1000000 in
theorem specFrRead_over (s : ByteArray) (hs : 20000 < s.size) (w : World) :
    Calls Tryz.prog 34 #[.string s] w fun e w' => e = .returned (Fr.val (Fr.bad 2)) ∧ Below w.heap.size w w' := by
  have hz : (20000 : Int) < (s.size : Int) := by omega
  go_enter Tryz.func34, Tryz.ntmps34
  go_wp2_with fail
  exact bodyPost_ret (v := Fr.val (Fr.bad 2)) (by simp [results, Tryz.results34, go_sem, Fr.val, Fr.bad]) rfl ⟨rfl, (Below.refl _ _).alloc (Nat.le_refl _) _⟩
end Go.Proofs.YtdlojhncbgfjbaaGreatDoor
