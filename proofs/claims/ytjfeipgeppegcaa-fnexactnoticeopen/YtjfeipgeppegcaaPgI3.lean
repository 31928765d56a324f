/-
  The program's register of words and names.
-/
import Derived.Test.YtjfeipgeppegcaaPgI2
import Derived.Maps.Own
import Derived.Maps.OwnOps
namespace Go.Proofs.Ytjfeipgeppegcaa
open Go.RowKit Go.Deep

namespace Pg
/-- The words of lines and their kinds, as they are entered. -/
def kdL (j : Nat) : SL := [(wd 8, .int .i64 8), (wd 9, .int .i64 9)] ++ (List.range j).map (fun i => (wd (i + 1), Value.int .i64 ((i + 1 : Nat) : Int)))
theorem kdL_succ (j : Nat) : kdL (j + 1) = kdL j ++ [(wd (j + 1), Value.int .i64 ((j + 1 : Nat) : Int))] := by
  unfold kdL
  rw [List.range_succ, List.map_append, ← List.append_assoc]
  rfl
theorem kdL_new {j : Nat} (h : j < 7) : sget (kdL j) (wd (j + 1)) = none := by
  refine sget_none (fun x hx e => ?_)
  unfold kdL at hx
  rcases List.mem_append.1 hx with hx | hx
  · simp at hx
    rcases hx with rfl | rfl
    · have := wd_inj (i := 8) (j := j + 1) (by omega) (by omega) e; omega
    · have := wd_inj (i := 9) (j := j + 1) (by omega) (by omega) e; omega
  · obtain ⟨i, hi, rfl⟩ := List.mem_map.1 hx
    have hi2 := List.mem_range.1 hi
    have := wd_inj (i := i + 1) (j := j + 1) (by omega) (by omega) e
    omega
theorem kd_word (s : ByteArray) : (sget (kdL 7) s).isSome = true ↔ Word s := by
  constructor
  · intro h
    obtain ⟨v, hv⟩ := Option.isSome_iff_exists.1 h
    have := sget_mem hv
    unfold kdL at this
    rcases List.mem_append.1 this with hx | hx
    · simp at hx
      rcases hx with ⟨rfl, _⟩ | ⟨rfl, _⟩
      · exact ⟨8, by omega, rfl⟩
      · exact ⟨9, by omega, rfl⟩
    · obtain ⟨i, hi, e⟩ := List.mem_map.1 hx
      have hi2 := List.mem_range.1 hi
      have := congrArg Prod.fst e
      exact ⟨i + 1, by omega, this⟩
  · rintro ⟨k, hk, rfl⟩
    rw [Option.isSome_iff_ne_none]
    intro hn
    have hn2 := sget_none_iff.1 hn
    have : k = 8 ∨ k = 9 ∨ k ≤ 7 := by omega
    rcases this with rfl | rfl | h7
    · exact hn2 (wd 8, .int .i64 8) (by simp [kdL]) rfl
    · exact hn2 (wd 9, .int .i64 9) (by simp [kdL]) rfl
    · refine hn2 (wd (k - 1 + 1), Value.int .i64 ((k - 1 + 1 : Nat) : Int)) ?_ (by show wd (k - 1 + 1) = wd k; rw [Nat.sub_add_cancel hk.1])
      unfold kdL
      exact List.mem_append.2 (Or.inr (List.mem_map.2 ⟨k - 1, List.mem_range.2 (by omega), rfl⟩))
theorem fw_nat {j : Nat} (h : j < 7) : fw ((j : Int) + 1) = wd (j + 1) := by
  unfold fw
  rw [if_pos (by omega), show ((j : Int) + 1).toNat = j + 1 by omega]
theorem wd_len {k : Nat} (h : 1 ≤ k ∧ k ≤ 9) : (wd k).size ≤ maxLen := by
  have : k = 1 ∨ k = 2 ∨ k = 3 ∨ k = 4 ∨ k = 5 ∨ k = 6 ∨ k = 7 ∨ k = 8 ∨ k = 9 := by omega
  unfold maxLen
  rcases this with rfl | rfl | rfl | rfl | rfl | rfl | rfl | rfl | rfl <;> decide
end Pg
end Go.Proofs.Ytjfeipgeppegcaa
