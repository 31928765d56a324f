/-
  Both readers come to one answer, and a right fraction's text is read as that fraction.
-/
import Derived.Test.YtemmmhkjjcmcmaaDoorReadSpec
import Derived.Lib.ItoaLen
namespace Go.Proofs.YtemmmhkjjcmcmaaDoor
open Go.RowKit

theorem both_read (s : ByteArray) : ∃ n d c : Int, (-9223372036854775808 ≤ n ∧ n ≤ 9223372036854775807 ∧ -9223372036854775808 ≤ d ∧ d ≤ 9223372036854775807) ∧ (c = 0 → M.textL n d = s.data.toList) ∧ (∀ w, Calls Tryd.prog 19 #[.string s] w fun e w' => e = .returned (.agg #[.int .i64 n, .int .i64 d, .int .i64 c]) ∧ Below w.heap.size w w') ∧
    (∀ w, Rd1 w → Calls Tryd.prog 16 #[.string s] w fun e w' => e = .returned (.agg #[.int .i64 n, .int .i64 d, .int .i64 c]) ∧ Below w.heap.size w w') := by
  by_cases h : 20000 < s.size
  · exact ⟨0, 0, 2, by omega, by omega, fun w => specRead_long s h w, fun w hr => implRead_long s h w hr⟩
  · have hs : s.size ≤ 20000 := by omega
    by_cases hx : ∃ n d, M.rightB n d = true ∧ M.textL n d = s.data.toList
    · obtain ⟨n, d, h1, h2⟩ := hx
      have hR : M.ReadTo s.data.toList n d 0 := Or.inl ⟨h1, h2, rfl⟩
      have bd := M.right_bd h1
      refine ⟨n, d, 0, by omega, fun _ => h2, fun w => (specRead_any s hs w).mono ?_, fun w hr => (implRead_any s hs w hr).mono ?_⟩ <;> rintro e w' ⟨⟨n', d', c', hr', rfl⟩, hb⟩ <;> obtain ⟨rfl, rfl, rfl⟩ := M.readTo_unique hR hr' <;> exact ⟨rfl, hb⟩
    · have hR : M.ReadTo s.data.toList 0 0 3 := Or.inr ⟨fun n d h1 h2 => hx ⟨n, d, h1, h2⟩, rfl, rfl, rfl⟩
      refine ⟨0, 0, 3, by omega, by omega, fun w => (specRead_any s hs w).mono ?_, fun w hr => (implRead_any s hs w hr).mono ?_⟩ <;> rintro e w' ⟨⟨n', d', c', hr', rfl⟩, hb⟩ <;> obtain ⟨rfl, rfl, rfl⟩ := M.readTo_unique hR hr' <;> exact ⟨rfl, hb⟩

theorem back_read (n d : Int) (h : M.rightB n d = true) (w : World) (hr : Rd1 w) :
    Calls Tryd.prog 16 #[.string ⟨(M.textL n d).toArray⟩] w fun e w' => e = .returned (.agg #[.int .i64 n, .int .i64 d, .int .i64 0]) ∧ Below w.heap.size w w' := by
  have bd := M.right_bd h
  have hl : (M.textL n d).length ≤ 20000 := by
    have h1 := Lib.itoa_length_le n (by omega) (by omega)
    have h2 := Lib.itoa_length_le d (by omega) (by omega)
    rcases M.textL_cut n d h with ⟨_, e, _⟩ | ⟨_, e, _⟩ <;> rw [e]
    · omega
    · simp; omega
  refine (implRead_any ⟨(M.textL n d).toArray⟩ (by show (M.textL n d).toArray.size ≤ 20000; simpa using hl) w hr).mono ?_
  rintro e w' ⟨⟨n', d', c', hr', rfl⟩, hb⟩
  have hR : M.ReadTo (M.textL n d) n d 0 := Or.inl ⟨h, rfl, rfl⟩
  obtain ⟨rfl, rfl, rfl⟩ := M.readTo_unique hR hr'
  exact ⟨rfl, hb⟩
end Go.Proofs.YtemmmhkjjcmcmaaDoor
