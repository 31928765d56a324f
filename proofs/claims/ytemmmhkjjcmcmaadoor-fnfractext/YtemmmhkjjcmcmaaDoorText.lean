/-
  The contracts of both packages' FracText.
-/
import Derived.Test.YtemmmhkjjcmcmaaDoorDec
import Derived.Test.YtemmmhkjjcmcmaaDoorShelf
import Derived.Lib.AppendIntMem
import Derived.Lib.SmallJoins
import Derived.Deep.RegionHeld3
namespace Go.Proofs.YtemmmhkjjcmcmaaDoor
open Go.RowKit

namespace M
/-- The text of a fraction that is right; none of another one. -/
def textL (n d : Int) : List UInt8 := if rightB n d then (if d = 1 then Lib.itoa n else Lib.itoa n ++ (47 :: Lib.itoa d)) else []
theorem itoa_len (n : Int) (h1 : -2147483647 ≤ n) (h2 : n ≤ 2147483647) : (Lib.itoa n).length ≤ 2147483650 := by
  unfold Lib.itoa
  split
  · have := dec_len n.natAbs; simp; omega
  · have := dec_len n.toNat; omega
theorem join3 (a b : List UInt8) : ((⟨a.toArray⟩ : ByteArray) ++ ⟨#[47]⟩) ++ ⟨b.toArray⟩ = ⟨(a ++ (47 :: b)).toArray⟩ := by
  rw [ba_append, ba_append]; simp
end M

/-- A fraction in a new block, still there in a later world. -/
theorem one_later {w w' : World} {n d : Int} {t : TypeId} (h : Below (w.heap.size + 1) (w.alloc (.cells #[.int .i64 n, .int .i64 d] t)) w') :
    w'.cell? ⟨w.heap.size, 0, none⟩ = some (.int .i64 n) ∧ w'.cell? ⟨w.heap.size, 1, none⟩ = some (.int .i64 d) ∧ w.heap.size < w'.heap.size ∧ Hid (Below w.heap.size w w') := by
  refine ⟨?_, ?_, ?_, ?_⟩
  · rw [h.cell (by simp)]; simp
  · rw [h.cell (by simp)]; simp
  · have := h.size; simp at this; omega
  · exact ((Below.refl _ _).alloc (Nat.le_refl _) _).trans (h.mono (by omega))

theorem one_keep {w W W' : World} {n d : Int} (hb : Below W.heap.size W W') (h : W.cell? ⟨w.heap.size, 0, none⟩ = some (.int .i64 n) ∧ W.cell? ⟨w.heap.size, 1, none⟩ = some (.int .i64 d) ∧ w.heap.size < W.heap.size ∧ Hid (Below w.heap.size w W)) :
    W'.cell? ⟨w.heap.size, 0, none⟩ = some (.int .i64 n) ∧ W'.cell? ⟨w.heap.size, 1, none⟩ = some (.int .i64 d) ∧ w.heap.size < W'.heap.size ∧ Hid (Below w.heap.size w W') := by
  obtain ⟨c1, c2, hz, hB⟩ := h
  exact ⟨(hb.cell (p := ⟨w.heap.size, 0, none⟩) hz).trans c1, (hb.cell (p := ⟨w.heap.size, 1, none⟩) hz).trans c2, by have := hb.size; omega, hB.out.trans (hb.mono (by omega))⟩

set_option maxRecDepth 100000 in
set_option maxHeartbeats 2000000 in
theorem specText_any (n d : Int) (w : World) :
    Calls Tryd.prog 36 #[.agg #[.int .i64 n, .int .i64 d]] w fun e w' => e = .returned (.string ⟨(M.textL n d).toArray⟩) ∧ Below w.heap.size w w' := by
  unfold M.textL
  cases hr : M.rightB n d
  · rw [if_neg (by decide)]
    go_enter Tryd.func36, Tryd.ntmps36
    go_wp2_with fail
    refine (specRight_any _ _ _).mono ?_
    rintro e w1 ⟨rfl, hb⟩
    rw [hr]
    obtain ⟨c1, c2, hz, hB⟩ := one_later (hb.mono (by simp))
    clear hb
    go_wp2_with fail
    go_ret
    exact ⟨rfl, hB.out⟩
  rw [if_pos rfl]
  have r := (M.rightB_iff n d).1 hr
  have l1 := M.itoa_len n r.2.2.1 r.2.2.2.1
  have l2 := M.itoa_len d (by omega) r.2.1
  obtain ⟨rd1, rd2, rn1, rn2, _⟩ := r
  by_cases hd : d = 1
  · have hd' : (d == 1) = true := by simp [hd]
    rw [if_pos hd]
    clear hd
    go_enter Tryd.func36, Tryd.ntmps36
    go_wp2_with fail
    refine (specRight_any _ _ _).mono ?_
    rintro e w1 ⟨rfl, hb⟩
    rw [hr]
    obtain ⟨c1, c2, hz, hB⟩ := one_later (hb.mono (by simp))
    clear hb
    go_wp2_with fail
    refine (specDec_any _ _ rn1 rn2).mono ?_
    rintro e w2 ⟨rfl, hb2⟩
    have HB2 : Hid (Below w.heap.size w w2) := hB.out.trans (hb2.mono (by omega))
    clear hb2
    go_wp2_with fail
    go_ret
    exact ⟨rfl, HB2.out⟩
  · have hd' : (d == 1) = false := by simp [hd]
    rw [if_neg hd]
    have Hd : Hid (d ≠ 1) := hd
    clear hd
    rw [← M.join3]
    have HN := fun wx => specDec_any n wx rn1 rn2
    have HD := fun wx => specDec_any d wx (by omega) rd2
    generalize Lib.itoa n = A at *
    generalize Lib.itoa d = B at *
    have HN' : Hid (∀ wx, Calls Tryd.prog 49 #[.int .i64 n] wx fun e w' => e = .returned (.string ⟨A.toArray⟩) ∧ Below wx.heap.size wx w') := HN
    have HD' : Hid (∀ wx, Calls Tryd.prog 49 #[.int .i64 d] wx fun e w' => e = .returned (.string ⟨B.toArray⟩) ∧ Below wx.heap.size wx w') := HD
    clear HN HD
    go_enter Tryd.func36, Tryd.ntmps36
    go_wp2_with fail
    refine (specRight_any _ _ _).mono ?_
    rintro e w1 ⟨rfl, hb⟩
    rw [hr]
    have t1 := one_later (hb.mono (by simp))
    obtain ⟨c1, c2, hz, hB⟩ := t1
    clear hb hr
    have z1 : ¬ 9223372036854775807 < A.length + 1 := by omega
    have z2 : ¬ 9223372036854775807 < A.length + 1 + B.length := by omega
    go_wp2_with fail
    go_region_held3 (fun w' => w'.cell? ⟨w.heap.size, 0, none⟩ = some (.int .i64 n) ∧ w'.cell? ⟨w.heap.size, 1, none⟩ = some (.int .i64 d) ∧ w.heap.size < w'.heap.size ∧ Hid (Below w.heap.size w w')) (first | exact ⟨c1, c2, hz, hB.out.drew⟩ | refine one_keep ‹_› ‹_› | assumption) (first | (go_at_call_of 49 (Value.int IntKind.i64 n); refine (HN'.out _).mono ?_; rintro e w' ⟨rfl, hb⟩) | (go_at_call_of 49 (Value.int IntKind.i64 d); refine (HD'.out _).mono ?_; rintro e w' ⟨rfl, hb⟩))
    all_goals
      rename_i hh
      have HB := hh.2.2.2
      clear hh
      go_wp2_with fail
      go_ret
      exact ⟨rfl, HB.out⟩
end Go.Proofs.YtemmmhkjjcmcmaaDoor
