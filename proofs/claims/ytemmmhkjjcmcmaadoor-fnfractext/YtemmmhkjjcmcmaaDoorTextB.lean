/-
  The contract of the program's FracText, where the library's table of powers of ten lies as the program's text lays it.
-/
import Derived.Test.YtemmmhkjjcmcmaaDoorText
namespace Go.Proofs.YtemmmhkjjcmcmaaDoor
open Go.RowKit

abbrev TabOk (w : World) : Prop := Lib.TabIs Tryd.prog w "internal/strconv.uint64pow10" .u64 Lib.pow10Tab

theorem fmt_any (n : Int) (h0 : -9223372036854775808 ≤ n) (h1 : n ≤ 9223372036854775807) (w : World) (ht : TabOk w) :
    Calls Tryd.prog 35 #[.int .i64 n, .int .i64 10] w fun e w' => e = .returned (.string ⟨(Lib.itoa n).toArray⟩) ∧ Below w.heap.size w w' :=
  (Tryd.strconv_FormatInt_10 n h0 h1 w ht).mono fun _ _ ⟨he, k, os, hw⟩ => ⟨he, by rw [hw]; exact Lib.below_grow _ w (Nat.le_refl _) k os⟩

set_option maxRecDepth 100000 in
set_option maxHeartbeats 2000000 in
theorem implText_any (n d : Int) (w : World) (b1 : -9223372036854775808 ≤ n) (b2 : n ≤ 9223372036854775807) (b3 : -9223372036854775808 ≤ d) (b4 : d ≤ 9223372036854775807) (htab : TabOk w) :
    Calls Tryd.prog 17 #[.agg #[.int .i64 n, .int .i64 d]] w fun e w' => e = .returned (.string ⟨(M.textL n d).toArray⟩) ∧ Below w.heap.size w w' := by
  have HT : Hid (∀ wx, Hid (Below w.heap.size w wx) → TabOk wx) := fun wx hB => Lib.tabBelow_of_tabIs htab wx hB.out
  clear htab
  unfold M.textL
  cases hr : M.rightB n d
  · rw [if_neg (by decide)]
    go_enter Tryd.func17, Tryd.ntmps17
    go_wp2_with fail
    refine (implRight_any _ _ _ b1 b2 b3 b4).mono ?_
    rintro e w1 ⟨rfl, hb⟩
    rw [hr]
    obtain ⟨c1, c2, hz, hB⟩ := one_later (hb.mono (by simp))
    clear hb
    go_wp2_with fail
    go_ret
    exact ⟨rfl, hB.out⟩
  rw [if_pos rfl]
  have r := (M.rightB_iff n d).1 hr
  have l1 := M.itoa_len n r.2.2.1 r.2.2.2.1
  have l2 := M.itoa_len d (by omega) r.2.1
  clear r
  by_cases hd : d = 1
  · have hd' : (d == 1) = true := by simp [hd]
    rw [if_pos hd]
    clear hd
    go_enter Tryd.func17, Tryd.ntmps17
    go_wp2_with fail
    refine (implRight_any _ _ _ b1 b2 b3 b4).mono ?_
    rintro e w1 ⟨rfl, hb⟩
    rw [hr]
    obtain ⟨c1, c2, hz, hB⟩ := one_later (hb.mono (by simp))
    clear hb
    go_wp2_with fail
    refine (fmt_any _ b1 b2 _ (HT.out _ hB)).mono ?_
    rintro e w2 ⟨rfl, hb2⟩
    obtain ⟨c1', c2', hz', HB2⟩ := one_keep hb2 ⟨c1, c2, hz, hB⟩
    clear hb2
    go_wp2_with fail
    go_ret
    exact ⟨rfl, HB2.out⟩
  · have hd' : (d == 1) = false := by simp [hd]
    rw [if_neg hd]
    have Hd : Hid (d ≠ 1) := hd
    clear hd
    rw [← M.join3]
    have HN := fun wx h => fmt_any n b1 b2 wx h
    have HD := fun wx h => fmt_any d b3 b4 wx h
    generalize Lib.itoa n = A at *
    generalize Lib.itoa d = B at *
    have HN' : Hid (∀ wx, TabOk wx → Calls Tryd.prog 35 #[.int .i64 n, .int .i64 10] wx fun e w' => e = .returned (.string ⟨A.toArray⟩) ∧ Below wx.heap.size wx w') := HN
    have HD' : Hid (∀ wx, TabOk wx → Calls Tryd.prog 35 #[.int .i64 d, .int .i64 10] wx fun e w' => e = .returned (.string ⟨B.toArray⟩) ∧ Below wx.heap.size wx w') := HD
    clear HN HD
    have z1 : ¬ 9223372036854775807 < A.length + 1 := by omega
    have z2 : ¬ 9223372036854775807 < A.length + 1 + B.length := by omega
    go_enter Tryd.func17, Tryd.ntmps17
    go_wp2_with fail
    refine (implRight_any _ _ _ b1 b2 b3 b4).mono ?_
    rintro e w1 ⟨rfl, hb⟩
    rw [hr]
    obtain ⟨c1, c2, hz, hB⟩ := one_later (hb.mono (by simp))
    clear hb hr
    go_wp2_with fail
    refine (HN'.out _ (HT.out _ hB)).mono ?_
    rintro e w2 ⟨rfl, hb2⟩
    obtain ⟨c1', c2', hz', HB2⟩ := one_keep hb2 ⟨c1, c2, hz, hB⟩
    clear hb2 c1 c2
    go_wp2_with fail
    refine (HD'.out _ (HT.out _ HB2)).mono ?_
    rintro e w3 ⟨rfl, hb3⟩
    have HB3 : Hid (Below w.heap.size w w3) := HB2.out.trans (hb3.mono (by omega))
    clear hb3
    go_wp2_with fail
    go_ret
    exact ⟨rfl, HB3.out⟩
end Go.Proofs.YtemmmhkjjcmcmaaDoor
