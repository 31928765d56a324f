/-
  The contracts of both packages' comparison of two fractions.
-/
import Derived.Test.YtemmmhkjjcmcmaaDoorRight
import Derived.Test.YtemmmhkjjcmcmaaDoorOpCommon
namespace Go.Proofs.YtemmmhkjjcmcmaaDoor
open Go.RowKit

namespace M
/-- -1, 0, 1, as x is below, equal to, above y. -/
def cmpI (x y : Int) : Int := if x < y then -1 else if y < x then 1 else 0
end M

/-- What FracCmp is to answer. -/
def M.cmpF (n1 d1 n2 d2 : Int) : Int := if M.rightB n1 d1 && M.rightB n2 d2 then M.cmpI (n1 * d2) (n2 * d1) else 0

set_option maxHeartbeats 400000 in
theorem compare_any (a b : Int) (w : World) :
    Calls Tryd.prog 30 #[.int .i64 a, .int .i64 b] w fun e w' => e = .returned (.int .i64 (M.cmpI a b)) ∧ w' = w := by
  unfold M.cmpI
  by_cases h1 : a < b
  · go_enter Tryd.func30, Tryd.ntmps30
    go_wp2
    go_ret
    exact ⟨rfl, rfl⟩
  · by_cases h2 : b < a
    · go_enter Tryd.func30, Tryd.ntmps30
      go_wp2
      go_ret
      exact ⟨rfl, rfl⟩
    · go_enter Tryd.func30, Tryd.ntmps30
      go_wp2
      go_ret
      exact ⟨rfl, rfl⟩

set_option maxHeartbeats 400000 in
theorem implCmp_any (n1 d1 n2 d2 : Int) (w : World) (h1 : -9223372036854775808 ≤ n1) (h2 : n1 ≤ 9223372036854775807) (h3 : -9223372036854775808 ≤ d1) (h4 : d1 ≤ 9223372036854775807) (h5 : -9223372036854775808 ≤ n2) (h6 : n2 ≤ 9223372036854775807) (h7 : -9223372036854775808 ≤ d2) (h8 : d2 ≤ 9223372036854775807) :
    Calls Tryd.prog 12 #[.agg #[.int .i64 n1, .int .i64 d1], .agg #[.int .i64 n2, .int .i64 d2]] w fun e w' => e = .returned (.int .i64 (M.cmpF n1 d1 n2 d2)) ∧ Below w.heap.size w w' := by
  unfold M.cmpF
  cases hr1 : M.rightB n1 d1
  · go_enter Tryd.func12, Tryd.ntmps12
    go_wp2_with fail
    refine (implRight_any _ _ _ (by omega) (by omega) (by omega) (by omega)).mono ?_
    rintro e w1 ⟨rfl, hb1⟩
    rw [hr1]
    obtain ⟨c1, c2, c3, c4, hz, hB⟩ := two_later (hb1.mono (by simp))
    clear hb1
    go_wp2_with fail
    go_ret
    exact ⟨rfl, hB.out⟩
  · cases hr2 : M.rightB n2 d2
    · go_enter Tryd.func12, Tryd.ntmps12
      go_wp2_with fail
      refine (implRight_any _ _ _ (by omega) (by omega) (by omega) (by omega)).mono ?_
      rintro e w1 ⟨rfl, hb1⟩
      rw [hr1]
      obtain ⟨c1, c2, c3, c4, hz, hB⟩ := two_later (hb1.mono (by simp))
      clear hb1
      go_wp2_with fail
      refine (implRight_any _ _ _ (by omega) (by omega) (by omega) (by omega)).mono ?_
      rintro e w2 ⟨rfl, hb2⟩
      rw [hr2]
      have hB2 : Hid (Below w.heap.size w w2) := hB.out.trans (hb2.mono (by omega))
      clear hb2
      go_wp2_with fail
      go_ret
      exact ⟨rfl, hB2.out⟩
    · have r1 := (M.rightB_iff n1 d1).1 hr1
      have r2 := (M.rightB_iff n2 d2).1 hr2
      have p1 := M.prod_bd r1.2.2.1 r1.2.2.2.1 r2.1 r2.2.1
      have p2 := M.prod_bd r2.2.2.1 r2.2.2.2.1 r1.1 r1.2.1
      obtain ⟨p1a, p1b⟩ := p1
      obtain ⟨p2a, p2b⟩ := p2
      clear r1 r2
      go_enter Tryd.func12, Tryd.ntmps12
      go_wp2_with fail
      refine (implRight_any _ _ _ (by omega) (by omega) (by omega) (by omega)).mono ?_
      rintro e w1 ⟨rfl, hb1⟩
      rw [hr1]
      obtain ⟨c1, c2, c3, c4, hz, hB⟩ := two_later (hb1.mono (by simp))
      clear hb1
      go_wp2_with fail
      refine (implRight_any _ _ _ (by omega) (by omega) (by omega) (by omega)).mono ?_
      rintro e w2 ⟨rfl, hb2⟩
      rw [hr2]
      have hB2 : Hid (Below w.heap.size w w2) := hB.out.trans (hb2.mono (by omega))
      have e1 := c1 ▸ hb2.cell (p := ⟨w.heap.size, 0, none⟩) (by show w.heap.size < _; omega)
      have e2 := c2 ▸ hb2.cell (p := ⟨w.heap.size, 1, none⟩) (by show w.heap.size < _; omega)
      have e3 := c3 ▸ hb2.cell (p := ⟨w.heap.size + 1, 0, none⟩) (by show w.heap.size + 1 < _; omega)
      have e4 := c4 ▸ hb2.cell (p := ⟨w.heap.size + 1, 1, none⟩) (by show w.heap.size + 1 < _; omega)
      clear hb2 c1 c2 c3 c4
      go_wp2_with fail
      refine (compare_any _ _ _).mono ?_
      rintro e w3 ⟨rfl, rfl⟩
      go_wp2_with fail
      go_ret
      exact ⟨rfl, hB2.out⟩

end Go.Proofs.YtemmmhkjjcmcmaaDoor
