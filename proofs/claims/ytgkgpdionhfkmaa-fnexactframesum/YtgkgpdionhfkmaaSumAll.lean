/-
  The law FnExactFrameSum of the program.
-/
import Derived.Test.YtgkgpdionhfkmaaFrEx
import Derived.Test.YtgkgpdionhfkmaaFrI1
import Derived.Lib.ConvBytes
import Derived.Lib.AtoiErrMem
namespace Go.Proofs.Ytgkgpdionhfkmaa
open Go.RowKit

set_option maxRecDepth 100000 in
set_option maxHeartbeats 1000000 in
theorem implFrameSum_any (s : ByteArray) (w : World) :
    Calls Try.prog 11 #[.string s] w fun e w' => e = .returned (.int .i64 (if 20000 < s.size then 0 else (Crc.sum s.data.toList : Int))) ∧ Below w.heap.size w w' := by
  by_cases hs : 20000 < s.size
  · have hz : (20000 : Int) < (s.size : Int) := by omega
    rw [if_pos hs]
    go_enter Try.func11, Try.ntmps11
    go_wp2_with fail
    go_ret
    exact ⟨rfl, Below.refl _ _⟩
  · have hz : ¬ (20000 : Int) < (s.size : Int) := by omega
    rw [if_neg hs]
    have hcv := fun wx => Lib.run_convert_string_bytes (P := Try.prog) wx 9 34 5 s Try.underlying9 Try.underlying34 Try.underlying5
    have hm := Crc.sum_lt s.data.toList
    go_enter Try.func11, Try.ntmps11
    go_wp2_with fail
    refine (sumBytes_any s.data.toList (some ⟨w.heap.size, 0, none⟩) w.heap.size 0 _ (by show s.size ≤ _; omega) _ (fun _ => rfl) (fun j hj => ?_)).mono ?_
    · rw [Nat.zero_add, Lib.bytesWorld_cell w 5 s j hj]
      rw [List.getD_eq_getElem?_getD, List.getElem?_eq_getElem hj]
      rfl
    rintro e w1 ⟨rfl, rfl⟩
    have HB : Hid (Below w.heap.size w (Lib.bytesWorld w 5 s)) := Lib.bytesWorld_below _ _ _
    generalize hM : Crc.sum s.data.toList = m at *
    have HM := Lib.hid hM
    clear hM
    go_wp2_with fail
    go_ret
    exact ⟨by rw [HM.out]; rfl, HB.out⟩
theorem sum_all (s : ByteArray) (hs : s.size ≤ 1048576) (w : World) :
    Calls Try.prog 4 #[.string s] w fun e w' => e = .returned (.bool true) ∧ Below w.heap.size w w' :=
  sum_law s _ hs (fun w => specFrameSum_any s w) (fun w => implFrameSum_any s w) w
end Go.Proofs.Ytgkgpdionhfkmaa
