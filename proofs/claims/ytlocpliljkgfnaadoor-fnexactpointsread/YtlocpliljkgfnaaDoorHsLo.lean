/-
  Answers of PointsRead compared, marked and found again.
-/
import Derived.Test.YtlocpliljkgfnaaDoorHsFa
import Derived.Test.YtlocpliljkgfnaaDoorHsRj
namespace Go.Proofs.YtlocpliljkgfnaaDoor
open Go.RowKit Go.Deep

namespace Hs
open Classical in
/-- The list and the code that are read. -/
noncomputable def rdL (t : List UInt8) : List (Int × Int) := if h : ∃ l c, Rd t l c then h.choose else []
open Classical in
noncomputable def rdC (t : List UInt8) : Int := if h : ∃ l c, Rd t l c then h.choose_spec.choose else 0
theorem Rd.told {t : List UInt8} {l : List (Int × Int)} {c : Int} (h : Rd t l c) : l = rdL t ∧ c = rdC t := by
  have he : ∃ l c, Rd t l c := ⟨l, c, h⟩
  unfold rdL rdC
  rw [dif_pos he, dif_pos he]
  exact h.one he.choose_spec.choose_spec
theorem rdL_len (t : List UInt8) : (rdL t).length ≤ 300 := by
  unfold rdL
  by_cases he : ∃ l c, Rd t l c
  · rw [dif_pos he]; exact he.choose_spec.choose_spec.len
  · rw [dif_neg he]; simp
end Hs
theorem PoE.tell {t : List UInt8} {B : Nat} {e : Ending} {W : World} (h : PoE t B e W) : ∃ a k, e = .returned (.agg #[.slice a (Hs.rdL t).length k, .int .i64 (Hs.rdC t)]) ∧ CyO 38 B ((Hs.rdL t).length * 2) a k (Ln.fl (Hs.rdL t)) W := by
  obtain ⟨l, cd, a, k, hr, he, hc⟩ := h
  obtain ⟨h1, h2⟩ := hr.told
  subst h1 h2
  exact ⟨a, k, he, hc⟩
set_option maxRecDepth 100000 in
set_option maxHeartbeats 4000000 in
theorem eqPtsOut_same (a b : Option Addr) (n k q : Nat) (c : Int) (f : Nat → Int) (w : World) (h1 : IsAt a (n * 2) f w) (h2 : IsAt b (n * 2) f w) (hn : n ≤ 1048576) :
    Calls Tryd.prog 7 #[.agg #[.slice a n k, .int .i64 c], .agg #[.slice b n q, .int .i64 c]] w fun e w' => e = .returned (.bool true) ∧ Below w.heap.size w w' := by
  obtain ⟨W, hW⟩ : ∃ W, W = (w.alloc (.cells #[.slice a n k, .int .i64 c] 24)).alloc (.cells #[.slice b n q, .int .i64 c] 24) := ⟨_, rfl⟩
  have HB : Hid (Below w.heap.size w W) := by show Below _ _ _; rw [hW]; exact (nbel_alloc _ _).alloc (by simp) _
  have R0 : Hid (W.rowIs w.heap.size 24 2 (rowN [.slice a n k, .int .i64 c])) := by show World.rowIs _ _ _ _ _; rw [hW]; exact nrow_below (rowN_alloc w _ _) (nbel_alloc _ _)
  have R1 : Hid (W.rowIs (w.heap.size + 1) 24 2 (rowN [.slice b n q, .int .i64 c])) := by show World.rowIs _ _ _ _ _; rw [hW]; exact rowN_alloc' (by simp) _ _
  have H1 := Lib.hid (h1.below HB.out)
  have H2 := Lib.hid (h2.below HB.out)
  obtain ⟨⟨x0, x1⟩, _⟩ := rowN2 R0.out
  obtain ⟨⟨y0, y1⟩, _⟩ := rowN2 R1.out
  rw [hW] at x0 x1 y0 y1
  have HW := Lib.hid hW
  clear hW h1 h2
  go_enter Tryd.func7, Tryd.ntmps7
  go_wp2_with fail
  rw [← HW.out]
  refine (neqPointS_same a b n k q f W H1.out H2.out hn).mono ?_
  rintro e w1 ⟨rfl, hb⟩
  have HB1 : Hid (Below w.heap.size w w1) := HB.out.trans (hb.mono HB.out.size)
  have S0 := Lib.hid (nrow_below R0.out hb)
  have S1 := Lib.hid (nrow_below R1.out hb)
  clear hb x0 x1 y0 y1 HW R0 R1 HB H1 H2
  obtain ⟨⟨x0, x1⟩, _⟩ := rowN2 S0.out
  obtain ⟨⟨y0, y1⟩, _⟩ := rowN2 S1.out
  have hcc : (c != c) = false := by simp
  go_wp2_with fail
  go_ret
  exact ⟨rfl, HB1.out⟩
set_option maxRecDepth 100000 in
set_option maxHeartbeats 4000000 in
theorem markPtsOut_any {B N k q : Nat} {a : Option Addr} {f : Nat → Int} (c : Int) (w : World) (h : CyO 38 B (N * 2) a q f w) (hn : N ≤ 1048576) (hk : k ≤ 1073741824) :
    Calls Tryd.prog 8 #[.agg #[.slice a N q, .int .i64 c], .int .i64 (k : Nat)] w fun e w' => e = .returned (.int .i64 ((k + N * 2 : Nat) : Int)) ∧ CyO 38 B (N * 2) a q (mk1 k) w' ∧ OnlyA [a] w w' := by
  obtain ⟨W, hW⟩ : ∃ W, W = w.alloc (.cells #[.slice a N q, .int .i64 c] 24) := ⟨_, rfl⟩
  have HB : Hid (Below w.heap.size w W) := by show Below _ _ _; rw [hW]; exact nbel_alloc _ _
  have R0 : Hid (W.rowIs w.heap.size 24 2 (rowN [.slice a N q, .int .i64 c])) := by show World.rowIs _ _ _ _ _; rw [hW]; exact rowN_alloc w _ _
  have H1 := Lib.hid (h.below HB.out)
  obtain ⟨⟨x0, x1⟩, _⟩ := rowN2 R0.out
  rw [hW] at x0 x1
  have HW := Lib.hid hW
  clear hW h
  go_enter Tryd.func8, Tryd.ntmps8
  go_wp2_with fail
  rw [← HW.out]
  refine (markPts_any (k := k) W H1.out hn hk).mono ?_
  rintro e w1 ⟨rfl, hm, ho⟩
  have HM := Lib.hid hm
  have HO : Hid (OnlyA [a] w w1) := (OnlyA.of_below HB.out).trans ho
  obtain ⟨M, hM⟩ : ∃ M : Nat, M = k + N * 2 := ⟨_, rfl⟩
  rw [← hM]
  have HMM := Lib.hid hM
  clear hm ho hM x0 x1 HW R0 HB H1
  go_wp2_with fail
  go_ret
  exact ⟨by rw [← HMM.out]; rfl, HM.out, HO.out⟩
set_option maxRecDepth 100000 in
set_option maxHeartbeats 4000000 in
theorem heldPtsOut_any {B N k q : Nat} {a : Option Addr} (c : Int) (w : World) (h : CyO 38 B (N * 2) a q (mk1 k) w) (hn : N ≤ 1048576) (hk : k ≤ 1073741824) :
    Calls Tryd.prog 9 #[.agg #[.slice a N q, .int .i64 c], .int .i64 (k : Nat)] w fun e w' => e = .returned (.int .i64 ((k + N * 2 : Nat) : Int)) ∧ Below w.heap.size w w' := by
  obtain ⟨W, hW⟩ : ∃ W, W = w.alloc (.cells #[.slice a N q, .int .i64 c] 24) := ⟨_, rfl⟩
  have HB : Hid (Below w.heap.size w W) := by show Below _ _ _; rw [hW]; exact nbel_alloc _ _
  have R0 : Hid (W.rowIs w.heap.size 24 2 (rowN [.slice a N q, .int .i64 c])) := by show World.rowIs _ _ _ _ _; rw [hW]; exact rowN_alloc w _ _
  have H1 := Lib.hid (h.below HB.out)
  obtain ⟨⟨x0, x1⟩, _⟩ := rowN2 R0.out
  rw [hW] at x0 x1
  have HW := Lib.hid hW
  clear hW h
  go_enter Tryd.func9, Tryd.ntmps9
  go_wp2_with fail
  rw [← HW.out]
  refine (heldPts_any (k := k) W H1.out hn hk).mono ?_
  rintro e w1 ⟨rfl, hw⟩
  have HB1 : Hid (Below w.heap.size w w1) := by show Below _ _ _; rw [hw]; exact HB.out
  obtain ⟨M, hM⟩ : ∃ M : Nat, M = k + N * 2 := ⟨_, rfl⟩
  rw [← hM]
  have HMM := Lib.hid hM
  have hM0 : ¬ (M : Int) < 0 := by omega
  clear hw hM x0 x1 HW R0 HB H1
  go_wp2_with fail
  go_ret
  exact ⟨by rw [← HMM.out]; rfl, HB1.out⟩
end Go.Proofs.YtlocpliljkgfnaaDoor
