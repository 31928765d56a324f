/-
  The draw of a turn.
-/
import Derived.Test.YtjcdkaojdpcagaaMtS1
import Derived.Test.YtjcdkaojdpcagaaDrawA
import Derived.Test.YtjcdkaojdpcagaaSource
namespace Go.Proofs.Ytjcdkaojdpcagaa
open Go.RowKit Go.Deep

set_option maxRecDepth 100000 in
set_option maxHeartbeats 2000000 in
theorem drawTurn_any (a : Option Addr) (len cap : Nat) (w : World) (h : Bytes a len w) (hl : len ≤ 4194304) :
    Calls Try.prog 17 #[.slice a len cap] w fun e w' => (∃ d x y : Int, e = .returned (.tuple #[.int .i64 d, .int .i64 x, .int .i64 y]) ∧ 2 ≤ d ∧ d ≤ 8 ∧ (-2 ≤ x ∧ x ≤ 100000000) ∧ (-2 ≤ y ∧ y ≤ 100000000)) ∧ Below w.heap.size w w' := by
  have H := Lib.hid h
  clear h
  go_enter Try.func17, Try.ntmps17
  go_wp2_with fail
  refine (source_any a len cap _ H.out hl).mono ?_
  rintro e w1 ⟨rfl, hs, hb⟩
  have HB := Lib.hid hb
  have HS := Lib.hid hs
  clear hb hs H
  go_wp2_with fail
  refine (n_any w.heap.size (7) _ HS.out (by omega)).mono ?_
  rintro e w2 ⟨⟨d, rfl, d0, d1, _⟩, hD⟩
  have d2 := d1 (by omega)
  have HB2 : Hid (Below w.heap.size w w2) := HB.out.trans (hD.2.below (Nat.le_refl _) HB.out.size)
  clear HB
  have HB := HB2
  clear HB2
  replace HS := Lib.hid hD.1
  clear hD d1
  obtain ⟨F, hF⟩ : ∃ F, F = Mt.full (2 + d) := ⟨_, rfl⟩
  have hF0 : 1 ≤ F ∧ F ≤ 100000000 := by rw [hF]; exact Mt.full_bd8 (by omega)
  have HF := Lib.hid hF
  clear hF
  go_wp2_with fail
  refine (sfull_any (2 + d) ⟨by omega, by omega⟩ _).mono ?_
  rintro e w3 ⟨rfl, rfl⟩
  rw [← HF.out]
  go_wp2_with fail
  refine (n_any w.heap.size (F + 1) _ HS.out (by omega)).mono ?_
  rintro e w4 ⟨⟨x, rfl, x0, x1, _⟩, hD⟩
  have x2 := x1 (by omega)
  have HB2 : Hid (Below w.heap.size w w4) := HB.out.trans (hD.2.below (Nat.le_refl _) HB.out.size)
  clear HB
  have HB := HB2
  clear HB2
  replace HS := Lib.hid hD.1
  clear hD x1
  go_wp2_with fail
  refine (n_any w.heap.size (2) _ HS.out (by omega)).mono ?_
  rintro e w5 ⟨⟨y, rfl, y0, y1, _⟩, hD⟩
  have y2 := y1 (by omega)
  have HB2 : Hid (Below w.heap.size w w5) := HB.out.trans (hD.2.below (Nat.le_refl _) HB.out.size)
  clear HB
  have HB := HB2
  clear HB2
  replace HS := Lib.hid hD.1
  clear hD y1
  go_wp2_with fail
  refine (sfull_any (2 + d) ⟨by omega, by omega⟩ _).mono ?_
  rintro e w6 ⟨rfl, rfl⟩
  rw [← HF.out]
  go_wp2_with fail
  refine (n_any w.heap.size (F + 1) _ HS.out (by omega)).mono ?_
  rintro e w7 ⟨⟨x2, rfl, x20, x21, _⟩, hD⟩
  have x22 := x21 (by omega)
  have HB2 : Hid (Below w.heap.size w w7) := HB.out.trans (hD.2.below (Nat.le_refl _) HB.out.size)
  clear HB
  have HB := HB2
  clear HB2
  replace HS := Lib.hid hD.1
  clear hD x21
  go_wp2_with fail
  refine (n_any w.heap.size (2) _ HS.out (by omega)).mono ?_
  rintro e w8 ⟨⟨y2, rfl, y20, y21, _⟩, hD⟩
  have y22 := y21 (by omega)
  have HB2 : Hid (Below w.heap.size w w8) := HB.out.trans (hD.2.below (Nat.le_refl _) HB.out.size)
  clear HB
  have HB := HB2
  clear HB2
  replace HS := Lib.hid hD.1
  clear hD y21
  go_wp2_with fail
  exact bodyPost_ret (v := .tuple #[.int .i64 (2 + d), .int .i64 (x - y), .int .i64 (x2 - y2)]) (by simp only [results, Try.results17]; simp [go_sem]) rfl ⟨⟨_, _, _, rfl, by omega, by omega, by omega, by omega⟩, HB.out⟩
end Go.Proofs.Ytjcdkaojdpcagaa
