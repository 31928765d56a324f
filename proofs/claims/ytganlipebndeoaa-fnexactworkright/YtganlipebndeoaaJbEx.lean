/-
  The laws' conversions, sizes and comparisons of a job.
-/
import Derived.Test.YtganlipebndeoaaJbMem
import Derived.Test.YtganlipebndeoaaNtEx1
namespace Go.Proofs.Ytganlipebndeoaa
open Go.RowKit Go.Deep

/-- What is left: below nought, or all is small. -/
def SzJ (l n : Nat) (e : Ending) : Prop := (∃ z : Int, e = .returned (.int .i64 z) ∧ z < 0) ∨ (n ≤ l ∧ e = .returned (.int .i64 ((l - n : Nat) : Int)))
set_option maxRecDepth 100000 in
set_option maxHeartbeats 2000000 in
theorem szJob_any (x : Je) (l : Nat) (w : World) (hl : l ≤ 1048576) (hm : x.an ≤ 9223372036854775807) (hm2 : x.rn ≤ 9223372036854775807) :
    Calls Try.prog 22 #[jbV x, .int .i64 l] w fun e w' => SzJ l (x.an + x.rn) e ∧ Below w.heap.size w w' := by
  obtain ⟨dy, cw, pa, an, ak, A, pr, rn, rk, R⟩ := x
  simp only at hm hm2 ⊢
  have hB := Lib.hid ((Below.refl w.heap.size w).alloc (Nat.le_refl _) (.cells #[.int .i64 dy, .int .i64 cw, .slice pa an ak, .slice pr rn rk] 43))
  by_cases h1 : an ≤ l
  · have hz : ¬ ((l - an : Nat) : Int) < 0 := by omega
    go_enter Try.func22, Try.ntmps22
    go_wp2_with fail
    refine (nszInt64_in pa an ak l _ h1 hl).mono ?_
    rintro e w1 ⟨rfl, rfl⟩
    obtain ⟨l2, hl2⟩ : ∃ l2, l2 = l - an := ⟨_, rfl⟩
    have HL2 := Lib.hid hl2
    rw [← hl2] at hz ⊢
    clear hl2
    have hl3 : l2 ≤ 1048576 := by have := HL2.out; omega
    go_wp2_with fail
    by_cases h2 : rn ≤ l2
    · refine (nszInt64_in pr rn rk l2 _ h2 hl3).mono ?_
      rintro e w1 ⟨rfl, rfl⟩
      have hz2 : ¬ ((l2 - rn : Nat) : Int) < 0 := by omega
      go_wp2_with fail
      go_ret
      refine ⟨Or.inr ⟨by have := HL2.out; omega, ?_⟩, hB.out⟩
      have e2 : l - (an + rn) = l2 - rn := by have := HL2.out; omega
      rw [e2]; rfl
    · refine (nszInt64_over pr rn rk l2 _ (by omega) hl3 hm2).mono ?_
      rintro e w1 ⟨rfl, rfl⟩
      go_wp2_with fail
      go_ret
      exact ⟨Or.inl ⟨_, rfl, by omega⟩, hB.out⟩
  · go_enter Try.func22, Try.ntmps22
    go_wp2_with fail
    refine (nszInt64_over pa an ak l _ (by omega) hl hm).mono ?_
    rintro e w1 ⟨rfl, rfl⟩
    go_wp2_with fail
    go_ret
    exact ⟨Or.inl ⟨_, rfl, by omega⟩, hB.out⟩
theorem jhs (w : World) (p g : Nat) (hp : g ≠ p) (i : Nat) (a : Value) : (w.setCell ⟨p, i, none⟩ a).heap[g]? = w.heap[g]? := Below.heap_setCell _ _ _ _ hp
set_option maxRecDepth 100000 in
set_option maxHeartbeats 8000000 in
theorem toJob_any (x : Je) (w : World) (h1 : IsIn x.pa x.an x.A w) (h2 : IsIn x.pr x.rn x.R w) (hs1 : x.an ≤ 1048576) (hs2 : x.rn ≤ 1048576) :
    Calls Try.prog 24 #[jbV x] w fun e w' => (∃ g q, e = .returned (jbV ⟨x.dy, x.cw, some ⟨g, 0, none⟩, x.an, x.an, x.A, some ⟨q, 0, none⟩, x.rn, x.rn, x.R⟩) ∧ w.heap.size ≤ g ∧ g < q ∧ IsBlk 2 g x.an x.A w' ∧ IsBlk 2 q x.rn x.R w') ∧ Below w.heap.size w w' := by
  obtain ⟨dy, cw, pa, an, ak, A, pr, rn, rk, R⟩ := x
  simp only at h1 h2 hs1 hs2 ⊢
  obtain ⟨W, hW⟩ : ∃ W, W = ((w.alloc (.cells #[.int .i64 dy, .int .i64 cw, .slice pa an ak, .slice pr rn rk] 43)).alloc (.cells #[.int .i64 0, .int .i64 0, .slice none 0 0, .slice none 0 0] 44)).alloc (.cells #[.int .i64 dy, .int .i64 cw, .slice none 0 0, .slice none 0 0] 44) := ⟨_, rfl⟩
  have hsz : W.heap.size = w.heap.size + 3 := by rw [hW]; simp
  have hB : Below w.heap.size w W := by rw [hW]; exact (((Below.refl _ _).alloc (Nat.le_refl _) _).alloc (by simp) _).alloc (by simp; omega) _
  have RA : W.rowIs w.heap.size 43 4 (rowN [.int .i64 dy, .int .i64 cw, .slice pa an ak, .slice pr rn rk]) := by
    rw [hW]; exact nrow_below (nrow_below (rowN_alloc w _ _) (nbel_alloc _ _)) (nbel_alloc _ _)
  have RO : W.rowIs (w.heap.size + 1) 44 4 (rowN [.int .i64 0, .int .i64 0, .slice none 0 0, .slice none 0 0]) := by
    rw [hW]; exact nrow_below (rowN_alloc' (by simp) _ _) (nbel_alloc _ _)
  have RP : W.rowIs (w.heap.size + 1 + 1) 44 4 (rowN [.int .i64 dy, .int .i64 cw, .slice none 0 0, .slice none 0 0]) := by
    rw [hW]; exact rowN_alloc' (by simp) _ _
  have HW := Lib.hid hW
  have HB := Lib.hid hB
  have H1 := Lib.hid h1
  have H2 := Lib.hid h2
  have HS1 := Lib.hid hs1
  have HS2 := Lib.hid hs2
  have HRA := Lib.hid RA
  have HRO := Lib.hid RO
  have HRP := Lib.hid RP
  have HSZ := Lib.hid hsz
  clear hW hB h1 h2 hs1 hs2 RA RO RP hsz
  go_enter Try.func24, Try.ntmps24
  go_wp2_with fail
  rw [← HW.out]
  refine (ntoInt64S_any pa an ak A _ (H1.out.below HB.out) HS1.out).mono ?_
  rintro e w2 ⟨⟨rfl, hk2⟩, hb2⟩
  have RA1 := nrow_below HRA.out hb2
  have RO1 := nrow_below HRO.out hb2
  have RP1 := nrow_below HRP.out hb2
  have HB3 : Hid (Below w.heap.size w w2) := HB.out.trans (hb2.mono HB.out.size)
  have HKB := Lib.hid hk2
  obtain ⟨⟨a0, a1, a2, a3⟩, _⟩ := rowN4 RA1
  obtain ⟨⟨p0, p1, p2, p3⟩, z0, z1, z2, z3⟩ := rowN4 RP1
  have hl1 : w.heap.size + 1 + 1 < w2.heap.size := RP1.lt
  obtain ⟨W3, hW3⟩ : ∃ W3, W3 = w2.setCell ⟨w.heap.size + 1 + 1, 2, none⟩ (.slice (some ⟨W.heap.size, 0, none⟩) an an) := ⟨_, rfl⟩
  have HW3 := Lib.hid hW3
  have HRO3 : Hid (W3.rowIs (w.heap.size + 1) 44 4 (rowN [.int .i64 0, .int .i64 0, .slice none 0 0, .slice none 0 0])) := by
    show W3.rowIs _ _ _ _
    rw [hW3]; exact nrow_set RO1 (p := ⟨w.heap.size + 1 + 1, 2, none⟩) (by show w.heap.size + 1 ≠ w.heap.size + 1 + 1; omega) _
  have HRP3 : Hid (W3.rowIs (w.heap.size + 1 + 1) 44 4 (rowN [.int .i64 dy, .int .i64 cw, .slice (some ⟨W.heap.size, 0, none⟩) an an, .slice none 0 0])) := by
    show W3.rowIs _ _ _ _
    rw [hW3]; exact rowN_put RP1 2 _ (by simp)
  have HB4 : Hid (Below w.heap.size w W3) := by
    show Below _ _ _
    rw [hW3]; exact HB3.out.setCell (p := ⟨w.heap.size + 1 + 1, 2, none⟩) (by show w.heap.size ≤ w.heap.size + 1 + 1; omega) _
  have HKB3 : Hid (IsBlk 2 W.heap.size an A W3) := by
    show IsBlk _ _ _ _ _
    rw [hW3]; exact HKB.out.block (jhs _ _ _ (by have := HSZ.out; omega) _ _)
  clear hW3 RA1 RO1 RP1 hb2 hk2 HKB HB3
  go_wp2_with fail
  rw [← HW3.out]
  refine (ntoInt64S_any pr rn rk R _ (H2.out.below HB4.out) HS2.out).mono ?_
  rintro e w3 ⟨⟨rfl, hk3⟩, hb3⟩
  clear a0 a1 a2 a3 p0 p1 p2 p3 z0 z1 z2 z3 hl1
  have RO1 := nrow_below HRO3.out hb3
  have RP1 := nrow_below HRP3.out hb3
  have HB5 : Hid (Below w.heap.size w w3) := HB4.out.trans (hb3.mono HB4.out.size)
  have HKB5 := Lib.hid (HKB3.out.below hb3)
  have HKC5 := Lib.hid hk3
  have HLW2 : Hid (W.heap.size < W3.heap.size) := HKB3.out.lt
  obtain ⟨⟨p0, p1, p2, p3⟩, z0, z1, z2, z3⟩ := rowN4 RP1
  obtain ⟨⟨o0, o1, o2, o3⟩, y0, y1, y2, y3⟩ := rowN4 RO1
  have hl2 : w.heap.size + 1 + 1 < w3.heap.size := RP1.lt
  have HRO5 := Lib.hid RO1
  clear RO1 RP1 hb3 hk3 HKB3 HB4 HRO3 HRP3
  go_wp2_with fail
  have s3 := HSZ.out
  have s5 := HLW2.out
  refine bodyPost_ret (v := jbV ⟨dy, cw, some ⟨W.heap.size, 0, none⟩, an, an, A, some ⟨W3.heap.size, 0, none⟩, rn, rn, R⟩) ?_ rfl ⟨⟨_, _, rfl, by omega, by omega, HKB5.out.block ?_, HKC5.out.block ?_⟩, ?_⟩
  · obtain ⟨⟨x0, x1, x2, x3⟩, _⟩ := rowN4 (rowN_put (rowN_put (rowN_put (rowN_put (nrow_set HRO5.out (p := ⟨w.heap.size + 1 + 1, 3, none⟩) (by show w.heap.size + 1 ≠ w.heap.size + 1 + 1; omega) (.slice (some ⟨W3.heap.size, 0, none⟩) rn rn)) 0 (.int .i64 dy) (by simp)) 1 (.int .i64 cw) (by simp)) 2 (.slice (some ⟨W.heap.size, 0, none⟩) an an) (by simp)) 3 (.slice (some ⟨W3.heap.size, 0, none⟩) rn rn) (by simp))
    simp only [results, Try.results24]
    simp [go_sem, x0, x1, x2, x3]
  · repeat rw [jhs _ _ _ (by omega)]
  · repeat rw [jhs _ _ _ (by omega)]
  · exact ((((HB5.out.setCell (p := ⟨w.heap.size + 1 + 1, 3, none⟩) (by show w.heap.size ≤ w.heap.size + 1 + 1; omega) _).setCell (p := ⟨w.heap.size + 1, 0, none⟩) (by show w.heap.size ≤ w.heap.size + 1; omega) _).setCell (p := ⟨w.heap.size + 1, 1, none⟩) (by show w.heap.size ≤ w.heap.size + 1; omega) _).setCell (p := ⟨w.heap.size + 1, 2, none⟩) (by show w.heap.size ≤ w.heap.size + 1; omega) _).setCell (p := ⟨w.heap.size + 1, 3, none⟩) (by show w.heap.size ≤ w.heap.size + 1; omega) _
set_option maxRecDepth 100000 in
set_option maxHeartbeats 4000000 in
theorem eqJob_same (dy cw : Int) (pa pb : Option Addr) (an ak bk : Nat) (A : Nat → Int) (pr ps : Option Addr) (rn rk sk : Nat) (R : Nat → Int) (w : World) (h1 : IsAt pa an A w) (h2 : IsAt pr rn R w) (h3 : IsAt pb an A w) (h4 : IsAt ps rn R w) (hn : an ≤ 1048576) (hn2 : rn ≤ 1048576) :
    Calls Try.prog 26 #[jbV ⟨dy, cw, pa, an, ak, A, pr, rn, rk, R⟩, jbV ⟨dy, cw, pb, an, bk, A, ps, rn, sk, R⟩] w fun e w' => e = .returned (.bool true) ∧ Below w.heap.size w w' := by
  obtain ⟨W, hW⟩ : ∃ W, W = (w.alloc (.cells #[.int .i64 dy, .int .i64 cw, .slice pa an ak, .slice pr rn rk] 44)).alloc (.cells #[.int .i64 dy, .int .i64 cw, .slice pb an bk, .slice ps rn sk] 44) := ⟨_, rfl⟩
  have hB : Below w.heap.size w W := by rw [hW]; exact ((Below.refl _ _).alloc (Nat.le_refl _) _).alloc (by simp) _
  have RA : W.rowIs w.heap.size 44 4 (rowN [.int .i64 dy, .int .i64 cw, .slice pa an ak, .slice pr rn rk]) := by
    rw [hW]; exact nrow_below (rowN_alloc w _ _) (nbel_alloc _ _)
  have RO : W.rowIs (w.heap.size + 1) 44 4 (rowN [.int .i64 dy, .int .i64 cw, .slice pb an bk, .slice ps rn sk]) := by
    rw [hW]; exact rowN_alloc' (by simp) _ _
  have HW := Lib.hid hW
  have HB := Lib.hid hB
  have H1 := Lib.hid h1
  have H2 := Lib.hid h2
  have H3 := Lib.hid h3
  have H4 := Lib.hid h4
  have HRA := Lib.hid RA
  have HRO := Lib.hid RO
  clear hW hB h1 h2 h3 h4 RA RO
  go_enter Try.func26, Try.ntmps26
  go_wp2_with fail
  rw [← HW.out]
  refine (neqInt64S_same pa pb an ak bk A _ (H1.out.below HB.out) (H3.out.below HB.out) hn).mono ?_
  rintro e w1 ⟨rfl, hb1⟩
  obtain ⟨⟨a0, a1, a2, a3⟩, _⟩ := rowN4 (nrow_below HRA.out hb1)
  obtain ⟨⟨b0, b1, b2, b3⟩, _⟩ := rowN4 (nrow_below HRO.out hb1)
  have HB1 : Hid (Below w.heap.size w w1) := HB.out.trans (hb1.mono HB.out.size)
  clear hb1
  go_wp2_with fail
  refine (neqInt64S_same pr ps rn rk sk R _ (H2.out.below HB1.out) (H4.out.below HB1.out) hn2).mono ?_
  rintro e w2 ⟨rfl, hb1⟩
  have HB2 : Hid (Below w.heap.size w w2) := HB1.out.trans (hb1.mono HB1.out.size)
  clear hb1 a0 a1 a2 a3 b0 b1 b2 b3
  go_wp2_with fail
  go_ret
  exact ⟨rfl, HB2.out⟩
end Go.Proofs.Ytganlipebndeoaa
