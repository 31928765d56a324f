/-
  The laws' conversions, sizes and comparisons of a notice.
-/
import Derived.Test.YtjfeipgeppegcaaNnMem
import Derived.Test.YtjfeipgeppegcaaNtEx1
namespace Go.Proofs.Ytjfeipgeppegcaa
open Go.RowKit Go.Deep

/-- What is left: below nought, or all is small. -/
def SzN (l n : Nat) (e : Ending) : Prop := (∃ z : Int, e = .returned (.int .i64 z) ∧ z < 0) ∨ (n ≤ l ∧ e = .returned (.int .i64 ((l - n : Nat) : Int)))
set_option maxRecDepth 100000 in
set_option maxHeartbeats 2000000 in
theorem szNotice_any (x : Ne) (l : Nat) (w : World) (hl : l ≤ 1048576) (hm : x.an ≤ 9223372036854775807) :
    Calls Try.prog 32 #[nnV x, .int .i64 l] w fun e w' => SzN l x.an e ∧ Below w.heap.size w w' := by
  obtain ⟨nu, st, pa, an, ak, A, fl⟩ := x
  simp only at hm ⊢
  have hB := Lib.hid ((Below.refl w.heap.size w).alloc (Nat.le_refl _) (.cells #[.int .i64 nu, .int .i64 st, .slice pa an ak, .bool fl] 56))
  by_cases h1 : an ≤ l
  · have hz : ¬ ((l - an : Nat) : Int) < 0 := by omega
    go_enter Try.func32, Try.ntmps32
    go_wp2_with fail
    refine (nszInt64_in pa an ak l _ h1 hl).mono ?_
    rintro e w1 ⟨rfl, rfl⟩
    go_wp2_with fail
    go_ret
    exact ⟨Or.inr ⟨h1, rfl⟩, hB.out⟩
  · go_enter Try.func32, Try.ntmps32
    go_wp2_with fail
    refine (nszInt64_over pa an ak l _ (by omega) hl hm).mono ?_
    rintro e w1 ⟨rfl, rfl⟩
    go_wp2_with fail
    go_ret
    exact ⟨Or.inl ⟨_, rfl, by omega⟩, hB.out⟩
theorem nnhs (w : World) (p g : Nat) (hp : g ≠ p) (i : Nat) (a : Value) : (w.setCell ⟨p, i, none⟩ a).heap[g]? = w.heap[g]? := Below.heap_setCell _ _ _ _ hp
set_option maxRecDepth 100000 in
set_option maxHeartbeats 8000000 in
theorem toNotice_any (x : Ne) (w : World) (h1 : IsIn x.pa x.an x.A w) (hn : x.an ≤ 1048576) :
    Calls Try.prog 34 #[nnV x] w fun e w' => (∃ g, e = .returned (nnV ⟨x.nu, x.st, some ⟨g, 0, none⟩, x.an, x.an, x.A, x.fl⟩) ∧ w.heap.size ≤ g ∧ IsBlk 2 g x.an x.A w') ∧ Below w.heap.size w w' := by
  obtain ⟨nu, st, pa, an, ak, A, fl⟩ := x
  simp only at h1 hn ⊢
  obtain ⟨W, hW⟩ : ∃ W, W = ((w.alloc (.cells #[.int .i64 nu, .int .i64 st, .slice pa an ak, .bool fl] 56)).alloc (.cells #[.int .i64 0, .int .i64 0, .slice none 0 0, .bool false] 58)).alloc (.cells #[.int .i64 nu, .int .i64 st, .slice none 0 0, .bool false] 58) := ⟨_, rfl⟩
  have hsz : W.heap.size = w.heap.size + 3 := by rw [hW]; simp
  have hB : Below w.heap.size w W := by rw [hW]; exact (((Below.refl _ _).alloc (Nat.le_refl _) _).alloc (by simp) _).alloc (by simp; omega) _
  have RA : W.rowIs w.heap.size 56 4 (rowN [.int .i64 nu, .int .i64 st, .slice pa an ak, .bool fl]) := by
    rw [hW]; exact nrow_below (nrow_below (rowN_alloc w _ _) (nbel_alloc _ _)) (nbel_alloc _ _)
  have RO : W.rowIs (w.heap.size + 1) 58 4 (rowN [.int .i64 0, .int .i64 0, .slice none 0 0, .bool false]) := by
    rw [hW]; exact nrow_below (rowN_alloc' (by simp) _ _) (nbel_alloc _ _)
  have RP : W.rowIs (w.heap.size + 1 + 1) 58 4 (rowN [.int .i64 nu, .int .i64 st, .slice none 0 0, .bool false]) := by
    rw [hW]; exact rowN_alloc' (by simp) _ _
  have HW := Lib.hid hW
  have HB := Lib.hid hB
  have H1 := Lib.hid h1
  have HRA := Lib.hid RA
  have HRO := Lib.hid RO
  have HRP := Lib.hid RP
  have HSZ := Lib.hid hsz
  clear hW hB h1 RA RO RP hsz
  go_enter Try.func34, Try.ntmps34
  go_wp2_with fail
  rw [← HW.out]
  refine (ntoInt64S_any pa an ak A _ (H1.out.below HB.out) hn).mono ?_
  rintro e w1 ⟨⟨rfl, hk1⟩, hb1⟩
  have RA1 := nrow_below HRA.out hb1
  have RP1 := nrow_below HRP.out hb1
  have RO1 := nrow_below HRO.out hb1
  have HB1 : Hid (Below w.heap.size w w1) := HB.out.trans (hb1.mono HB.out.size)
  have HK1 := Lib.hid hk1
  obtain ⟨⟨a0, a1, a2, a3⟩, _⟩ := rowN4 RA1
  obtain ⟨⟨p0, p1, p2, p3⟩, z0, z1, z2, z3⟩ := rowN4 RP1
  obtain ⟨⟨o0, o1, o2, o3⟩, y0, y1, y2, y3⟩ := rowN4 RO1
  have HRO1 := Lib.hid RO1
  have hl1 : w.heap.size + 1 + 1 < w1.heap.size := RP1.lt
  have HS3 := Lib.hid HSZ.out
  clear RA1 RP1 RO1 hb1 hk1
  go_wp2_with fail
  have s3 := HS3.out
  refine bodyPost_ret (v := nnV ⟨nu, st, some ⟨W.heap.size, 0, none⟩, an, an, A, fl⟩) ?_ rfl ⟨⟨W.heap.size, rfl, by omega, HK1.out.block ?_⟩, ?_⟩
  · obtain ⟨⟨x0, x1, x2, x3⟩, _⟩ := rowN4 (rowN_put (rowN_put (rowN_put (rowN_put (nrow_set (nrow_set HRO1.out (p := ⟨w.heap.size + 1 + 1, 2, none⟩) (by show w.heap.size + 1 ≠ w.heap.size + 1 + 1; omega) (.slice (some ⟨W.heap.size, 0, none⟩) an an)) (p := ⟨w.heap.size + 1 + 1, 3, none⟩) (by show w.heap.size + 1 ≠ w.heap.size + 1 + 1; omega) (.bool fl)) 0 (.int .i64 nu) (by simp)) 1 (.int .i64 st) (by simp)) 2 (.slice (some ⟨W.heap.size, 0, none⟩) an an) (by simp)) 3 (.bool fl) (by simp))
    simp only [results, Try.results34]
    simp [go_sem, x0, x1, x2, x3]
  · repeat rw [nnhs _ _ _ (by omega)]
  · exact ((((((HB1.out.setCell (p := ⟨w.heap.size + 1 + 1, 2, none⟩) (by show w.heap.size ≤ w.heap.size + 1 + 1; omega) _).setCell (p := ⟨w.heap.size + 1 + 1, 3, none⟩) (by show w.heap.size ≤ w.heap.size + 1 + 1; omega) _).setCell (p := ⟨w.heap.size + 1, 0, none⟩) (by show w.heap.size ≤ w.heap.size + 1; omega) _).setCell (p := ⟨w.heap.size + 1, 1, none⟩) (by show w.heap.size ≤ w.heap.size + 1; omega) _).setCell (p := ⟨w.heap.size + 1, 2, none⟩) (by show w.heap.size ≤ w.heap.size + 1; omega) _).setCell (p := ⟨w.heap.size + 1, 3, none⟩) (by show w.heap.size ≤ w.heap.size + 1; omega) _)
set_option maxRecDepth 100000 in
set_option maxHeartbeats 4000000 in
theorem eqNotice_same (nu st : Int) (pa pb : Option Addr) (an ak bk : Nat) (A : Nat → Int) (fl : Bool) (w : World) (h1 : IsAt pa an A w) (h2 : IsAt pb an A w) (hn : an ≤ 1048576) :
    Calls Try.prog 36 #[nnV ⟨nu, st, pa, an, ak, A, fl⟩, nnV ⟨nu, st, pb, an, bk, A, fl⟩] w fun e w' => e = .returned (.bool true) ∧ Below w.heap.size w w' := by
  obtain ⟨W, hW⟩ : ∃ W, W = (w.alloc (.cells #[.int .i64 nu, .int .i64 st, .slice pa an ak, .bool fl] 58)).alloc (.cells #[.int .i64 nu, .int .i64 st, .slice pb an bk, .bool fl] 58) := ⟨_, rfl⟩
  have hB : Below w.heap.size w W := by rw [hW]; exact ((Below.refl _ _).alloc (Nat.le_refl _) _).alloc (by simp) _
  have RA : W.rowIs w.heap.size 58 4 (rowN [.int .i64 nu, .int .i64 st, .slice pa an ak, .bool fl]) := by rw [hW]; exact nrow_below (rowN_alloc w _ _) (nbel_alloc _ _)
  have RO : W.rowIs (w.heap.size + 1) 58 4 (rowN [.int .i64 nu, .int .i64 st, .slice pb an bk, .bool fl]) := by rw [hW]; exact rowN_alloc' (by simp) _ _
  have HW := Lib.hid hW
  have HB := Lib.hid hB
  have H1 := Lib.hid h1
  have H2 := Lib.hid h2
  have HRA := Lib.hid RA
  have HRO := Lib.hid RO
  clear hW hB h1 h2 RA RO
  cases fl
  all_goals
    go_enter Try.func36, Try.ntmps36
    go_wp2_with fail
    rw [← HW.out]
    refine (neqInt64S_same pa pb an ak bk A _ (H1.out.below HB.out) (H2.out.below HB.out) hn).mono ?_
    rintro e w1 ⟨rfl, hb1⟩
    obtain ⟨⟨x0, x1, x2, x3⟩, _⟩ := rowN4 (nrow_below HRA.out hb1)
    obtain ⟨⟨y0, y1, y2, y3⟩, _⟩ := rowN4 (nrow_below HRO.out hb1)
    have HB1 : Hid (Below w.heap.size w w1) := HB.out.trans (hb1.mono HB.out.size)
    clear hb1
    go_wp2_with fail
    go_ret
    exact ⟨rfl, HB1.out⟩
end Go.Proofs.Ytjfeipgeppegcaa
