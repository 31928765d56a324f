/-
  The laws' conversions and comparisons of whole stores.
-/
import Derived.Test.YtdpghhmcibiplaaStEx1
namespace Go.Proofs.Ytdpghhmcibiplaa
open Go.RowKit Go.Deep

def r3 (a b c : Value) : Nat → Value := fun i => if i = 0 then a else if i = 1 then b else c
theorem row3 (w : World) (a b c : Value) (t : TypeId) : (w.alloc (.cells #[a, b, c] t)).rowIs w.heap.size t 3 (r3 a b c) := by
  refine ⟨_, blk_alloc_new _ _, rfl, fun i hi => ?_⟩
  have h3 : i = 0 ∨ i = 1 ∨ i = 2 := by omega
  rcases h3 with rfl | rfl | rfl <;> rfl
theorem row_below {w w' : World} {g : Nat} {t : TypeId} {m : Nat} {F : Nat → Value} (h : w.rowIs g t m F) (hb : Below w.heap.size w w') : w'.rowIs g t m F := h.of_block (hb.block _ h.lt)
theorem row_set {w : World} {g : Nat} {t : TypeId} {m : Nat} {F : Nat → Value} (h : w.rowIs g t m F) {p : Addr} (hp : g ≠ p.block) (u : Value) : (w.setCell p u).rowIs g t m F := h.of_block (Below.heap_setCell _ _ _ _ hp)
theorem row3_cells {w : World} {g : Nat} {t : TypeId} {a b c : Value} (h : w.rowIs g t 3 (r3 a b c)) : (w.cell? ⟨g, 0, none⟩ = some a ∧ w.cell? ⟨g, 1, none⟩ = some b ∧ w.cell? ⟨g, 2, none⟩ = some c) ∧ (w.frozen? ⟨g, 0, none⟩ = false ∧ w.frozen? ⟨g, 1, none⟩ = false ∧ w.frozen? ⟨g, 2, none⟩ = false) :=
  ⟨⟨h.cell (i := 0) (by omega), h.cell (i := 1) (by omega), h.cell (i := 2) (by omega)⟩, h.frozen 0, h.frozen 1, h.frozen 2⟩
theorem row3_set0 {w : World} {g : Nat} {t : TypeId} {a b c : Value} (h : w.rowIs g t 3 (r3 a b c)) (u : Value) : (w.setCell ⟨g, 0, none⟩ u).rowIs g t 3 (r3 u b c) := by
  obtain ⟨cur, h1, h2, h3⟩ := h.set 0 u
  refine ⟨cur, h1, h2, fun i hi => ?_⟩
  rw [h3 i hi]
  have : i = 0 ∨ i = 1 ∨ i = 2 := by omega
  rcases this with rfl | rfl | rfl <;> rfl

theorem row3_put {w : World} {g : Nat} {t : TypeId} {a b c : Value} (h : w.rowIs g t 3 (r3 a b c)) (x y z : Value) : (((w.setCell ⟨g, 0, none⟩ x).setCell ⟨g, 1, none⟩ y).setCell ⟨g, 2, none⟩ z).rowIs g t 3 (r3 x y z) := by
  obtain ⟨cur, h1, h2, h3⟩ := ((h.set 0 x).set 1 y).set 2 z
  refine ⟨cur, h1, h2, fun i hi => ?_⟩
  rw [h3 i hi]
  have : i = 0 ∨ i = 1 ∨ i = 2 := by omega
  rcases this with rfl | rfl | rfl <;> rfl
theorem heap5 (w : World) (p q g : Nat) (hp : g ≠ p) (hq : g ≠ q) (a b c d e : Value) : (((((w.setCell ⟨p, 1, none⟩ a).setCell ⟨p, 2, none⟩ b).setCell ⟨q, 0, none⟩ c).setCell ⟨q, 1, none⟩ d).setCell ⟨q, 2, none⟩ e).heap[g]? = w.heap[g]? :=
  (Below.heap_setCell _ ⟨q, 2, none⟩ _ _ hq).trans ((Below.heap_setCell _ ⟨q, 1, none⟩ _ _ hq).trans ((Below.heap_setCell _ ⟨q, 0, none⟩ _ _ hq).trans ((Below.heap_setCell _ ⟨p, 2, none⟩ _ _ hp).trans (Below.heap_setCell _ ⟨p, 1, none⟩ _ _ hp))))

/-- A store in memory of the call's own. -/
structure StBlk (B g1 g2 cn : Nat) (c : Nat → St.Pr) (rn : Nat) (r : Nat → St.Pr) (w : World) : Prop where
  cu : PrBlk 66 g1 cn c w
  ru : PrBlk 62 g2 rn r w
  lo : B ≤ g1 ∧ B ≤ g2
theorem StBlk.below {B g1 g2 cn rn : Nat} {c r : Nat → St.Pr} {w w' : World} (h : StBlk B g1 g2 cn c rn r w) (hb : Below w.heap.size w w') : StBlk B g1 g2 cn c rn r w' := ⟨h.cu.below hb, h.ru.below hb, h.lo⟩
theorem StBlk.at_ {B g1 g2 cn rn : Nat} {c r : Nat → St.Pr} {w : World} (h : StBlk B g1 g2 cn c rn r w) : StAt (some ⟨g1, 0, none⟩) cn c (some ⟨g2, 0, none⟩) rn r w := ⟨h.cu.at_, h.ru.at_⟩
set_option maxRecDepth 100000 in
set_option maxHeartbeats 4000000 in
theorem toStore_any (ca : Option Addr) (cn ck : Nat) (c : Nat → St.Pr) (ra : Option Addr) (rn rk : Nat) (r : Nat → St.Pr) (v : Int) (w : World) (h1 : PrsIn ca cn c w) (h2 : PrsIn ra rn r w) (hn1 : cn ≤ 1048576) (hn2 : rn ≤ 1048576) :
    Calls Try.prog 6 #[stV ca cn ck ra rn rk v] w fun e w' => (∃ g1 g2, e = .returned (stV (some ⟨g1, 0, none⟩) cn cn (some ⟨g2, 0, none⟩) rn rn v) ∧ StBlk w.heap.size g1 g2 cn c rn r w') ∧ Below w.heap.size w w' := by
  obtain ⟨W, hW⟩ : ∃ W, W = ((w.alloc (.cells #[.slice ca cn ck, .slice ra rn rk, .int .i64 v] 25)).alloc (.cells #[.slice none 0 0, .slice none 0 0, .int .i64 0] 32)).alloc (.cells #[.slice none 0 0, .slice none 0 0, .int .i64 0] 32) := ⟨_, rfl⟩
  have hsz : W.heap.size = w.heap.size + 3 := by rw [hW]; simp
  have hB : Below w.heap.size w W := by rw [hW]; exact (((Below.refl _ _).alloc (Nat.le_refl _) _).alloc (by simp) _).alloc (by simp; omega) _
  have RA : W.rowIs w.heap.size 25 3 (r3 (.slice ca cn ck) (.slice ra rn rk) (.int .i64 v)) := by
    rw [hW]; exact row_below (row_below (row3 w _ _ _ _) ((Below.refl _ _).alloc (Nat.le_refl _) _)) ((Below.refl _ _).alloc (Nat.le_refl _) _)
  have RO : W.rowIs (w.heap.size + 1) 32 3 (r3 (.slice none 0 0) (.slice none 0 0) (.int .i64 0)) := by
    rw [hW]
    have := row3 (w.alloc (.cells #[.slice ca cn ck, .slice ra rn rk, .int .i64 v] 25)) (.slice none 0 0) (.slice none 0 0) (.int .i64 0) 32
    rw [World.size_alloc] at this
    exact row_below this ((Below.refl _ _).alloc (Nat.le_refl _) _)
  have RP : W.rowIs (w.heap.size + 1 + 1) 32 3 (r3 (.slice none 0 0) (.slice none 0 0) (.int .i64 0)) := by
    rw [hW]
    have := row3 ((w.alloc (.cells #[.slice ca cn ck, .slice ra rn rk, .int .i64 v] 25)).alloc (.cells #[.slice none 0 0, .slice none 0 0, .int .i64 0] 32)) (.slice none 0 0) (.slice none 0 0) (.int .i64 0) 32
    rwa [World.size_alloc, World.size_alloc] at this
  have HW := Lib.hid hW
  have HB := Lib.hid hB
  have H1 := Lib.hid h1
  have H2 := Lib.hid h2
  have HRA := Lib.hid RA
  have HRO := Lib.hid RO
  have HRP := Lib.hid RP
  have HSZ := Lib.hid hsz
  clear hW hB h1 h2 RA RO RP hsz
  go_enter Try.func6, Try.ntmps6
  go_wp2_with fail
  rw [← HW.out]
  refine (toMarkS_any ca cn ck c _ (H1.out.below HB.out) hn1).mono ?_
  rintro e w1 ⟨⟨rfl, hk1⟩, hb1⟩
  have RA1 := row_below HRA.out hb1
  have RO1 := row_below HRO.out hb1
  have RP1 := row_below HRP.out hb1
  have HB1 : Hid (Below w.heap.size w w1) := HB.out.trans (hb1.mono HB.out.size)
  have HK1 := Lib.hid hk1
  obtain ⟨⟨a0, a1, a2⟩, _⟩ := row3_cells RA1
  obtain ⟨⟨p0, p1, p2⟩, z0, z1, z2⟩ := row3_cells RP1
  obtain ⟨W2, hW2⟩ : ∃ W2, W2 = w1.setCell ⟨w.heap.size + 1 + 1, 0, none⟩ (.slice (some ⟨W.heap.size, 0, none⟩) cn cn) := ⟨_, rfl⟩
  have HW2 := Lib.hid hW2
  have HRA2 : Hid (W2.rowIs w.heap.size 25 3 (r3 (.slice ca cn ck) (.slice ra rn rk) (.int .i64 v))) := by
    show W2.rowIs _ _ _ _
    rw [hW2]; exact row_set RA1 (p := ⟨w.heap.size + 1 + 1, 0, none⟩) (by show w.heap.size ≠ w.heap.size + 1 + 1; omega) _
  have HRO2 : Hid (W2.rowIs (w.heap.size + 1) 32 3 (r3 (.slice none 0 0) (.slice none 0 0) (.int .i64 0))) := by
    show W2.rowIs _ _ _ _
    rw [hW2]; exact row_set RO1 (p := ⟨w.heap.size + 1 + 1, 0, none⟩) (by show w.heap.size + 1 ≠ w.heap.size + 1 + 1; omega) _
  have HRP2 : Hid (W2.rowIs (w.heap.size + 1 + 1) 32 3 (r3 (.slice (some ⟨W.heap.size, 0, none⟩) cn cn) (.slice none 0 0) (.int .i64 0))) := by
    show W2.rowIs _ _ _ _
    rw [hW2]; exact row3_set0 RP1 _
  have HB2 : Hid (Below w.heap.size w W2) := by
    show Below _ _ _
    rw [hW2]; exact HB1.out.setCell (p := ⟨w.heap.size + 1 + 1, 0, none⟩) (by show w.heap.size ≤ w.heap.size + 1 + 1; omega) _
  have HK2 : Hid (PrBlk 66 W.heap.size cn c W2) := by
    show PrBlk _ _ _ _ _
    rw [hW2]; exact HK1.out.block (Below.heap_setCell _ _ _ _ (by have := HSZ.out; show W.heap.size ≠ w.heap.size + 1 + 1; omega))
  have hl1 : w.heap.size + 1 + 1 < w1.heap.size := RP1.lt
  clear hW2 RA1 RO1 RP1 hb1 hk1 HK1 HB1
  go_wp2_with fail
  rw [← HW2.out]
  refine (toRuleS_any ra rn rk r _ (H2.out.below HB2.out) hn2).mono ?_
  rintro e w2 ⟨⟨rfl, hk2⟩, hb2⟩
  clear a0 a1 a2 p0 p1 p2 z0 z1 z2 hl1
  have RA3 := row_below HRA2.out hb2
  have RO3 := row_below HRO2.out hb2
  have RP3 := row_below HRP2.out hb2
  have HB3 : Hid (Below w.heap.size w w2) := HB2.out.trans (hb2.mono HB2.out.size)
  have HKA : Hid (PrBlk 66 W.heap.size cn c w2) := HK2.out.below hb2
  have HKB := Lib.hid hk2
  obtain ⟨⟨a0, a1, a2⟩, _⟩ := row3_cells RA3
  obtain ⟨⟨p0, p1, p2⟩, z0, z1, z2⟩ := row3_cells RP3
  obtain ⟨⟨o0, o1, o2⟩, y0, y1, y2⟩ := row3_cells RO3
  have hl2 : w.heap.size + 1 + 1 < w2.heap.size := RP3.lt
  have HLW : Hid (W.heap.size ≤ W2.heap.size) := by
    have h := HW2.out
    have h2 := HK2.out.lt
    exact Nat.le_of_lt h2
  have HRO3 := Lib.hid RO3
  clear RA3 RO3 RP3 hb2 hk2 HK2 HB2 HRA2 HRO2 HRP2
  go_wp2_with fail
  have s3 := HSZ.out
  have s4 := HLW.out
  refine bodyPost_ret (v := stV (some ⟨W.heap.size, 0, none⟩) cn cn (some ⟨W2.heap.size, 0, none⟩) rn rn v) ?_ rfl ⟨⟨_, _, rfl, ⟨HKA.out.block (heap5 _ _ _ _ (by omega) (by omega) _ _ _ _ _), HKB.out.block (heap5 _ _ _ _ (by omega) (by omega) _ _ _ _ _), by omega, by omega⟩⟩, ?_⟩
  · obtain ⟨⟨x0, x1, x2⟩, _⟩ := row3_cells (row3_put (row_set (row_set HRO3.out (p := ⟨w.heap.size + 1 + 1, 1, none⟩) (by show w.heap.size + 1 ≠ w.heap.size + 1 + 1; omega) (.slice (some ⟨W2.heap.size, 0, none⟩) rn rn)) (p := ⟨w.heap.size + 1 + 1, 2, none⟩) (by show w.heap.size + 1 ≠ w.heap.size + 1 + 1; omega) (.int .i64 v)) (.slice (some ⟨W.heap.size, 0, none⟩) cn cn) (.slice (some ⟨W2.heap.size, 0, none⟩) rn rn) (.int .i64 v))
    simp only [results, Try.results6]
    simp [go_sem, x0, x1, x2]
  · exact ((((HB3.out.setCell (p := ⟨w.heap.size + 1 + 1, 1, none⟩) (by show w.heap.size ≤ w.heap.size + 1 + 1; omega) _).setCell (p := ⟨w.heap.size + 1 + 1, 2, none⟩) (by show w.heap.size ≤ w.heap.size + 1 + 1; omega) _).setCell (p := ⟨w.heap.size + 1, 0, none⟩) (by show w.heap.size ≤ w.heap.size + 1; omega) _).setCell (p := ⟨w.heap.size + 1, 1, none⟩) (by show w.heap.size ≤ w.heap.size + 1; omega) _).setCell (p := ⟨w.heap.size + 1, 2, none⟩) (by show w.heap.size ≤ w.heap.size + 1; omega) _
set_option maxRecDepth 100000 in
set_option maxHeartbeats 4000000 in
theorem eqStore_same (a1 a2 b1 b2 : Option Addr) (cn c1 c2 rn k1 k2 : Nat) (c r : Nat → St.Pr) (v : Int) (w : World) (h1 : StAt a1 cn c b1 rn r w) (h2 : StAt a2 cn c b2 rn r w) (hn1 : cn ≤ 1048576) (hn2 : rn ≤ 1048576) :
    Calls Try.prog 9 #[stV a1 cn c1 b1 rn k1 v, stV a2 cn c2 b2 rn k2 v] w fun e w' => e = .returned (.bool true) ∧ Below w.heap.size w w' := by
  obtain ⟨W, hW⟩ : ∃ W, W = (w.alloc (.cells #[.slice a1 cn c1, .slice b1 rn k1, .int .i64 v] 32)).alloc (.cells #[.slice a2 cn c2, .slice b2 rn k2, .int .i64 v] 32) := ⟨_, rfl⟩
  have hB : Below w.heap.size w W := by rw [hW]; exact ((Below.refl _ _).alloc (Nat.le_refl _) _).alloc (by simp) _
  have RA : W.rowIs w.heap.size 32 3 (r3 (.slice a1 cn c1) (.slice b1 rn k1) (.int .i64 v)) := by
    rw [hW]; exact row_below (row3 w _ _ _ _) ((Below.refl _ _).alloc (Nat.le_refl _) _)
  have RO : W.rowIs (w.heap.size + 1) 32 3 (r3 (.slice a2 cn c2) (.slice b2 rn k2) (.int .i64 v)) := by
    rw [hW]
    have := row3 (w.alloc (.cells #[.slice a1 cn c1, .slice b1 rn k1, .int .i64 v] 32)) (.slice a2 cn c2) (.slice b2 rn k2) (.int .i64 v) 32
    rwa [World.size_alloc] at this
  have HW := Lib.hid hW
  have HB := Lib.hid hB
  have H1 := Lib.hid h1
  have H2 := Lib.hid h2
  have HRA := Lib.hid RA
  have HRO := Lib.hid RO
  clear hW hB h1 h2 RA RO
  go_enter Try.func9, Try.ntmps9
  go_wp2_with fail
  rw [← HW.out]
  refine (eqMarkS_same a1 a2 cn c1 c2 c _ (H1.out.below HB.out).cu (H2.out.below HB.out).cu hn1).mono ?_
  rintro e w1 ⟨rfl, hb1⟩
  obtain ⟨⟨x0, x1, x2⟩, _⟩ := row3_cells (row_below HRA.out hb1)
  obtain ⟨⟨y0, y1, y2⟩, _⟩ := row3_cells (row_below HRO.out hb1)
  have HB1 : Hid (Below w.heap.size w w1) := HB.out.trans (hb1.mono HB.out.size)
  have HRA1 := Lib.hid (row_below HRA.out hb1)
  have HRO1 := Lib.hid (row_below HRO.out hb1)
  clear hb1 HRA HRO
  go_wp2_with fail
  refine (eqRuleS_same b1 b2 rn k1 k2 r _ (H1.out.below HB1.out).ru (H2.out.below HB1.out).ru hn2).mono ?_
  rintro e w2 ⟨rfl, hb2⟩
  clear x0 x1 x2 y0 y1 y2
  obtain ⟨⟨x0, x1, x2⟩, _⟩ := row3_cells (row_below HRA1.out hb2)
  obtain ⟨⟨y0, y1, y2⟩, _⟩ := row3_cells (row_below HRO1.out hb2)
  have HB2 : Hid (Below w.heap.size w w2) := HB1.out.trans (hb2.mono HB1.out.size)
  clear hb2
  go_wp2_with fail
  go_ret
  exact ⟨rfl, HB2.out⟩
/-- What is left: below nought, or all is small. -/
def SzEnd (cn rn : Nat) (e : Ending) : Prop := ∃ z : Int, e = .returned (.int .i64 z) ∧ (z < 0 ∨ (¬ z < 0 ∧ cn ≤ 1048576 ∧ rn ≤ 1048576))
set_option maxRecDepth 100000 in
set_option maxHeartbeats 2000000 in
theorem szStore_any (ca : Option Addr) (cn ck : Nat) (ra : Option Addr) (rn rk : Nat) (v : Int) (w : World) (hm : cn ≤ 9223372036854775807) (hm2 : rn ≤ 9223372036854775807) :
    Calls Try.prog 4 #[stV ca cn ck ra rn rk v, .int .i64 1048576] w fun e w' => SzEnd cn rn e ∧ Below w.heap.size w w' := by
  have hB := Lib.hid ((Below.refl w.heap.size w).alloc (Nat.le_refl _) (.cells #[.slice ca cn ck, .slice ra rn rk, .int .i64 v] 25))
  by_cases h1 : cn ≤ 1048576
  · have hz : ¬ ((1048576 - cn : Nat) : Int) < 0 := by omega
    by_cases h2 : rn ≤ 1048576 - cn
    · have hz2 : ¬ ((1048576 - cn - rn : Nat) : Int) < 0 := by omega
      go_enter Try.func4, Try.ntmps4
      go_wp2_with fail
      refine (szMark_in ca cn ck 1048576 _ h1 (by omega)).mono ?_
      rintro e w1 ⟨rfl, rfl⟩
      go_wp2_with fail
      refine (szRule_in ra rn rk (1048576 - cn) _ h2 (by omega)).mono ?_
      rintro e w1 ⟨rfl, rfl⟩
      go_wp2_with fail
      go_ret
      exact ⟨⟨_, rfl, Or.inr ⟨by omega, h1, by omega⟩⟩, hB.out⟩
    · go_enter Try.func4, Try.ntmps4
      go_wp2_with fail
      refine (szMark_in ca cn ck 1048576 _ h1 (by omega)).mono ?_
      rintro e w1 ⟨rfl, rfl⟩
      go_wp2_with fail
      refine (szRule_over ra rn rk (1048576 - cn) _ (by omega) (by omega) hm2).mono ?_
      rintro e w1 ⟨rfl, rfl⟩
      go_wp2_with fail
      go_ret
      exact ⟨⟨_, rfl, Or.inl (by omega)⟩, hB.out⟩
  · go_enter Try.func4, Try.ntmps4
    go_wp2_with fail
    refine (szMark_over ca cn ck 1048576 _ (by omega) (by omega) hm).mono ?_
    rintro e w1 ⟨rfl, rfl⟩
    go_wp2_with fail
    go_ret
    exact ⟨⟨_, rfl, Or.inl (by omega)⟩, hB.out⟩
end Go.Proofs.Ytdpghhmcibiplaa
