/-
  The laws' conversions, comparisons and marks of rivers and of numbers.
-/
import Derived.Test.YtdpghhmcibiplaaDoorRvI2
import Derived.Test.YtdpghhmcibiplaaDoorReg
namespace Go.Proofs.YtdpghhmcibiplaaDoor
open Go.RowKit Go.Deep

/-- A river, numbers, that were handed in: anywhere in memory. -/
def RcsIn (a : Option Addr) (n : Nat) (rs : Nat → Rv.Rc) (w : World) : Prop := n = 0 ∨ ∃ b o, a = some ⟨b, o, none⟩ ∧ ∀ i, i < n → RcCells b (o + i * 5) (rs i) w
def IntsIn (a : Option Addr) (n : Nat) (f : Nat → Int) (w : World) : Prop := n = 0 ∨ ∃ b o, a = some ⟨b, o, none⟩ ∧ ∀ i, i < n → w.cell? ⟨b, o + i, none⟩ = some (.int .i64 (f i))
theorem RcsIn.below {a : Option Addr} {n : Nat} {rs : Nat → Rv.Rc} {w w' : World} (h : RcsIn a n rs w) (hb : Below w.heap.size w w') : RcsIn a n rs w' := by
  rcases h with h | ⟨b, o, e, h⟩
  · exact Or.inl h
  · exact Or.inr ⟨b, o, e, fun i hi => (h i hi).block (hb.block b (h i hi).lt)⟩
theorem IntsIn.below {a : Option Addr} {n : Nat} {f : Nat → Int} {w w' : World} (h : IntsIn a n f w) (hb : Below w.heap.size w w') : IntsIn a n f w' := by
  rcases h with h | ⟨b, o, e, h⟩
  · exact Or.inl h
  · exact Or.inr ⟨b, o, e, fun i hi => (hb.cell (World.block_lt_of_cell? _ _ (h i hi))).trans (h i hi)⟩
theorem RcsIn.at_ {a : Option Addr} {n : Nat} {rs : Nat → Rv.Rc} {w : World} (h : RcsIn a n rs w) {i : Nat} (hi : i < n) : ∃ b o, a = some ⟨b, o, none⟩ ∧ RcCells b (o + i * 5) (rs i) w := by
  rcases h with h | ⟨b, o, e, h⟩
  · omega
  · exact ⟨b, o, e, h i hi⟩
theorem IntsIn.at_ {a : Option Addr} {n : Nat} {f : Nat → Int} {w : World} (h : IntsIn a n f w) {i : Nat} (hi : i < n) : ∃ b o, a = some ⟨b, o, none⟩ ∧ w.cell? ⟨b, o + i, none⟩ = some (.int .i64 (f i)) := by
  rcases h with h | ⟨b, o, e, h⟩
  · omega
  · exact ⟨b, o, e, h i hi⟩

abbrev rcZ : Array Value := #[.int .i64 0, .int .i64 0, .int .i64 0, .int .i64 0, .int .i64 0]
theorem mk_rc (n : Nat) (hn : n ≤ 1048576) (w : World) : (Instr.makeSlice 25 (.int .i64 (n : Int)) (.int .i64 (n : Int))).run Tryd.prog w = .ok (.slice (some ⟨w.heap.size, 0, none⟩) n n) (w.alloc (.cells (madeCells rcZ (n * 5)) 43)) := by
  obtain ⟨i0, hi, hz0, hz1, hz2⟩ := info_parts info_rc
  have := run_make (P := Tryd.prog) w 25 43 i0 _ Tryd.underlying25 hi hz0 .i64 .i64 n n (by omega) (Int.le_refl _) (by rw [hz2]; omega) (by omega)
  rw [hz1] at this
  simp only [Int.toNat_natCast] at this
  exact this
theorem made_rc (w : World) (n : Nat) : (w.alloc (.cells (madeCells rcZ (n * 5)) 43)).rowIs w.heap.size 43 (n * 5) (fun _ => .int .i64 0) := by
  refine ⟨_, blk_alloc_new _ _, size_madeCells _ _, fun i hi => ?_⟩
  have h5 : i % 5 = 0 ∨ i % 5 = 1 ∨ i % 5 = 2 ∨ i % 5 = 3 ∨ i % 5 = 4 := by omega
  rcases h5 with e | e | e | e | e <;> simp [madeCells, rcZ, hi, e]
/-- The first reaches are there. -/
def RcPart (g N i : Nat) (rs : Nat → Rv.Rc) (w : World) : Prop := ∃ F, w.rowIs g 43 (N * 5) F ∧ ∀ j, j < i * 5 → F j = rcRow rs j
theorem RcPart.block {g N i : Nat} {rs : Nat → Rv.Rc} {w w' : World} (h : RcPart g N i rs w) (e : w'.heap[g]? = w.heap[g]?) : RcPart g N i rs w' := by obtain ⟨F, h1, h2⟩ := h; exact ⟨F, h1.of_block e, h2⟩
theorem RcPart.lt {g N i : Nat} {rs : Nat → Rv.Rc} {w : World} (h : RcPart g N i rs w) : g < w.heap.size := by obtain ⟨F, h1, _⟩ := h; exact h1.lt
theorem RcPart.put {g N i : Nat} {rs : Nat → Rv.Rc} {w : World} (h : RcPart g N i rs w) : RcPart g N (i + 1) rs (((((w.setCell ⟨g, i * 5, none⟩ (.int .i64 (rs i).st)).setCell ⟨g, i * 5 + 1, none⟩ (.int .i64 (rs i).kp)).setCell ⟨g, i * 5 + 2, none⟩ (.int .i64 (rs i).dn)).setCell ⟨g, i * 5 + 3, none⟩ (.int .i64 (rs i).tk)).setCell ⟨g, i * 5 + 4, none⟩ (.int .i64 (rs i).ls)) := by
  obtain ⟨F, h1, h2⟩ := h
  refine ⟨_, ((((h1.set (i * 5) _).set (i * 5 + 1) _).set (i * 5 + 2) _).set (i * 5 + 3) _).set (i * 5 + 4) _, fun j hj => ?_⟩
  by_cases e4 : j = i * 5 + 4
  · subst e4; rw [rcRow_at _ _ _ (by omega)]; simp [rcCell]
  by_cases e3 : j = i * 5 + 3
  · subst e3; rw [rcRow_at _ _ _ (by omega)]; simp [rcCell]
  by_cases e2 : j = i * 5 + 2
  · subst e2; rw [rcRow_at _ _ _ (by omega)]; simp [rcCell]
  by_cases e1 : j = i * 5 + 1
  · subst e1; rw [rcRow_at _ _ _ (by omega)]; simp [rcCell]
  by_cases e0 : j = i * 5
  · subst e0
    have := rcRow_at rs i 0 (by omega)
    rw [Nat.add_zero] at this
    rw [this]; simp [rcCell]
  simp only [e4, e3, e2, e1, e0, if_false]
  exact h2 j (by omega)
theorem RcPart.full {g n : Nat} {rs : Nat → Rv.Rc} {w : World} (h : RcPart g n n rs w) : RcBlk g n rs w := by obtain ⟨F, h1, h2⟩ := h; exact ⟨n, F, Nat.le_refl _, h1, h2⟩
theorem RcPart.at_ {g N i : Nat} {rs : Nat → Rv.Rc} {w : World} (h : RcPart g N i rs w) (hi : i < N) :
    (∃ a b c d e, w.cell? ⟨g, i * 5, none⟩ = some a ∧ w.cell? ⟨g, i * 5 + 1, none⟩ = some b ∧ w.cell? ⟨g, i * 5 + 2, none⟩ = some c ∧ w.cell? ⟨g, i * 5 + 3, none⟩ = some d ∧ w.cell? ⟨g, i * 5 + 4, none⟩ = some e) ∧ (w.frozen? ⟨g, i * 5, none⟩ = false ∧ w.frozen? ⟨g, i * 5 + 1, none⟩ = false ∧ w.frozen? ⟨g, i * 5 + 2, none⟩ = false ∧ w.frozen? ⟨g, i * 5 + 3, none⟩ = false ∧ w.frozen? ⟨g, i * 5 + 4, none⟩ = false) := by
  obtain ⟨F, h1, _⟩ := h
  exact ⟨⟨_, _, _, _, _, h1.cell (by omega), h1.cell (by omega), h1.cell (by omega), h1.cell (by omega), h1.cell (by omega)⟩, h1.frozen _, h1.frozen _, h1.frozen _, h1.frozen _, h1.frozen _⟩

set_option maxRecDepth 100000 in
set_option maxHeartbeats 1000000 in
theorem toReach_any (r : Rv.Rc) (w : World) :
    Calls Tryd.prog 60 #[rcV r] w fun e w' => e = .returned (rcV r) ∧ Below w.heap.size w w' := by
  go_enter Tryd.func60, Tryd.ntmps60
  go_wp2_with fail
  exact bodyPost_ret (v := rcV r) (by simp [results, Tryd.results60, go_sem]) rfl ⟨rfl, (((Below.refl _ _).alloc (Nat.le_refl _) _).alloc (by simp) _).alloc (by simp <;> omega) _⟩

set_option maxRecDepth 100000 in
set_option maxHeartbeats 2000000 in
theorem toReachS_any (a : Option Addr) (n cap : Nat) (rs : Nat → Rv.Rc) (w : World) (h : RcsIn a n rs w) (hn : n ≤ 1048576) :
    Calls Tryd.prog 14 #[.slice a n cap] w fun e w' => (e = .returned (.slice (some ⟨w.heap.size, 0, none⟩) n n) ∧ RcBlk w.heap.size n rs w') ∧ Below w.heap.size w w' := by
  have hmk := mk_rc n hn
  have H := Lib.hid h
  have HST : Hid (RcPart w.heap.size n 0 rs (w.alloc (.cells (madeCells rcZ (n * 5)) 43))) := ⟨_, made_rc w n, fun j hj => absurd hj (by omega)⟩
  clear h
  go_enter Tryd.func14, Tryd.ntmps14
  go_wp2_with fail
  clear hmk
  go_loopw [4] (fun iv wr => ∃ (i : Nat), i ≤ n ∧ iv = .int .i64 i ∧ Hid (RcPart w.heap.size n i rs wr) ∧ Hid (Below w.heap.size w wr)) (fun iv _ => n - (intOf iv).toNat)
  case atStart => exact ⟨0, Nat.zero_le _, rfl, HST, (Below.refl _ _).alloc (Nat.le_refl _) _⟩
  case round =>
    obtain ⟨i, hi, rfl, hP, hB⟩ := hrel
    clear HST
    by_cases hlt : i < n
    · have hltz : (i : Int) < (n : Int) := by omega
      obtain ⟨b, o, rfl, c0, c1, c2, c3, c4⟩ := (H.out.below hB.out).at_ hlt
      go_wp2_with fail
      refine (toReach_any (rs i) _).mono ?_
      rintro e w1 ⟨rfl, hb⟩
      have hP1 := hP.out.block (hb.block _ hP.out.lt)
      have HB1 : Hid (Below w.heap.size w w1) := hB.out.trans (hb.mono hB.out.size)
      have HP2 := Lib.hid hP1.put
      obtain ⟨⟨x0, x1, x2, x3, x4, y0, y1, y2, y3, y4⟩, z0, z1, z2, z3, z4⟩ := hP1.at_ hlt
      have hz : w.heap.size < w1.heap.size := hP1.lt
      clear hP1 hb hP hB c0 c1 c2 c3 c4
      go_wp2_with fail
      go_roundw
      case rel => exact ⟨i + 1, by omega, by go_num, HP2, ((((HB1.out.setCell (p := ⟨w.heap.size, _, none⟩) (Nat.le_refl _) _).setCell (p := ⟨w.heap.size, _, none⟩) (Nat.le_refl _) _).setCell (p := ⟨w.heap.size, _, none⟩) (Nat.le_refl _) _).setCell (p := ⟨w.heap.size, _, none⟩) (Nat.le_refl _) _).setCell (p := ⟨w.heap.size, _, none⟩) (Nat.le_refl _) _⟩
      case measure => simp [intOf]; omega
    · obtain rfl : i = n := by omega
      go_wp2_with fail
      go_ret
      exact ⟨⟨rfl, hP.out.full⟩, hB.out⟩

/-- The first numbers are there. -/
def InPart (g N i : Nat) (f : Nat → Int) (w : World) : Prop := ∃ F, w.rowIs g 2 N F ∧ ∀ j, j < i → F j = inRow f j
theorem InPart.put {g N i : Nat} {f : Nat → Int} {w : World} (h : InPart g N i f w) : InPart g N (i + 1) f (w.setCell ⟨g, i, none⟩ (.int .i64 (f i))) := by
  obtain ⟨F, h1, h2⟩ := h
  refine ⟨_, h1.set i _, fun j hj => ?_⟩
  by_cases e : j = i
  · subst e; simp [inRow]
  · simp only [e, if_false]; exact h2 j (by omega)
set_option maxRecDepth 100000 in
set_option maxHeartbeats 2000000 in
theorem toInt64S_any (a : Option Addr) (n cap : Nat) (f : Nat → Int) (w : World) (h : IntsIn a n f w) (hn : n ≤ 1048576) :
    Calls Tryd.prog 15 #[.slice a n cap] w fun e w' => (e = .returned (.slice (some ⟨w.heap.size, 0, none⟩) n n) ∧ InBlk w.heap.size n f w') ∧ Below w.heap.size w w' := by
  have hmk := run_make_row' (P := Tryd.prog) 23 2 (.int .i64 0) 8 Tryd.underlying23 info_i64 rfl .i64 .i64 n (by omega) (by omega)
  have H := Lib.hid h
  have HST : Hid (InPart w.heap.size n 0 f (w.alloc (mkO n))) := ⟨_, World.rowIs_made w (.int .i64 0) n 2, fun j hj => absurd hj (by omega)⟩
  clear h
  go_enter Tryd.func15, Tryd.ntmps15
  go_wp2_with fail
  clear hmk
  go_loopw [4] (fun iv wr => ∃ (i : Nat), i ≤ n ∧ iv = .int .i64 i ∧ Hid (InPart w.heap.size n i f wr) ∧ Hid (Below w.heap.size w wr)) (fun iv _ => n - (intOf iv).toNat)
  case atStart => exact ⟨0, Nat.zero_le _, rfl, HST, (Below.refl _ _).alloc (Nat.le_refl _) _⟩
  case round =>
    obtain ⟨i, hi, rfl, hP, hB⟩ := hrel
    clear HST
    by_cases hlt : i < n
    · have hltz : (i : Int) < (n : Int) := by omega
      obtain ⟨b, o, rfl, c0⟩ := (H.out.below hB.out).at_ hlt
      have HP2 := Lib.hid hP.out.put
      obtain ⟨F, r1, _⟩ := hP.out
      have y0 := r1.cell (i := i) (by omega)
      have z0 := r1.frozen i
      have hz : w.heap.size < wr.heap.size := r1.lt
      clear r1 hP
      go_wp2_with fail
      go_roundw
      case rel => exact ⟨i + 1, by omega, by go_num, HP2, hB.out.setCell (p := ⟨w.heap.size, i, none⟩) (Nat.le_refl _) _⟩
      case measure => simp [intOf]; omega
    · obtain rfl : i = n := by omega
      obtain ⟨F, r1, r2⟩ := hP.out
      go_wp2_with fail
      go_ret
      exact ⟨⟨rfl, i, F, Nat.le_refl _, r1, r2⟩, hB.out⟩

set_option maxRecDepth 100000 in
set_option maxHeartbeats 1000000 in
theorem eqReach_same (r : Rv.Rc) (w : World) :
    Calls Tryd.prog 63 #[rcV r, rcV r] w fun e w' => e = .returned (.bool true) ∧ Below w.heap.size w w' := by
  go_enter Tryd.func63, Tryd.ntmps63
  go_wp2_with fail
  go_ret
  exact ⟨rfl, ((Below.refl _ _).alloc (Nat.le_refl _) _).alloc (by simp) _⟩

/-- What a round of the comparison reads. -/
def EqS (w : World) (b1 b2 i : Nat) (r : Rv.Rc) (W : World) : Prop := RcCells b1 (i * 5) r W ∧ RcCells b2 (i * 5) r W ∧ Below w.heap.size w W
theorem EqS.below {w : World} {b1 b2 i : Nat} {r : Rv.Rc} {W W' : World} (h : EqS w b1 b2 i r W) (hb : Below W.heap.size W W') : EqS w b1 b2 i r W' := ⟨h.1.block (hb.block _ h.1.lt), h.2.1.block (hb.block _ h.2.1.lt), h.2.2.trans (hb.mono h.2.2.size)⟩
set_option maxRecDepth 100000 in
set_option maxHeartbeats 2000000 in
theorem eqReachS_same (a b : Option Addr) (n ca cb : Nat) (rs : Nat → Rv.Rc) (w : World) (h1 : RcsAt a n rs w) (h2 : RcsAt b n rs w) (hn : n ≤ 1048576) :
    Calls Tryd.prog 18 #[.slice a n ca, .slice b n cb] w fun e w' => e = .returned (.bool true) ∧ Below w.heap.size w w' := by
  have H1 := Lib.hid h1
  have H2 := Lib.hid h2
  clear h1 h2
  go_enter Tryd.func18, Tryd.ntmps18
  go_wp2_with fail
  go_loopw [5] (fun iv wr => ∃ (i : Nat), i ≤ n ∧ iv = .int .i64 i ∧ Hid (Below w.heap.size w wr)) (fun iv _ => n - (intOf iv).toNat)
  case atStart => exact ⟨0, Nat.zero_le _, rfl, Below.refl _ _⟩
  case round =>
    obtain ⟨i, hi, rfl, hB⟩ := hrel
    by_cases hlt : i < n
    · have hltz : (i : Int) < (n : Int) := by omega
      obtain ⟨b1, rfl, k1⟩ := (H1.out.below hB.out).at_ hlt
      obtain ⟨b2, rfl, k2⟩ := (H2.out.below hB.out).at_ hlt
      have HE : Hid (EqS w b1 b2 i (rs i) wr) := ⟨k1, k2, hB.out⟩
      clear k1 k2 hB
      go_wp2_with fail
      refine wp_region_held_drew (S := EqS w b1 b2 i (rs i)) (by kernel_rfl) (HE.out.below (Below.refl _ _).drew) (fun hHeld => ?_)
      clear HE
      refine take_do (i := 0) (v := (.slice (some ⟨b1, 0, none⟩) n ca)) rfl (by kernel_rfl) (by kernel_rfl) (by kernel_rfl) (fun _ _ _ h => h) (by rfl) ?_ (by assumption) ?_
      · intro w hSw
        obtain ⟨⟨c0, c1, c2, c3, c4⟩, ⟨d0, d1, d2, d3, d4⟩, _⟩ := hSw
        go_simp
      simp only [Act.put, List.setIfInBounds_toArray, List.set_cons_zero, List.set_cons_succ]
      refine take_do (i := 1) (v := (.int .i64 i)) rfl (by kernel_rfl) (by kernel_rfl) (by kernel_rfl) (fun _ _ _ h => h) (by rfl) ?_ (by assumption) ?_
      · intro w hSw
        obtain ⟨⟨c0, c1, c2, c3, c4⟩, ⟨d0, d1, d2, d3, d4⟩, _⟩ := hSw
        go_simp
      simp only [Act.put, List.setIfInBounds_toArray, List.set_cons_zero, List.set_cons_succ]
      refine take_do (i := 2) (v := (.pointer (some ⟨b1, i * 5, none⟩))) rfl (by kernel_rfl) (by kernel_rfl) (by kernel_rfl) (fun _ _ _ h => h) (by rfl) ?_ (by assumption) ?_
      · intro w hSw
        obtain ⟨⟨c0, c1, c2, c3, c4⟩, ⟨d0, d1, d2, d3, d4⟩, _⟩ := hSw
        go_simp
      simp only [Act.put, List.setIfInBounds_toArray, List.set_cons_zero, List.set_cons_succ]
      refine take_do (i := 3) (v := (rcV (rs i))) rfl (by kernel_rfl) (by kernel_rfl) (by kernel_rfl) (fun _ _ _ h => h) (by rfl) ?_ (by assumption) ?_
      · intro w hSw
        obtain ⟨⟨c0, c1, c2, c3, c4⟩, ⟨d0, d1, d2, d3, d4⟩, _⟩ := hSw
        go_simp
      simp only [Act.put, List.setIfInBounds_toArray, List.set_cons_zero, List.set_cons_succ]
      refine take_do (i := 4) (v := (.slice (some ⟨b2, 0, none⟩) n cb)) rfl (by kernel_rfl) (by kernel_rfl) (by kernel_rfl) (fun _ _ _ h => h) (by rfl) ?_ (by assumption) ?_
      · intro w hSw
        obtain ⟨⟨c0, c1, c2, c3, c4⟩, ⟨d0, d1, d2, d3, d4⟩, _⟩ := hSw
        go_simp
      simp only [Act.put, List.setIfInBounds_toArray, List.set_cons_zero, List.set_cons_succ]
      refine take_do (i := 5) (v := (.int .i64 i)) rfl (by kernel_rfl) (by kernel_rfl) (by kernel_rfl) (fun _ _ _ h => h) (by rfl) ?_ (by assumption) ?_
      · intro w hSw
        obtain ⟨⟨c0, c1, c2, c3, c4⟩, ⟨d0, d1, d2, d3, d4⟩, _⟩ := hSw
        go_simp
      simp only [Act.put, List.setIfInBounds_toArray, List.set_cons_zero, List.set_cons_succ]
      refine take_do (i := 6) (v := (.pointer (some ⟨b2, i * 5, none⟩))) rfl (by kernel_rfl) (by kernel_rfl) (by kernel_rfl) (fun _ _ _ h => h) (by rfl) ?_ (by assumption) ?_
      · intro w hSw
        obtain ⟨⟨c0, c1, c2, c3, c4⟩, ⟨d0, d1, d2, d3, d4⟩, _⟩ := hSw
        go_simp
      simp only [Act.put, List.setIfInBounds_toArray, List.set_cons_zero, List.set_cons_succ]
      refine take_do (i := 7) (v := (rcV (rs i))) rfl (by kernel_rfl) (by kernel_rfl) (by kernel_rfl) (fun _ _ _ h => h) (by rfl) ?_ (by assumption) ?_
      · intro w hSw
        obtain ⟨⟨c0, c1, c2, c3, c4⟩, ⟨d0, d1, d2, d3, d4⟩, _⟩ := hSw
        go_simp
      simp only [Act.put, List.setIfInBounds_toArray, List.set_cons_zero, List.set_cons_succ]
      refine take_call (i := 8) rfl (by kernel_rfl) (fun K2 hK => ?_)
      go_simp
      refine (eqReach_same (rs i) _).mono ?_
      rintro e w1 ⟨rfl, hb⟩
      go_wp2_with fail
      refine hK.out _ _ (hHeld.below hb) (fun hHeld2 => ?_)
      clear hK hHeld hb
      have hHeld := hHeld2
      clear hHeld2
      refine take_do (i := 9) (v := (.bool false)) rfl (by kernel_rfl) (by kernel_rfl) (by kernel_rfl) (fun _ _ _ h => h) (by rfl) ?_ (by assumption) ?_
      · intro w hSw
        obtain ⟨⟨c0, c1, c2, c3, c4⟩, ⟨d0, d1, d2, d3, d4⟩, _⟩ := hSw
        go_simp
      simp only [Act.put, List.setIfInBounds_toArray, List.set_cons_zero, List.set_cons_succ]
      refine wpAnyH_done (by kernel_rfl) ?_ _
      have HB1 := Lib.hid hHeld.2.2
      clear hHeld
      go_wp2_with fail
      go_roundw
      case rel => exact ⟨i + 1, by omega, by go_num, HB1⟩
      case measure => simp [intOf]; omega
    · obtain rfl : i = n := by omega
      go_wp2_with fail
      go_ret
      exact ⟨rfl, hB.out⟩

set_option maxRecDepth 100000 in
set_option maxHeartbeats 2000000 in
theorem eqInt64S_same (a b : Option Addr) (n ca cb : Nat) (f : Nat → Int) (w : World) (h1 : IntsAt a n f w) (h2 : IntsAt b n f w) (hn : n ≤ 1048576) :
    Calls Tryd.prog 19 #[.slice a n ca, .slice b n cb] w fun e w' => e = .returned (.bool true) ∧ Below w.heap.size w w' := by
  have H1 := Lib.hid h1
  have H2 := Lib.hid h2
  clear h1 h2
  go_enter Tryd.func19, Tryd.ntmps19
  go_wp2_with fail
  go_loopw [5] (fun iv wr => ∃ (i : Nat), i ≤ n ∧ iv = .int .i64 i ∧ Hid (Below w.heap.size w wr)) (fun iv _ => n - (intOf iv).toNat)
  case atStart => exact ⟨0, Nat.zero_le _, rfl, Below.refl _ _⟩
  case round =>
    obtain ⟨i, hi, rfl, hB⟩ := hrel
    by_cases hlt : i < n
    · have hltz : (i : Int) < (n : Int) := by omega
      obtain ⟨b1, rfl, k1⟩ := (H1.out.below hB.out).at_ hlt
      obtain ⟨b2, rfl, k2⟩ := (H2.out.below hB.out).at_ hlt
      go_wp2_with fail
      go_region
      go_wp2_with fail
      go_roundw
      case rel => exact ⟨i + 1, by omega, by go_num, hB.out.drew⟩
      case measure => simp [intOf]; omega
    · obtain rfl : i = n := by omega
      go_wp2_with fail
      go_ret
      exact ⟨rfl, hB.out⟩
end Go.Proofs.YtdpghhmcibiplaaDoor
