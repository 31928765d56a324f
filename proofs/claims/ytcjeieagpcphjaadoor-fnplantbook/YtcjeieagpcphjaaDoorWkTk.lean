/-
  The contract of the program's taking off of a batch.
-/
import Derived.Test.YtcjeieagpcphjaaDoorWkEx
import Derived.Deep.DeepCutAuto
import Derived.Deep.RegionLaw
namespace Go.Proofs.YtcjeieagpcphjaaDoor
open Go.RowKit Go.Deep

/-- Two batches and a code, as a value. -/
abbrev nilB : Value := .agg #[.int .i64 0, .slice none 0 0]
theorem InPart.block {g N i : Nat} {f : Nat → Int} {w w' : World} (h : InPart g N i f w) (e : w'.heap[g]? = w.heap[g]?) : InPart g N i f w' := by obtain ⟨F, h1, h2⟩ := h; exact ⟨F, h1.of_block e, h2⟩
theorem InPart.lt {g N i : Nat} {f : Nat → Int} {w : World} (h : InPart g N i f w) : g < w.heap.size := by obtain ⟨F, h1, _⟩ := h; exact h1.lt
theorem InPart.full {g n : Nat} {f : Nat → Int} {w : World} (h : InPart g n n f w) : InBlk g n f w := by obtain ⟨F, h1, h2⟩ := h; exact ⟨n, F, Nat.le_refl _, h1, h2⟩
theorem InPart.at_ {g N i : Nat} {f : Nat → Int} {w : World} (h : InPart g N i f w) (hi : i < N) : (∃ v, w.cell? ⟨g, i, none⟩ = some v) ∧ w.frozen? ⟨g, i, none⟩ = false := by
  obtain ⟨F, h1, _⟩ := h; exact ⟨⟨_, h1.cell hi⟩, h1.frozen i⟩
theorem made_part (w : World) (n : Nat) (f : Nat → Int) : InPart w.heap.size n 0 f (w.alloc (mkO n)) := ⟨_, World.rowIs_made w (.int .i64 0) n 2, fun j hj => absurd hj (by omega)⟩

/-- What stands from round to round. -/
structure TkI (w : World) (a : Option Addr) (k : Nat) (wt water : Int) (n : Nat) (f s : Nat → Int) (g1 b8 g2 b9 i1 i2 : Nat) (W : World) : Prop where
  box : W.rowIs w.heap.size 28 2 (r2 (.int .i64 wt) (.slice a n k))
  o6 : W.rowIs (w.heap.size + 1) 28 2 (r2 (.int .i64 0) (.slice none 0 0))
  o7 : W.rowIs (w.heap.size + 1 + 1) 28 2 (r2 (.int .i64 0) (.slice none 0 0))
  r8 : W.rowIs b8 28 2 (r2 (.int .i64 water) (.slice (some ⟨g1, 0, none⟩) n n))
  r9 : W.rowIs b9 28 2 (r2 (.int .i64 (wt - water)) (.slice (some ⟨g2, 0, none⟩) n n))
  p1 : InPart g1 n i1 s W
  p2 : InPart g2 n i2 (fun j => f j - s j) W
  bel : Below w.heap.size w W
  num : (w.heap.size + 3 ≤ g1 ∧ w.heap.size + 3 ≤ b8 ∧ w.heap.size + 3 ≤ g2 ∧ w.heap.size + 3 ≤ b9) ∧ (g1 ≠ b8 ∧ g1 ≠ g2 ∧ g1 ≠ b9 ∧ b8 ≠ g2 ∧ b8 ≠ b9 ∧ g2 ≠ b9)
/-- What stands ahead of the second list. -/
structure TkO (w : World) (a : Option Addr) (k : Nat) (wt water : Int) (n : Nat) (f s : Nat → Int) (W : World) : Prop where
  box : W.rowIs w.heap.size 28 2 (r2 (.int .i64 wt) (.slice a n k))
  o6 : W.rowIs (w.heap.size + 1) 28 2 (r2 (.int .i64 0) (.slice none 0 0))
  o7 : W.rowIs (w.heap.size + 1 + 1) 28 2 (r2 (.int .i64 0) (.slice none 0 0))
  p1 : InPart (w.heap.size + 1 + 1 + 1) n 0 s W
  r8 : W.rowIs (w.heap.size + 1 + 1 + 1 + 1) 28 2 (r2 (.int .i64 water) (.slice (some ⟨w.heap.size + 1 + 1 + 1, 0, none⟩) n n))
  bel : Below w.heap.size w W
  size : W.heap.size = w.heap.size + 5
theorem bel_alloc (w : World) (o : Obj) : Below w.heap.size w (w.alloc o) := (Below.refl _ _).alloc (Nat.le_refl _) o
theorem row2' {w : World} {g : Nat} (e : w.heap.size = g) (a b : Value) (t : TypeId) : (w.alloc (.cells #[a, b] t)).rowIs g t 2 (r2 a b) := by subst e; exact row2 w a b t
theorem made_part' {w : World} {g : Nat} (e : w.heap.size = g) (n : Nat) (f : Nat → Int) : InPart g n 0 f (w.alloc (mkO n)) := by subst e; exact made_part w n f
theorem tkO_of (w : World) (a : Option Addr) (k : Nat) (wt water : Int) (n : Nat) (f s : Nat → Int) : TkO w a k wt water n f s (((((w.alloc (.cells #[.int .i64 wt, .slice a n k] 28)).alloc (.cells #[.int .i64 0, .slice none 0 0] 28)).alloc (.cells #[.int .i64 0, .slice none 0 0] 28)).alloc (mkO n)).alloc (.cells #[.int .i64 water, .slice (some ⟨w.heap.size + 1 + 1 + 1, 0, none⟩) n n] 28)) := by
  refine ⟨?_, ?_, ?_, ?_, ?_, ?_, ?_⟩
  · exact wrow_below (wrow_below (wrow_below (wrow_below (row2 w _ _ _) (bel_alloc _ _)) (bel_alloc _ _)) (bel_alloc _ _)) (bel_alloc _ _)
  · exact wrow_below (wrow_below (wrow_below (row2' (by simp) _ _ _) (bel_alloc _ _)) (bel_alloc _ _)) (bel_alloc _ _)
  · exact wrow_below (wrow_below (row2' (by simp) _ _ _) (bel_alloc _ _)) (bel_alloc _ _)
  · exact (made_part' (by simp) n s).block ((bel_alloc _ _).block _ (by simp))
  · exact row2' (by simp) _ _ _
  · exact (((((Below.refl _ w).alloc (Nat.le_refl _) _).alloc (by simp) _).alloc (by simp; omega) _).alloc (by simp; omega) _).alloc (by simp; omega) _
  · simp
section
variable {w : World} {a : Option Addr} {k : Nat} {wt water : Int} {n : Nat} {f s : Nat → Int} {g1 b8 g2 b9 i1 i2 : Nat} {W : World}
theorem TkI.drew (h : TkI w a k wt water n f s g1 b8 g2 b9 i1 i2 W) : TkI w a k wt water n f s g1 b8 g2 b9 i1 i2 W.drew :=
  have e : ∀ g : Nat, W.drew.heap[g]? = W.heap[g]? := fun _ => rfl
  ⟨h.box.of_block (e _), h.o6.of_block (e _), h.o7.of_block (e _), h.r8.of_block (e _), h.r9.of_block (e _), h.p1.block (e _), h.p2.block (e _), h.bel.drew, h.num⟩
theorem TkI.put1 (h : TkI w a k wt water n f s g1 b8 g2 b9 i1 i2 W) : TkI w a k wt water n f s g1 b8 g2 b9 (i1 + 1) i2 (W.setCell ⟨g1, i1, none⟩ (.int .i64 (s i1))) := by
  obtain ⟨⟨n1, n2, n3, n4⟩, n5, n6, n7, n8, n9, n10⟩ := h.num
  have e : ∀ g, g ≠ g1 → (W.setCell ⟨g1, i1, none⟩ (.int .i64 (s i1))).heap[g]? = W.heap[g]? := fun g hg => Below.heap_setCell _ ⟨g1, i1, none⟩ _ _ hg
  exact ⟨h.box.of_block (e _ (by omega)), h.o6.of_block (e _ (by omega)), h.o7.of_block (e _ (by omega)), h.r8.of_block (e _ (by omega)), h.r9.of_block (e _ (by omega)), h.p1.put, h.p2.block (e _ (by omega)), h.bel.setCell (p := ⟨g1, i1, none⟩) (by show w.heap.size ≤ g1; omega) _, h.num⟩
theorem TkI.put2 (h : TkI w a k wt water n f s g1 b8 g2 b9 i1 i2 W) : TkI w a k wt water n f s g1 b8 g2 b9 i1 (i2 + 1) (W.setCell ⟨g2, i2, none⟩ (.int .i64 (f i2 - s i2))) := by
  obtain ⟨⟨n1, n2, n3, n4⟩, n5, n6, n7, n8, n9, n10⟩ := h.num
  have e : ∀ g, g ≠ g2 → (W.setCell ⟨g2, i2, none⟩ (.int .i64 (f i2 - s i2))).heap[g]? = W.heap[g]? := fun g hg => Below.heap_setCell _ ⟨g2, i2, none⟩ _ _ hg
  exact ⟨h.box.of_block (e _ (by omega)), h.o6.of_block (e _ (by omega)), h.o7.of_block (e _ (by omega)), h.r8.of_block (e _ (by omega)), h.r9.of_block (e _ (by omega)), h.p1.block (e _ (by omega)), h.p2.put, h.bel.setCell (p := ⟨g2, i2, none⟩) (by show w.heap.size ≤ g2; omega) _, h.num⟩
theorem tkI_of {W1 : World} (h : TkO w a k wt water n f s W1) (hb : Below W1.heap.size W1 W) (h9 : W.rowIs b9 28 2 (r2 (.int .i64 (wt - water)) (.slice (some ⟨g2, 0, none⟩) n n))) (h2 : InPart g2 n 0 (fun j => f j - s j) W) (hg : W1.heap.size ≤ g2 ∧ W1.heap.size ≤ b9 ∧ g2 ≠ b9) :
    TkI w a k wt water n f s (w.heap.size + 1 + 1 + 1) (w.heap.size + 1 + 1 + 1 + 1) g2 b9 0 0 W := by
  have hs := h.size
  exact ⟨wrow_below h.box hb, wrow_below h.o6 hb, wrow_below h.o7 hb, wrow_below h.r8 hb, h9, h.p1.block (hb.block _ h.p1.lt), h2, h.bel.trans (hb.mono h.bel.size), by omega⟩
theorem tkI_a {W1 : World} (h : TkO w a k wt water n f s W1) : TkI w a k wt water n f s (w.heap.size + 1 + 1 + 1) (w.heap.size + 1 + 1 + 1 + 1) W1.heap.size (W1.heap.size + 1) 0 0 (((W1.alloc (mkO n)).alloc (.cells #[.int .i64 (wt - water), .slice (some ⟨W1.heap.size, 0, none⟩) n n] 28)).drew) := by
  refine TkI.drew (tkI_of h (((Below.refl _ _).alloc (Nat.le_refl _) _).alloc (by simp) _) (row2' (by simp) _ _ _) ((made_part W1 n _).block ((bel_alloc _ _).block _ (by simp))) (by omega))
theorem tkI_b {W1 : World} (h : TkO w a k wt water n f s W1) : TkI w a k wt water n f s (w.heap.size + 1 + 1 + 1) (w.heap.size + 1 + 1 + 1 + 1) (W1.heap.size + 1) W1.heap.size 0 0 (((W1.alloc (.cells #[.int .i64 (wt - water), .slice (some ⟨W1.heap.size + 1, 0, none⟩) n n] 28)).alloc (mkO n)).drew) := by
  refine TkI.drew (tkI_of h (((Below.refl _ _).alloc (Nat.le_refl _) _).alloc (by simp) _) (wrow_below (row2 _ _ _ _) (bel_alloc _ _)) (made_part' (by simp) n _) (by omega))
end
set_option maxRecDepth 100000 in
set_option maxHeartbeats 8000000 in
theorem takeOff_any (wt : Int) (a : Option Addr) (n k : Nat) (f : Nat → Int) (water : Int) (F : FuncId) (caps : Array Value) (s : Nat → Int) (w : World) (h : IntsAt a n f w) (hn : n ≤ 6) (hf : ∀ i, i < n → (0 ≤ f i ∧ f i ≤ 1000000000) ∧ (0 ≤ s i ∧ s i ≤ f i)) (hw : 0 ≤ water ∧ water ≤ wt) (hw2 : wt ≤ 1000000000) (heg : ∀ args w, (callFunc F args).run Tryd.prog w = .ok (.enter F args) w)
    (hcl : ∀ W, Below w.heap.size w W → ∀ i, i < n → Calls Tryd.prog F (#[.int .i64 (i : Nat), .int .i64 (f i)] ++ caps) W fun e W' => e = .returned (.int .i64 (s i)) ∧ W' = W) :
    Calls Tryd.prog 68 #[btV wt a n k, .int .i64 water, .func (.func F) #[] caps] w fun e w' => (∃ g1 g2, e = .returned (.tuple #[btV water (some ⟨g1, 0, none⟩) n n, btV (wt - water) (some ⟨g2, 0, none⟩) n n]) ∧ (w.heap.size ≤ g1 ∧ w.heap.size ≤ g2 ∧ g1 ≠ g2) ∧ InBlk g1 n s w' ∧ InBlk g2 n (fun j => f j - s j) w') ∧ Below w.heap.size w w' := by
  have hmk := run_make_row' (P := Tryd.prog) 24 2 (.int .i64 0) 8 Tryd.underlying24 info_i64 rfl .i64 .i64 n (by omega) (by omega)
  have H := Lib.hid h
  have HF := Lib.hid hf
  have HCL := Lib.hid hcl
  obtain ⟨hw0, hw1⟩ := hw
  obtain ⟨W1, hW1⟩ : ∃ W1, W1 = ((((w.alloc (.cells #[.int .i64 wt, .slice a n k] 28)).alloc (.cells #[.int .i64 0, .slice none 0 0] 28)).alloc (.cells #[.int .i64 0, .slice none 0 0] 28)).alloc (mkO n)).alloc (.cells #[.int .i64 water, .slice (some ⟨w.heap.size + 1 + 1 + 1, 0, none⟩) n n] 28) := ⟨_, rfl⟩
  have hT1 : TkO w a k wt water n f s W1 := by rw [hW1]; exact tkO_of w a k wt water n f s
  have HT1 := Lib.hid hT1
  have HW1 := Lib.hid hW1
  obtain ⟨⟨x0, x1⟩, _⟩ := row2_cells hT1.box
  have hlt : w.heap.size < W1.heap.size := hT1.box.lt
  clear h hf hcl hW1 hT1
  go_enter Tryd.func68, Tryd.ntmps68
  go_wp2_with fail
  rw [← HW1.out]
  go_cut [9] (fun p W => ∃ g2 b9, p = .pointer (some ⟨b9, 0, none⟩) ∧ Hid (TkI w a k wt water n f s (w.heap.size + 1 + 1 + 1) (w.heap.size + 1 + 1 + 1 + 1) g2 b9 0 0 W))
  case first =>
    go_region
    all_goals go_wp2_with fail
    all_goals go_meet
    all_goals (case rel => first | exact ⟨_, _, rfl, tkI_a HT1.out⟩ | exact ⟨_, _, rfl, tkI_b HT1.out⟩)
  case rest =>
    obtain ⟨g2, b9, rfl, hC⟩ := hcut
    obtain ⟨g1, hg1⟩ : ∃ g1, g1 = w.heap.size + 1 + 1 + 1 := ⟨_, rfl⟩
    obtain ⟨b8, hb8⟩ : ∃ b8, b8 = w.heap.size + 1 + 1 + 1 + 1 := ⟨_, rfl⟩
    rw [← hb8, ← hg1] at hC
    rw [← hb8]
    clear hb8 hg1 hmk x0 x1 hlt HT1 HW1
    obtain ⟨⟨x0, x1⟩, _⟩ := row2_cells hC.out.box
    go_wp2_with fail
    clear x0 x1
    go_loopw [30] (fun iv wr => ∃ (i : Nat), i ≤ n ∧ iv = .int .i64 i ∧ Hid (TkI w a k wt water n f s g1 b8 g2 b9 i i wr)) (fun iv _ => n - (intOf iv).toNat)
    case atStart => exact ⟨0, Nat.zero_le _, rfl, hC⟩
    case round =>
      obtain ⟨i, hi, rfl, hT⟩ := hrel
      clear hC
      by_cases hlt : i < n
      · have hltz : (i : Int) < (n : Int) := by omega
        obtain ⟨bb, rfl, c0⟩ := (H.out.below hT.out.bel).at_ hlt
        obtain ⟨⟨x0, x1⟩, _⟩ := row2_cells hT.out.r8
        obtain ⟨⟨v1, y1⟩, z1⟩ := hT.out.p1.at_ hlt
        have HT6 := Lib.hid hT.out.put1.drew
        have l8 : b8 < wr.heap.size := hT.out.r8.lt
        have lg1 : g1 < wr.heap.size := hT.out.p1.lt
        have hne := hT.out.num.2.1
        go_wp2_with fail
        refine wp_region_held_drew (S := fun W => W.rowIs b8 28 2 (r2 (.int .i64 water) (.slice (some ⟨g1, 0, none⟩) n n))) (by kernel_rfl) (hT.out.r8.of_block rfl) (fun hHeld => ?_)
        refine take_do (i := 0) (v := (.pointer (some ⟨b8, 1, none⟩))) rfl (by kernel_rfl) (by kernel_rfl) (by kernel_rfl) (fun _ _ _ h => h) (by rfl) ?_ (by assumption) ?_
        · intro w hSw
          obtain ⟨⟨x0, x1⟩, _⟩ := row2_cells hSw
          go_simp
        simp only [Act.put, List.setIfInBounds_toArray, List.set_cons_zero, List.set_cons_succ]
        refine take_do (i := 1) (v := (.slice (some ⟨g1, 0, none⟩) n n)) rfl (by kernel_rfl) (by kernel_rfl) (by kernel_rfl) (fun _ _ _ h => h) (by rfl) ?_ (by assumption) ?_
        · intro w hSw
          obtain ⟨⟨x0, x1⟩, _⟩ := row2_cells hSw
          go_simp
        simp only [Act.put, List.setIfInBounds_toArray, List.set_cons_zero, List.set_cons_succ]
        refine take_do (i := 2) (v := (.int .i64 i)) rfl (by kernel_rfl) (by kernel_rfl) (by kernel_rfl) (fun _ _ _ h => h) (by rfl) ?_ (by assumption) ?_
        · intro w hSw
          obtain ⟨⟨x0, x1⟩, _⟩ := row2_cells hSw
          go_simp
        simp only [Act.put, List.setIfInBounds_toArray, List.set_cons_zero, List.set_cons_succ]
        refine take_do (i := 3) (v := (.func (.func F) #[] caps)) rfl (by kernel_rfl) (by kernel_rfl) (by kernel_rfl) (fun _ _ _ h => h) (by rfl) ?_ (by assumption) ?_
        · intro w hSw
          obtain ⟨⟨x0, x1⟩, _⟩ := row2_cells hSw
          go_simp
        simp only [Act.put, List.setIfInBounds_toArray, List.set_cons_zero, List.set_cons_succ]
        refine take_do (i := 4) (v := (.int .i64 i)) rfl (by kernel_rfl) (by kernel_rfl) (by kernel_rfl) (fun _ _ _ h => h) (by rfl) ?_ (by assumption) ?_
        · intro w hSw
          obtain ⟨⟨x0, x1⟩, _⟩ := row2_cells hSw
          go_simp
        simp only [Act.put, List.setIfInBounds_toArray, List.set_cons_zero, List.set_cons_succ]
        refine take_do (i := 5) (v := (.int .i64 (f i))) rfl (by kernel_rfl) (by kernel_rfl) (by kernel_rfl) (fun _ _ _ h => h) (by rfl) ?_ (by assumption) ?_
        · intro w hSw
          obtain ⟨⟨x0, x1⟩, _⟩ := row2_cells hSw
          go_simp
        simp only [Act.put, List.setIfInBounds_toArray, List.set_cons_zero, List.set_cons_succ]
        refine take_call (i := 6) rfl (by kernel_rfl) (fun K2 hK => ?_)
        go_simp
        refine (HCL.out _ hT.out.bel.drew i hlt).mono ?_
        rintro e w1 ⟨rfl, rfl⟩
        go_wp2_with fail
        refine hK.out _ _ hHeld (fun hHeld2 => ?_)
        clear hK hHeld
        refine take_do (i := 7) (v := (.pointer (some ⟨g1, i, none⟩))) rfl (by kernel_rfl) (by kernel_rfl) (by kernel_rfl) (fun _ _ _ h => h) (by rfl) ?_ (by assumption) ?_
        · intro w hSw
          obtain ⟨⟨x0, x1⟩, _⟩ := row2_cells hSw
          go_simp
        simp only [Act.put, List.setIfInBounds_toArray, List.set_cons_zero, List.set_cons_succ]
        refine take_call (i := 8) rfl (by kernel_rfl) (fun K2 hK => ?_)
        go_simp
        refine hK.out _ _ ((hT.out.r8.of_block (Below.heap_setCell _ ⟨g1, i, none⟩ _ _ (fun e => hne e.symm))).of_block rfl) (fun hHeld => ?_)
        clear hK hHeld hHeld2
        refine wpAnyH_done (by kernel_rfl) ?_ _
        clear x0 x1 y1 z1 c0 l8 lg1 hT
        obtain ⟨W6, hW6⟩ : ∃ W6, W6 = (wr.setCell ⟨g1, i, none⟩ (.int .i64 (s i))).drew := ⟨_, rfl⟩
        rw [← hW6] at HT6 ⊢
        clear hW6
        obtain ⟨⟨x0, x1⟩, _⟩ := row2_cells HT6.out.r8
        obtain ⟨⟨u0, u1⟩, _⟩ := row2_cells HT6.out.r9
        have y1 : W6.cell? ⟨g1, i, none⟩ = some (.int .i64 (s i)) := by
          obtain ⟨F1, q1, q2⟩ := HT6.out.p1
          rw [q1.cell hlt, q2 i (by omega)]; rfl
        obtain ⟨⟨v2, y2⟩, z2⟩ := HT6.out.p2.at_ hlt
        have HT7 := Lib.hid HT6.out.put2.drew
        obtain ⟨⟨f0, f1⟩, s0, s1⟩ := HF.out i hlt
        have l8 : b8 < W6.heap.size := HT6.out.r8.lt
        have l9 : b9 < W6.heap.size := HT6.out.r9.lt
        go_wp2_with fail
        go_region
        clear x0 x1 u0 u1 y1 y2 z2 l8 l9 HT6
        go_wp2_with fail
        go_roundw
        case rel => exact ⟨i + 1, by omega, by go_num, HT7⟩
        case measure => simp [intOf]; omega
      · obtain rfl : i = n := by omega
        obtain ⟨⟨x0, x1⟩, _⟩ := row2_cells hT.out.r8
        obtain ⟨⟨u0, u1⟩, _⟩ := row2_cells hT.out.r9
        obtain ⟨⟨o0, o1⟩, y0, y1⟩ := row2_cells hT.out.o6
        obtain ⟨⟨q0, q1⟩, z0, z1⟩ := row2_cells hT.out.o7
        have l8 : b8 < wr.heap.size := hT.out.r8.lt
        have l9 : b9 < wr.heap.size := hT.out.r9.lt
        have hnum := hT.out.num.1
        have d1 : b8 ≠ w.heap.size + 1 := by omega
        have d2 : b8 ≠ w.heap.size + 1 + 1 := by omega
        have d3 : b9 ≠ w.heap.size + 1 := by omega
        have d4 : b9 ≠ w.heap.size + 1 + 1 := by omega
        have d5 := hT.out.o7.lt
        clear hnum
        go_wp2_with fail
        go_region
        go_wp2_with fail
        have hF1 := row2_put hT.out.o6 (.int .i64 water) (.slice (some ⟨g1, 0, none⟩) i i)
        have hnum := hT.out.num
        have e7 : ∀ g, g ≠ w.heap.size + 1 → ((wr.setCell ⟨w.heap.size + 1, 0, none⟩ (.int .i64 water)).setCell ⟨w.heap.size + 1, 1, none⟩ (.slice (some ⟨g1, 0, none⟩) i i)).heap[g]? = wr.heap[g]? := fun g hg => (Below.heap_setCell _ ⟨w.heap.size + 1, 1, none⟩ _ _ hg).trans (Below.heap_setCell _ ⟨w.heap.size + 1, 0, none⟩ _ _ hg)
        have hF2 := row2_put (hT.out.o7.of_block (e7 _ (by omega))) (.int .i64 (wt - water)) (.slice (some ⟨g2, 0, none⟩) i i)
        have hF1' := (hF1.of_block (Below.heap_setCell _ ⟨w.heap.size + 1 + 1, 0, none⟩ (.int .i64 (wt - water)) _ (by show w.heap.size + 1 ≠ w.heap.size + 1 + 1; omega))).of_block (Below.heap_setCell _ ⟨w.heap.size + 1 + 1, 1, none⟩ (.slice (some ⟨g2, 0, none⟩) i i) _ (by show w.heap.size + 1 ≠ w.heap.size + 1 + 1; omega))
        have e9 : ∀ g, g ≠ w.heap.size + 1 → g ≠ w.heap.size + 1 + 1 → (((((wr.setCell ⟨w.heap.size + 1, 0, none⟩ (.int .i64 water)).setCell ⟨w.heap.size + 1, 1, none⟩ (.slice (some ⟨g1, 0, none⟩) i i)).setCell ⟨w.heap.size + 1 + 1, 0, none⟩ (.int .i64 (wt - water))).setCell ⟨w.heap.size + 1 + 1, 1, none⟩ (.slice (some ⟨g2, 0, none⟩) i i)).drew).heap[g]? = wr.heap[g]? := fun g hg hg2 => (Below.heap_setCell _ ⟨w.heap.size + 1 + 1, 1, none⟩ _ _ hg2).trans ((Below.heap_setCell _ ⟨w.heap.size + 1 + 1, 0, none⟩ _ _ hg2).trans (e7 g hg))
        refine bodyPost_ret (v := .tuple #[btV water (some ⟨g1, 0, none⟩) i i, btV (wt - water) (some ⟨g2, 0, none⟩) i i]) ?_ rfl ⟨⟨g1, g2, rfl, ⟨by omega, by omega, by omega⟩, hT.out.p1.full.block (e9 _ (by omega) (by omega)), hT.out.p2.full.block (e9 _ (by omega) (by omega))⟩, ?_⟩
        · obtain ⟨⟨a0, a1⟩, _⟩ := row2_cells hF1'
          obtain ⟨⟨a2, a3⟩, _⟩ := row2_cells hF2
          simp only [results, Tryd.results68]
          simp [go_sem, a0, a1, a2, a3]
        · exact ((((hT.out.bel.setCell (p := ⟨w.heap.size + 1, 0, none⟩) (by show w.heap.size ≤ w.heap.size + 1; omega) _).setCell (p := ⟨w.heap.size + 1, 1, none⟩) (by show w.heap.size ≤ w.heap.size + 1; omega) _).setCell (p := ⟨w.heap.size + 1 + 1, 0, none⟩) (by show w.heap.size ≤ w.heap.size + 1 + 1; omega) _).setCell (p := ⟨w.heap.size + 1 + 1, 1, none⟩) (by show w.heap.size ≤ w.heap.size + 1 + 1; omega) _).drew
end Go.Proofs.YtcjeieagpcphjaaDoor
