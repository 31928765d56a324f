/-
  The laws' conversions and comparisons of marks, rules, stores and numbers.
-/
import Derived.Test.YtcjeieagpcphjaaDoorStI1
import Derived.Test.YtcjeieagpcphjaaDoorReg
namespace Go.Proofs.YtcjeieagpcphjaaDoor
open Go.RowKit Go.Deep

/-- Pairs, numbers, that were handed in: anywhere in memory. -/
def PrsIn (a : Option Addr) (n : Nat) (ps : Nat → St.Pr) (w : World) : Prop := n = 0 ∨ ∃ b o, a = some ⟨b, o, none⟩ ∧ ∀ i, i < n → PrCells b (o + i * 2) (ps i) w
def IntsIn (a : Option Addr) (n : Nat) (f : Nat → Int) (w : World) : Prop := n = 0 ∨ ∃ b o, a = some ⟨b, o, none⟩ ∧ ∀ i, i < n → w.cell? ⟨b, o + i, none⟩ = some (.int .i64 (f i))
theorem PrsIn.below {a : Option Addr} {n : Nat} {ps : Nat → St.Pr} {w w' : World} (h : PrsIn a n ps w) (hb : Below w.heap.size w w') : PrsIn a n ps w' := by
  rcases h with h | ⟨b, o, e, h⟩
  · exact Or.inl h
  · exact Or.inr ⟨b, o, e, fun i hi => (h i hi).block (hb.block b (h i hi).lt)⟩
theorem IntsIn.below {a : Option Addr} {n : Nat} {f : Nat → Int} {w w' : World} (h : IntsIn a n f w) (hb : Below w.heap.size w w') : IntsIn a n f w' := by
  rcases h with h | ⟨b, o, e, h⟩
  · exact Or.inl h
  · exact Or.inr ⟨b, o, e, fun i hi => (hb.cell (World.block_lt_of_cell? _ _ (h i hi))).trans (h i hi)⟩
theorem PrsIn.at_ {a : Option Addr} {n : Nat} {ps : Nat → St.Pr} {w : World} (h : PrsIn a n ps w) {i : Nat} (hi : i < n) : ∃ b o, a = some ⟨b, o, none⟩ ∧ PrCells b (o + i * 2) (ps i) w := by
  rcases h with h | ⟨b, o, e, h⟩
  · omega
  · exact ⟨b, o, e, h i hi⟩
theorem IntsIn.at_ {a : Option Addr} {n : Nat} {f : Nat → Int} {w : World} (h : IntsIn a n f w) {i : Nat} (hi : i < n) : ∃ b o, a = some ⟨b, o, none⟩ ∧ w.cell? ⟨b, o + i, none⟩ = some (.int .i64 (f i)) := by
  rcases h with h | ⟨b, o, e, h⟩
  · omega
  · exact ⟨b, o, e, h i hi⟩

abbrev prZ : Array Value := #[.int .i64 0, .int .i64 0]
theorem made_pr (ty : TypeId) (w : World) (n : Nat) : (w.alloc (.cells (madeCells prZ (n * 2)) ty)).rowIs w.heap.size ty (n * 2) (fun _ => .int .i64 0) := by
  refine ⟨_, blk_alloc_new _ _, size_madeCells _ _, fun i hi => ?_⟩
  have h5 : i % 2 = 0 ∨ i % 2 = 1 := by omega
  rcases h5 with e | e <;> simp [madeCells, prZ, hi, e]
/-- The first pairs are there. -/
def PrPart (ty : TypeId) (g N i : Nat) (ps : Nat → St.Pr) (w : World) : Prop := ∃ F, w.rowIs g ty (N * 2) F ∧ ∀ j, j < i * 2 → F j = prRow ps j
theorem PrPart.block {ty : TypeId} {g N i : Nat} {ps : Nat → St.Pr} {w w' : World} (h : PrPart ty g N i ps w) (e : w'.heap[g]? = w.heap[g]?) : PrPart ty g N i ps w' := by obtain ⟨F, h1, h2⟩ := h; exact ⟨F, h1.of_block e, h2⟩
theorem PrPart.lt {ty : TypeId} {g N i : Nat} {ps : Nat → St.Pr} {w : World} (h : PrPart ty g N i ps w) : g < w.heap.size := by obtain ⟨F, h1, _⟩ := h; exact h1.lt
theorem PrPart.put {ty : TypeId} {g N i : Nat} {ps : Nat → St.Pr} {w : World} (h : PrPart ty g N i ps w) : PrPart ty g N (i + 1) ps ((w.setCell ⟨g, i * 2, none⟩ (.int .i64 (ps i).a)).setCell ⟨g, i * 2 + 1, none⟩ (.int .i64 (ps i).b)) := by
  obtain ⟨F, h1, h2⟩ := h
  refine ⟨_, (h1.set (i * 2) _).set (i * 2 + 1) _, fun j hj => ?_⟩
  by_cases e1 : j = i * 2 + 1
  · subst e1; rw [prRow_at _ _ _ (by omega)]; simp [prCell]
  by_cases e0 : j = i * 2
  · subst e0
    have := prRow_at ps i 0 (by omega)
    rw [Nat.add_zero] at this
    rw [this]; simp [prCell]
  simp only [e1, e0, if_false]
  exact h2 j (by omega)
theorem PrPart.full {ty : TypeId} {g n : Nat} {ps : Nat → St.Pr} {w : World} (h : PrPart ty g n n ps w) : PrBlk ty g n ps w := by obtain ⟨F, h1, h2⟩ := h; exact ⟨n, F, Nat.le_refl _, h1, h2⟩
theorem PrPart.at_ {ty : TypeId} {g N i : Nat} {ps : Nat → St.Pr} {w : World} (h : PrPart ty g N i ps w) (hi : i < N) :
    (∃ a b, w.cell? ⟨g, i * 2, none⟩ = some a ∧ w.cell? ⟨g, i * 2 + 1, none⟩ = some b) ∧ (w.frozen? ⟨g, i * 2, none⟩ = false ∧ w.frozen? ⟨g, i * 2 + 1, none⟩ = false) := by
  obtain ⟨F, h1, _⟩ := h
  exact ⟨⟨_, _, h1.cell (by omega), h1.cell (by omega)⟩, h1.frozen _, h1.frozen _⟩
/-- What a round of the comparison reads. -/
def EqS (w : World) (b1 b2 i : Nat) (p : St.Pr) (W : World) : Prop := PrCells b1 (i * 2) p W ∧ PrCells b2 (i * 2) p W ∧ Below w.heap.size w W
theorem EqS.below {w : World} {b1 b2 i : Nat} {p : St.Pr} {W W' : World} (h : EqS w b1 b2 i p W) (hb : Below W.heap.size W W') : EqS w b1 b2 i p W' := ⟨h.1.block (hb.block _ h.1.lt), h.2.1.block (hb.block _ h.2.1.lt), h.2.2.trans (hb.mono h.2.2.size)⟩



theorem info_i64 : (Tryd.prog.info? 2).map (fun i => (i.zero, i.size, i.bytes)) = some (some (.int .i64 0), 1, 8) := by kernel_rfl
abbrev mkO (n : Nat) : Obj := .cells (madeCells #[.int .i64 0] n) 2
/-- The first numbers are there. -/
def InPart (g N i : Nat) (f : Nat → Int) (w : World) : Prop := ∃ F, w.rowIs g 2 N F ∧ ∀ j, j < i → F j = inRow f j
theorem InPart.put {g N i : Nat} {f : Nat → Int} {w : World} (h : InPart g N i f w) : InPart g N (i + 1) f (w.setCell ⟨g, i, none⟩ (.int .i64 (f i))) := by
  obtain ⟨F, h1, h2⟩ := h
  refine ⟨_, h1.set i _, fun j hj => ?_⟩
  by_cases e : j = i
  · subst e; simp [inRow]
  · simp only [e, if_false]; exact h2 j (by omega)
set_option maxRecDepth 100000 in
set_option maxHeartbeats 2000000 in
theorem toInt64S_any (a : Option Addr) (n cap : Nat) (f : Nat → Int) (w : World) (h : IntsIn a n f w) (hn : n ≤ 1048576) :
    Calls Tryd.prog 8 #[.slice a n cap] w fun e w' => (e = .returned (.slice (some ⟨w.heap.size, 0, none⟩) n n) ∧ InBlk w.heap.size n f w') ∧ Below w.heap.size w w' := by
  have hmk := run_make_row' (P := Tryd.prog) 24 2 (.int .i64 0) 8 Tryd.underlying24 info_i64 rfl .i64 .i64 n (by omega) (by omega)
  have H := Lib.hid h
  have HST : Hid (InPart w.heap.size n 0 f (w.alloc (mkO n))) := ⟨_, World.rowIs_made w (.int .i64 0) n 2, fun j hj => absurd hj (by omega)⟩
  clear h
  go_enter Tryd.func8, Tryd.ntmps8
  go_wp2_with fail
  clear hmk
  go_loopw [4] (fun iv wr => ∃ (i : Nat), i ≤ n ∧ iv = .int .i64 i ∧ Hid (InPart w.heap.size n i f wr) ∧ Hid (Below w.heap.size w wr)) (fun iv _ => n - (intOf iv).toNat)
  case atStart => exact ⟨0, Nat.zero_le _, rfl, HST, (Below.refl _ _).alloc (Nat.le_refl _) _⟩
  case round =>
    obtain ⟨i, hi, rfl, hP, hB⟩ := hrel
    clear HST
    by_cases hlt : i < n
    · have hltz : (i : Int) < (n : Int) := by omega
      obtain ⟨b, o, rfl, c0⟩ := (H.out.below hB.out).at_ hlt
      have HP2 := Lib.hid hP.out.put
      obtain ⟨F, r1, _⟩ := hP.out
      have y0 := r1.cell (i := i) (by omega)
      have z0 := r1.frozen i
      have hz : w.heap.size < wr.heap.size := r1.lt
      clear r1 hP
      go_wp2_with fail
      go_roundw
      case rel => exact ⟨i + 1, by omega, by go_num, HP2, hB.out.setCell (p := ⟨w.heap.size, i, none⟩) (Nat.le_refl _) _⟩
      case measure => simp [intOf]; omega
    · obtain rfl : i = n := by omega
      obtain ⟨F, r1, r2⟩ := hP.out
      go_wp2_with fail
      go_ret
      exact ⟨⟨rfl, i, F, Nat.le_refl _, r1, r2⟩, hB.out⟩
set_option maxRecDepth 100000 in
set_option maxHeartbeats 2000000 in
theorem eqInt64S_same (a b : Option Addr) (n ca cb : Nat) (f : Nat → Int) (w : World) (h1 : IntsAt a n f w) (h2 : IntsAt b n f w) (hn : n ≤ 1048576) :
    Calls Tryd.prog 12 #[.slice a n ca, .slice b n cb] w fun e w' => e = .returned (.bool true) ∧ Below w.heap.size w w' := by
  have H1 := Lib.hid h1
  have H2 := Lib.hid h2
  clear h1 h2
  go_enter Tryd.func12, Tryd.ntmps12
  go_wp2_with fail
  go_loopw [5] (fun iv wr => ∃ (i : Nat), i ≤ n ∧ iv = .int .i64 i ∧ Hid (Below w.heap.size w wr)) (fun iv _ => n - (intOf iv).toNat)
  case atStart => exact ⟨0, Nat.zero_le _, rfl, Below.refl _ _⟩
  case round =>
    obtain ⟨i, hi, rfl, hB⟩ := hrel
    by_cases hlt : i < n
    · have hltz : (i : Int) < (n : Int) := by omega
      obtain ⟨b1, rfl, k1⟩ := (H1.out.below hB.out).at_ hlt
      obtain ⟨b2, rfl, k2⟩ := (H2.out.below hB.out).at_ hlt
      go_wp2_with fail
      go_region
      go_wp2_with fail
      go_roundw
      case rel => exact ⟨i + 1, by omega, by go_num, hB.out.drew⟩
      case measure => simp [intOf]; omega
    · obtain rfl : i = n := by omega
      go_wp2_with fail
      go_ret
      exact ⟨rfl, hB.out⟩
end Go.Proofs.YtcjeieagpcphjaaDoor
