/-
  Lists of batches in memory, and the laws' conversions, comparisons and marks of them.
-/
import Derived.Test.YtcjeieagpcphjaaDoorWkMk
namespace Go.Proofs.YtcjeieagpcphjaaDoor
open Go.RowKit Go.Deep

/-- A batch as it lies in a list. -/
structure Be where
  wt : Int
  pa : Option Addr
  n : Nat
  k : Nat
  f : Nat → Int
def Be.b (x : Be) : Wk.Bt := ⟨x.wt, x.n, x.f⟩
def BeCells (b o : Nat) (x : Be) (w : World) : Prop := w.cell? ⟨b, o, none⟩ = some (.int .i64 x.wt) ∧ w.cell? ⟨b, o + 1, none⟩ = some (.slice x.pa x.n x.k)
theorem BeCells.lt {b o : Nat} {x : Be} {w : World} (h : BeCells b o x w) : b < w.heap.size := World.block_lt_of_cell? _ _ h.1
theorem BeCells.block {b o : Nat} {x : Be} {w w' : World} (h : BeCells b o x w) (hb : w'.heap[b]? = w.heap[b]?) : BeCells b o x w' :=
  ⟨(World.cell?_of_block (a := ⟨b, o, none⟩) hb).trans h.1, (World.cell?_of_block (a := ⟨b, o + 1, none⟩) hb).trans h.2⟩
/-- A list of batches in memory. -/
def BtsAt (a : Option Addr) (m : Nat) (bs : Nat → Be) (w : World) : Prop := m = 0 ∨ ∃ b, a = some ⟨b, 0, none⟩ ∧ ∀ i, i < m → BeCells b (i * 2) (bs i) w ∧ IntsAt (bs i).pa (bs i).n (bs i).f w
def BtsIn (a : Option Addr) (m : Nat) (bs : Nat → Be) (w : World) : Prop := m = 0 ∨ ∃ b o, a = some ⟨b, o, none⟩ ∧ ∀ i, i < m → BeCells b (o + i * 2) (bs i) w ∧ IntsIn (bs i).pa (bs i).n (bs i).f w ∧ (bs i).n ≤ 9223372036854775807
theorem BtsAt.below {a : Option Addr} {m : Nat} {bs : Nat → Be} {w w' : World} (h : BtsAt a m bs w) (hb : Below w.heap.size w w') : BtsAt a m bs w' := by
  rcases h with h | ⟨b, e, h⟩
  · exact Or.inl h
  · exact Or.inr ⟨b, e, fun i hi => ⟨(h i hi).1.block (hb.block _ (h i hi).1.lt), (h i hi).2.below hb⟩⟩
theorem BtsIn.below {a : Option Addr} {m : Nat} {bs : Nat → Be} {w w' : World} (h : BtsIn a m bs w) (hb : Below w.heap.size w w') : BtsIn a m bs w' := by
  rcases h with h | ⟨b, o, e, h⟩
  · exact Or.inl h
  · exact Or.inr ⟨b, o, e, fun i hi => ⟨(h i hi).1.block (hb.block _ (h i hi).1.lt), (h i hi).2.1.below hb, (h i hi).2.2⟩⟩
theorem BtsAt.all {a : Option Addr} {m : Nat} {bs : Nat → Be} {w : World} (h : BtsAt a m bs w) (hm : 0 < m) : ∃ b, a = some ⟨b, 0, none⟩ ∧ ∀ i, i < m → BeCells b (i * 2) (bs i) w ∧ IntsAt (bs i).pa (bs i).n (bs i).f w := by
  rcases h with h | h
  · omega
  · exact h
theorem BtsIn.at_ {a : Option Addr} {m : Nat} {bs : Nat → Be} {w : World} (h : BtsIn a m bs w) {i : Nat} (hi : i < m) : ∃ b o, a = some ⟨b, o, none⟩ ∧ BeCells b (o + i * 2) (bs i) w ∧ IntsIn (bs i).pa (bs i).n (bs i).f w ∧ (bs i).n ≤ 9223372036854775807 := by
  rcases h with h | ⟨b, o, e, h⟩
  · omega
  · exact ⟨b, o, e, h i hi⟩
/-- A list of one's own. -/
structure BxM (lo hi g m : Nat) (gs : Nat → Nat) (bs : Nat → Be) (W : World) : Prop where
  row : ∃ F, W.rowIs g 28 (m * 2) F ∧ ∀ i, i < m → F (i * 2) = .int .i64 (bs i).wt ∧ F (i * 2 + 1) = .slice (some ⟨gs i, 0, none⟩) (bs i).n (bs i).n
  blk : ∀ i, i < m → InBlk (gs i) (bs i).n (bs i).f W
  bd : lo ≤ g ∧ g < hi
  gbd : ∀ i, i < m → g < gs i ∧ gs i < hi
  up : ∀ i j, i < j → j < m → gs i < gs j
def ownE (gs : Nat → Nat) (bs : Nat → Be) : Nat → Be := fun i => ⟨(bs i).wt, some ⟨gs i, 0, none⟩, (bs i).n, (bs i).n, (bs i).f⟩
theorem BxM.at_ {lo hi g m : Nat} {gs : Nat → Nat} {bs : Nat → Be} {W : World} (h : BxM lo hi g m gs bs W) : BtsAt (some ⟨g, 0, none⟩) m (ownE gs bs) W := by
  refine Or.inr ⟨g, rfl, fun i hi => ?_⟩
  obtain ⟨F, h1, h2⟩ := h.row
  exact ⟨⟨(h1.cell (i := i * 2) (by omega)).trans (by rw [(h2 i hi).1]; rfl), (h1.cell (i := i * 2 + 1) (by omega)).trans (by rw [(h2 i hi).2]; rfl)⟩, (h.blk i hi).at_⟩
theorem BxM.same {lo hi g m : Nat} {gs : Nat → Nat} {bs : Nat → Be} {W W' : World} (h : BxM lo hi g m gs bs W) (hb : ∀ k, lo ≤ k → k < hi → k < W.heap.size → W'.heap[k]? = W.heap[k]?) : BxM lo hi g m gs bs W' := by
  refine ⟨?_, fun i hi => (h.blk i hi).block (hb _ (by have := h.bd; have := h.gbd i hi; omega) (h.gbd i hi).2 (h.blk i hi).lt), h.bd, h.gbd, h.up⟩
  obtain ⟨F, h1, h2⟩ := h.row
  exact ⟨F, h1.of_block (hb _ h.bd.1 h.bd.2 h1.lt), h2⟩
theorem BxM.below {lo hi g m : Nat} {gs : Nat → Nat} {bs : Nat → Be} {W W' : World} (h : BxM lo hi g m gs bs W) (hb : Below W.heap.size W W') : BxM lo hi g m gs bs W' := h.same (fun k _ _ hl => hb.block k hl)
theorem BxM.lt {lo hi g m : Nat} {gs : Nat → Nat} {bs : Nat → Be} {W : World} (h : BxM lo hi g m gs bs W) : g < W.heap.size := by obtain ⟨F, h1, _⟩ := h.row; exact h1.lt

/-- How many parts the first batches have. -/
def cntB (bs : Nat → Be) : Nat → Nat
  | 0 => 0
  | i + 1 => cntB bs i + (bs i).n
theorem cntB_le (bs : Nat → Be) {m i : Nat} (h : i ≤ m) : cntB bs i ≤ cntB bs m := by
  induction m with
  | zero => have : i = 0 := by omega
            subst this; exact Nat.le_refl _
  | succ m ih =>
    by_cases e : i = m + 1
    · subst e; exact Nat.le_refl _
    · have := ih (by omega)
      simp only [cntB]; omega
theorem cntB_at (bs : Nat → Be) {m i : Nat} (h : i < m) : (bs i).n ≤ cntB bs m := by
  have := cntB_le bs (show i + 1 ≤ m by omega)
  simp only [cntB] at this; omega
def SzS (m : Nat) (bs : Nat → Be) (e : Ending) : Prop := ∃ z : Int, e = .returned (.int .i64 z) ∧ (z < 0 ∨ (¬ z < 0 ∧ m + cntB bs m ≤ 1048576))
set_option maxRecDepth 100000 in
set_option maxHeartbeats 2000000 in
theorem szBatchS_any (a : Option Addr) (m cap : Nat) (bs : Nat → Be) (w : World) (h : BtsIn a m bs w) (hm : m ≤ 9223372036854775807) :
    Calls Tryd.prog 5 #[.slice a m cap, .int .i64 1048576] w fun e w' => SzS m bs e ∧ Below w.heap.size w w' := by
  by_cases hbig : 1048576 < m
  · have h1 : ((1048576 : Int) - (m : Int)) < 0 := by omega
    have h8 : (m : Int) ≤ 9223372036854775807 := by omega
    clear h
    go_enter Tryd.func5, Tryd.ntmps5
    go_wp2_with fail
    go_ret
    exact ⟨⟨_, rfl, Or.inl (by omega)⟩, Below.refl _ _⟩
  have h1 : ¬ ((1048576 : Int) - (m : Int)) < 0 := by omega
  have h2 : ((1048576 : Int) - (m : Int)) = ((1048576 - m : Nat) : Int) := by omega
  have h6 : (m : Int) ≤ 1048576 := by omega
  have H := Lib.hid h
  have HM : Hid (m ≤ 1048576) := by show m ≤ _; omega
  clear h
  go_enter Tryd.func5, Tryd.ntmps5
  go_wp2_with fail
  go_loopw [1, 5] (fun lv iv wr => ∃ (i L : Nat), i ≤ m ∧ L ≤ 1048576 ∧ iv = .int .i64 i ∧ lv = .int .i64 (L : Int) ∧ Hid (L + m + cntB bs i ≤ 1048576) ∧ Hid (Below w.heap.size w wr)) (fun _ iv _ => m - (intOf iv).toNat)
  case atStart => exact ⟨0, 1048576 - m, Nat.zero_le _, by omega, rfl, by first | rfl | (congr 1; omega), by show 1048576 - m + m + cntB bs 0 ≤ 1048576; simp only [cntB]; omega, Below.refl _ _⟩
  case round =>
    obtain ⟨i, L, hi, hL, rfl, rfl, hP, hB⟩ := hrel
    clear h1 h2
    by_cases hlt : i < m
    · have hltz : (i : Int) < (m : Int) := by omega
      obtain ⟨b, o, rfl, ⟨c0, c1⟩, _, hnn⟩ := (H.out.below hB.out).at_ hlt
      go_wp2_with fail
      refine (szBatch_any (bs i).wt (bs i).pa (bs i).n (bs i).k L _ hL hnn).mono ?_
      rintro e w1 ⟨hz, hb⟩
      have HB1 : Hid (Below w.heap.size w w1) := hB.out.trans (hb.mono hB.out.size)
      clear hb c0 c1
      rcases hz with ⟨z, rfl, hz⟩ | ⟨hn1, rfl⟩
      · go_wp2_with fail
        go_ret
        exact ⟨⟨_, rfl, Or.inl (by omega)⟩, HB1.out⟩
      · have hz : ¬ ((L - (bs i).n : Nat) : Int) < 0 := by omega
        obtain ⟨L', hL'⟩ : ∃ L', L' = L - (bs i).n := ⟨_, rfl⟩
        have HP1 : Hid (L' + m + cntB bs (i + 1) ≤ 1048576) := by
          have := hP.out
          show L' + m + cntB bs (i + 1) ≤ 1048576
          simp only [cntB]; omega
        rw [← hL'] at hz ⊢
        have hL2 : L' ≤ 1048576 := by omega
        clear hL' hn1
        go_wp2_with fail
        go_roundw
        case rel => exact ⟨i + 1, L', by omega, hL2, by go_num, rfl, HP1, HB1⟩
        case measure => simp [intOf]; omega
    · obtain rfl : i = m := by omega
      go_wp2_with fail
      go_ret
      exact ⟨⟨_, rfl, Or.inr ⟨by omega, by have := hP.out; omega⟩⟩, hB.out⟩
theorem info_Bt : (Tryd.prog.info? 28).map (fun i => (i.zero, i.size, i.bytes)) = some (some (.agg #[.int .i64 0, .slice none 0 0]), 2, 32) := by kernel_rfl
abbrev btZ : Array Value := #[.int .i64 0, .slice none 0 0]
theorem mk_Bt (n : Nat) (hn : n ≤ 1048576) (w : World) : (Instr.makeSlice 35 (.int .i64 (n : Int)) (.int .i64 (n : Int))).run Tryd.prog w = .ok (.slice (some ⟨w.heap.size, 0, none⟩) n n) (w.alloc (.cells (madeCells btZ (n * 2)) 28)) := by
  obtain ⟨i0, hi, hz0, hz1, hz2⟩ := info_parts info_Bt
  have := run_make (P := Tryd.prog) w 35 28 i0 _ Tryd.underlying35 hi hz0 .i64 .i64 n n (by omega) (Int.le_refl _) (by rw [hz2]; omega) (by omega)
  rw [hz1] at this
  simp only [Int.toNat_natCast] at this
  exact this
theorem made_bt (w : World) (n : Nat) : (w.alloc (.cells (madeCells btZ (n * 2)) 28)).rowIs w.heap.size 28 (n * 2) (fun i => if i % 2 = 0 then .int .i64 0 else .slice none 0 0) := by
  refine ⟨_, blk_alloc_new _ _, size_madeCells _ _, fun i hi => ?_⟩
  have h5 : i % 2 = 0 ∨ i % 2 = 1 := by omega
  rcases h5 with e | e <;> simp [madeCells, btZ, hi, e]
/-- The first batches are there. -/
structure BxP (lo g m i : Nat) (gs : Nat → Nat) (bs : Nat → Be) (W : World) : Prop where
  row : ∃ F, W.rowIs g 28 (m * 2) F ∧ ∀ j, j < i → F (j * 2) = .int .i64 (bs j).wt ∧ F (j * 2 + 1) = .slice (some ⟨gs j, 0, none⟩) (bs j).n (bs j).n
  blk : ∀ j, j < i → InBlk (gs j) (bs j).n (bs j).f W
  bd : lo ≤ g
  gbd : ∀ j, j < i → g < gs j
  up : ∀ j k, j < k → k < i → gs j < gs k
theorem BxP.next {lo g m i : Nat} {gs : Nat → Nat} {bs : Nat → Be} {W W1 : World} (h : BxP lo g m i gs bs W) (hb : Below W.heap.size W W1) {q : Nat} (hq : W.heap.size ≤ q) (hk : InBlk q (bs i).n (bs i).f W1) :
    BxP lo g m (i + 1) (fun j => if j = i then q else gs j) bs ((W1.setCell ⟨g, i * 2, none⟩ (.int .i64 (bs i).wt)).setCell ⟨g, i * 2 + 1, none⟩ (.slice (some ⟨q, 0, none⟩) (bs i).n (bs i).n)) := by
  obtain ⟨F, h1, h2⟩ := h.row
  have hg := h1.lt
  have e : ∀ k, k ≠ g → ((W1.setCell ⟨g, i * 2, none⟩ (.int .i64 (bs i).wt)).setCell ⟨g, i * 2 + 1, none⟩ (.slice (some ⟨q, 0, none⟩) (bs i).n (bs i).n)).heap[k]? = W1.heap[k]? := fun k hk => (Below.heap_setCell _ ⟨g, i * 2 + 1, none⟩ _ _ hk).trans (Below.heap_setCell _ ⟨g, i * 2, none⟩ _ _ hk)
  refine ⟨⟨_, ((wrow_below h1 hb).set (i * 2) _).set (i * 2 + 1) _, fun j hj => ?_⟩, fun j hj => ?_, h.bd, fun j hj => ?_, fun j k hjk hk => ?_⟩
  · by_cases e1 : j = i
    · subst e1; simp
    · have a1 : j * 2 ≠ i * 2 := by omega
      have a2 : j * 2 ≠ i * 2 + 1 := by omega
      have a3 : j * 2 + 1 ≠ i * 2 := by omega
      have a4 : j * 2 + 1 ≠ i * 2 + 1 := by omega
      simp only [a1, a2, a3, a4, e1, if_false]
      exact h2 j (by omega)
  · by_cases e1 : j = i
    · subst e1; simp only [if_true]; exact hk.block (e _ (by omega))
    · simp only [e1, if_false]
      have hj1 := h.blk j (by omega)
      exact (hj1.below hb).block (e _ (by have := h.gbd j (by omega); omega))
  · by_cases e1 : j = i
    · subst e1; simp only [if_true]; omega
    · simp only [e1, if_false]; exact h.gbd j (by omega)
  · have : j ≠ i := by omega
    simp only [this, if_false]
    by_cases e1 : k = i
    · simp only [e1, if_true]
      have := (h.blk j (by omega)).lt
      omega
    · simp only [e1, if_false]; exact h.up j k hjk (by omega)
theorem BxP.at_ {lo g m i : Nat} {gs : Nat → Nat} {bs : Nat → Be} {W : World} (h : BxP lo g m i gs bs W) (hi : i < m) : ((∃ a, W.cell? ⟨g, i * 2, none⟩ = some a) ∧ ∃ b, W.cell? ⟨g, i * 2 + 1, none⟩ = some b) ∧ (W.frozen? ⟨g, i * 2, none⟩ = false ∧ W.frozen? ⟨g, i * 2 + 1, none⟩ = false) := by
  obtain ⟨F, h1, _⟩ := h.row
  exact ⟨⟨⟨_, h1.cell (by omega)⟩, _, h1.cell (by omega)⟩, h1.frozen _, h1.frozen _⟩
set_option maxRecDepth 100000 in
set_option maxHeartbeats 4000000 in
theorem toBatchS_any (a : Option Addr) (m cap : Nat) (bs : Nat → Be) (w : World) (h : BtsIn a m bs w) (hm : m ≤ 1048576) (hn : ∀ i, i < m → (bs i).n ≤ 1048576) :
    Calls Tryd.prog 9 #[.slice a m cap] w fun e w' => (∃ gs, e = .returned (.slice (some ⟨w.heap.size, 0, none⟩) m m) ∧ BxM w.heap.size w'.heap.size w.heap.size m gs bs w') ∧ Below w.heap.size w w' := by
  have hmk := mk_Bt m hm
  have H := Lib.hid h
  have HN := Lib.hid hn
  have HST : Hid (BxP w.heap.size w.heap.size m 0 (fun _ => 0) bs (w.alloc (.cells (madeCells btZ (m * 2)) 28))) := ⟨⟨_, made_bt w m, fun j hj => absurd hj (by omega)⟩, fun j hj => absurd hj (by omega), Nat.le_refl _, fun j hj => absurd hj (by omega), fun j k _ hk => absurd hk (by omega)⟩
  clear h hn
  go_enter Tryd.func9, Tryd.ntmps9
  go_wp2_with fail
  clear hmk
  go_loopw [4] (fun iv wr => ∃ (i : Nat) (gs : Nat → Nat), i ≤ m ∧ iv = .int .i64 i ∧ Hid (BxP w.heap.size w.heap.size m i gs bs wr) ∧ Hid (Below w.heap.size w wr)) (fun iv _ => m - (intOf iv).toNat)
  case atStart => exact ⟨0, _, Nat.zero_le _, rfl, HST, (Below.refl _ _).alloc (Nat.le_refl _) _⟩
  case round =>
    obtain ⟨i, gs, hi, rfl, hP, hB⟩ := hrel
    clear HST
    by_cases hlt : i < m
    · have hltz : (i : Int) < (m : Int) := by omega
      obtain ⟨b, o, rfl, ⟨c0, c1⟩, hin, _⟩ := (H.out.below hB.out).at_ hlt
      have HIN := Lib.hid hin
      clear hin
      go_wp2_with fail
      refine (toBatch_any (bs i).wt (bs i).pa (bs i).n (bs i).k (bs i).f _ HIN.out (HN.out i hlt)).mono ?_
      rintro e w1 ⟨⟨q, rfl, hq, hk⟩, hb⟩
      have HP2 := Lib.hid (hP.out.next hb hq hk)
      have HB1 : Hid (Below w.heap.size w w1) := hB.out.trans (hb.mono hB.out.size)
      obtain ⟨FR, hR0, _⟩ := hP.out.row
      have hR := wrow_below hR0 hb
      have y0 := hR.cell (i := i * 2) (by omega)
      have y1 := hR.cell (i := i * 2 + 1) (by omega)
      have z0 := hR.frozen (i * 2)
      have z1 := hR.frozen (i * 2 + 1)
      have hz : w.heap.size < w1.heap.size := hR.lt
      clear hR hR0 hb hP hB c0 c1 hk hq
      go_wp2_with fail
      go_roundw
      case rel => exact ⟨i + 1, _, by omega, by go_num, HP2, (HB1.out.setCell (p := ⟨w.heap.size, _, none⟩) (Nat.le_refl _) _).setCell (p := ⟨w.heap.size, _, none⟩) (Nat.le_refl _) _⟩
      case measure => simp [intOf]; omega
    · obtain rfl : i = m := by omega
      go_wp2_with fail
      go_ret
      refine ⟨⟨gs, rfl, hP.out.row, hP.out.blk, ⟨Nat.le_refl _, ?_⟩, fun j hj => ⟨hP.out.gbd j hj, (hP.out.blk j hj).lt⟩, hP.out.up⟩, hB.out⟩
      obtain ⟨F, h1, _⟩ := hP.out.row
      exact h1.lt
/-- What a round of the comparison reads. -/
def EqB (w : World) (b1 b2 i : Nat) (x y : Be) (W : World) : Prop := (BeCells b1 (i * 2) x W ∧ IntsAt x.pa x.n x.f W) ∧ (BeCells b2 (i * 2) y W ∧ IntsAt y.pa y.n y.f W) ∧ Below w.heap.size w W
theorem EqB.below {w : World} {b1 b2 i : Nat} {x y : Be} {W W' : World} (h : EqB w b1 b2 i x y W) (hb : Below W.heap.size W W') : EqB w b1 b2 i x y W' := ⟨⟨h.1.1.block (hb.block _ h.1.1.lt), h.1.2.below hb⟩, ⟨h.2.1.1.block (hb.block _ h.2.1.1.lt), h.2.1.2.below hb⟩, h.2.2.trans (hb.mono h.2.2.size)⟩
set_option maxRecDepth 100000 in
set_option maxHeartbeats 4000000 in
theorem eqBatchS_same (b1 b2 m c1 c2 : Nat) (xs ys : Nat → Be) (w : World) (h1 : ∀ i, i < m → BeCells b1 (i * 2) (xs i) w ∧ IntsAt (xs i).pa (xs i).n (xs i).f w) (h2 : ∀ i, i < m → BeCells b2 (i * 2) (ys i) w ∧ IntsAt (ys i).pa (ys i).n (ys i).f w) (he : ∀ i, i < m → (xs i).b = (ys i).b) (hm : m ≤ 1048576) (hn : ∀ i, i < m → (xs i).n ≤ 1048576) :
    Calls Tryd.prog 13 #[.slice (some ⟨b1, 0, none⟩) m c1, .slice (some ⟨b2, 0, none⟩) m c2] w fun e w' => e = .returned (.bool true) ∧ Below w.heap.size w w' := by
  have H1 := Lib.hid h1
  have H2 := Lib.hid h2
  have HE := Lib.hid he
  have HN := Lib.hid hn
  clear h1 h2 he hn
  go_enter Tryd.func13, Tryd.ntmps13
  go_wp2_with fail
  go_loopw [5] (fun iv wr => ∃ (i : Nat), i ≤ m ∧ iv = .int .i64 i ∧ Hid (Below w.heap.size w wr)) (fun iv _ => m - (intOf iv).toNat)
  case atStart => exact ⟨0, Nat.zero_le _, rfl, Below.refl _ _⟩
  case round =>
    obtain ⟨i, hi, rfl, hB⟩ := hrel
    by_cases hlt : i < m
    · have hltz : (i : Int) < (m : Int) := by omega
      have hx := H1.out i hlt
      have hy := H2.out i hlt
      have hE0 := HE.out i hlt
      obtain ⟨x, hxe⟩ : ∃ x, x = xs i := ⟨_, rfl⟩
      obtain ⟨y, hye⟩ : ∃ y, y = ys i := ⟨_, rfl⟩
      have hnx := HN.out i hlt
      rw [← hxe] at hx hE0 hnx
      rw [← hye] at hy hE0
      obtain ⟨wt, pa, n, k, f⟩ := x
      obtain ⟨wt2, pb, n2, k2, f2⟩ := y
      simp only [Be.b, Wk.Bt.mk.injEq] at hE0
      obtain ⟨rfl, rfl, rfl⟩ := hE0
      have HX : Hid (EqB w b1 b2 i ⟨wt, pa, n, k, f⟩ ⟨wt, pb, n, k2, f⟩ wr) := ⟨⟨hx.1.block (hB.out.block _ hx.1.lt), hx.2.below hB.out⟩, ⟨hy.1.block (hB.out.block _ hy.1.lt), hy.2.below hB.out⟩, hB.out⟩
      have HNX : Hid (n ≤ 1048576) := hnx
      clear hx hy hB hxe hye hnx
      go_wp2_with fail
      refine wp_region_held_drew (S := EqB w b1 b2 i ⟨wt, pa, n, k, f⟩ ⟨wt, pb, n, k2, f⟩) (by kernel_rfl) (HX.out.below (Below.refl _ _).drew) (fun hHeld => ?_)
      clear HX
      refine take_do (i := 0) (v := (.slice (some ⟨b1, 0, none⟩) m c1)) rfl (by kernel_rfl) (by kernel_rfl) (by kernel_rfl) (fun _ _ _ h => h) (by rfl) ?_ (by assumption) ?_
      · intro w hSw
        obtain ⟨⟨⟨c0, c1⟩, _⟩, ⟨⟨d0, d1⟩, _⟩, _⟩ := hSw
        go_simp
      simp only [Act.put, List.setIfInBounds_toArray, List.set_cons_zero, List.set_cons_succ]
      refine take_do (i := 1) (v := (.int .i64 i)) rfl (by kernel_rfl) (by kernel_rfl) (by kernel_rfl) (fun _ _ _ h => h) (by rfl) ?_ (by assumption) ?_
      · intro w hSw
        obtain ⟨⟨⟨c0, c1⟩, _⟩, ⟨⟨d0, d1⟩, _⟩, _⟩ := hSw
        go_simp
      simp only [Act.put, List.setIfInBounds_toArray, List.set_cons_zero, List.set_cons_succ]
      refine take_do (i := 2) (v := (.pointer (some ⟨b1, i * 2, none⟩))) rfl (by kernel_rfl) (by kernel_rfl) (by kernel_rfl) (fun _ _ _ h => h) (by rfl) ?_ (by assumption) ?_
      · intro w hSw
        obtain ⟨⟨⟨c0, c1⟩, _⟩, ⟨⟨d0, d1⟩, _⟩, _⟩ := hSw
        go_simp
      simp only [Act.put, List.setIfInBounds_toArray, List.set_cons_zero, List.set_cons_succ]
      refine take_do (i := 3) (v := (btV wt pa n k)) rfl (by kernel_rfl) (by kernel_rfl) (by kernel_rfl) (fun _ _ _ h => h) (by rfl) ?_ (by assumption) ?_
      · intro w hSw
        obtain ⟨⟨⟨c0, c1⟩, _⟩, ⟨⟨d0, d1⟩, _⟩, _⟩ := hSw
        go_simp
      simp only [Act.put, List.setIfInBounds_toArray, List.set_cons_zero, List.set_cons_succ]
      refine take_do (i := 4) (v := (.slice (some ⟨b2, 0, none⟩) m c2)) rfl (by kernel_rfl) (by kernel_rfl) (by kernel_rfl) (fun _ _ _ h => h) (by rfl) ?_ (by assumption) ?_
      · intro w hSw
        obtain ⟨⟨⟨c0, c1⟩, _⟩, ⟨⟨d0, d1⟩, _⟩, _⟩ := hSw
        go_simp
      simp only [Act.put, List.setIfInBounds_toArray, List.set_cons_zero, List.set_cons_succ]
      refine take_do (i := 5) (v := (.int .i64 i)) rfl (by kernel_rfl) (by kernel_rfl) (by kernel_rfl) (fun _ _ _ h => h) (by rfl) ?_ (by assumption) ?_
      · intro w hSw
        obtain ⟨⟨⟨c0, c1⟩, _⟩, ⟨⟨d0, d1⟩, _⟩, _⟩ := hSw
        go_simp
      simp only [Act.put, List.setIfInBounds_toArray, List.set_cons_zero, List.set_cons_succ]
      refine take_do (i := 6) (v := (.pointer (some ⟨b2, i * 2, none⟩))) rfl (by kernel_rfl) (by kernel_rfl) (by kernel_rfl) (fun _ _ _ h => h) (by rfl) ?_ (by assumption) ?_
      · intro w hSw
        obtain ⟨⟨⟨c0, c1⟩, _⟩, ⟨⟨d0, d1⟩, _⟩, _⟩ := hSw
        go_simp
      simp only [Act.put, List.setIfInBounds_toArray, List.set_cons_zero, List.set_cons_succ]
      refine take_do (i := 7) (v := (btV wt pb n k2)) rfl (by kernel_rfl) (by kernel_rfl) (by kernel_rfl) (fun _ _ _ h => h) (by rfl) ?_ (by assumption) ?_
      · intro w hSw
        obtain ⟨⟨⟨c0, c1⟩, _⟩, ⟨⟨d0, d1⟩, _⟩, _⟩ := hSw
        go_simp
      simp only [Act.put, List.setIfInBounds_toArray, List.set_cons_zero, List.set_cons_succ]
      refine take_call (i := 8) rfl (by kernel_rfl) (fun K2 hK => ?_)
      go_simp
      refine (eqBatch_same wt pa pb n k k2 f _ hHeld.1.2 hHeld.2.1.2 HNX.out).mono ?_
      rintro e w1 ⟨rfl, hb⟩
      go_wp2_with fail
      refine hK.out _ _ (hHeld.below hb) (fun hHeld2 => ?_)
      clear hK hHeld hb
      have hHeld := hHeld2
      clear hHeld2
      refine take_do (i := 9) (v := (.bool false)) rfl (by kernel_rfl) (by kernel_rfl) (by kernel_rfl) (fun _ _ _ h => h) (by rfl) ?_ (by assumption) ?_
      · intro w hSw
        obtain ⟨⟨⟨c0, c1⟩, _⟩, ⟨⟨d0, d1⟩, _⟩, _⟩ := hSw
        go_simp
      simp only [Act.put, List.setIfInBounds_toArray, List.set_cons_zero, List.set_cons_succ]
      refine wpAnyH_done (by kernel_rfl) ?_ _
      have HB1 := Lib.hid hHeld.2.2
      clear hHeld
      go_wp2_with fail
      go_roundw
      case rel => exact ⟨i + 1, by omega, by go_num, HB1⟩
      case measure => simp [intOf]; omega
    · obtain rfl : i = m := by omega
      go_wp2_with fail
      go_ret
      exact ⟨rfl, hB.out⟩
/-- What of a list of one's own the marking needs. -/
structure BxR (lo hi g m : Nat) (gs : Nat → Nat) (bs : Nat → Be) (W : World) : Prop where
  row : ∃ F, W.rowIs g 28 (m * 2) F ∧ ∀ i, i < m → F (i * 2 + 1) = .slice (some ⟨gs i, 0, none⟩) (bs i).n (bs i).n
  blk : ∀ i, i < m → ∃ F, InBlk (gs i) (bs i).n F W
  bd : lo ≤ g ∧ g < hi
  gbd : ∀ i, i < m → g < gs i ∧ gs i < hi
theorem BxM.toR {lo hi g m : Nat} {gs : Nat → Nat} {bs : Nat → Be} {W : World} (h : BxM lo hi g m gs bs W) : BxR lo hi g m gs bs W := by
  obtain ⟨F, h1, h2⟩ := h.row
  exact ⟨⟨F, h1, fun i hi => (h2 i hi).2⟩, fun i hi => ⟨_, h.blk i hi⟩, h.bd, h.gbd⟩
theorem MkBlk.ints {g n k : Nat} {w : World} (h : MkBlk 2 g n k w) : ∃ F, InBlk g n F w := by
  obtain ⟨m, F, h1, h2, h3⟩ := h
  exact ⟨fun j => ((k + j : Nat) : Int), m, F, h1, h2, fun j hj => by rw [h3 j hj]; rfl⟩
set_option maxRecDepth 100000 in
set_option maxHeartbeats 4000000 in
theorem markBatchS_any (lo hi g m c : Nat) (gs : Nat → Nat) (bs : Nat → Be) (w : World) (h : BxR lo hi g m gs bs w) (hu : ∀ i j, i < j → j < m → gs i < gs j) (hs : m + cntB bs m ≤ 1048576) :
    Calls Tryd.prog 15 #[.slice (some ⟨g, 0, none⟩) m c, .int .i64 1] w fun e w' => e = .returned (.int .i64 ((1 + m + cntB bs m : Nat) : Int)) ∧ OnlyP (fun k => lo ≤ k ∧ k < hi) w w' := by
  have H := Lib.hid h
  have HU := Lib.hid hu
  clear h hu
  go_enter Tryd.func15, Tryd.ntmps15
  go_wp2_with fail
  go_loopw [1, 5] (fun kv iv wr => ∃ (i : Nat), i ≤ m ∧ kv = .int .i64 ((1 + i + cntB bs i : Nat) : Int) ∧ iv = .int .i64 i ∧ Hid (BxR lo hi g m gs bs wr) ∧ Hid (OnlyP (fun k => lo ≤ k ∧ k < hi) w wr)) (fun _ iv _ => m - (intOf iv).toNat)
  case atStart => exact ⟨0, Nat.zero_le _, by simp [cntB], rfl, H, OnlyP.refl _ _⟩
  case round =>
    obtain ⟨i, hi', rfl, rfl, hR, hO⟩ := hrel
    clear H
    by_cases hlt : i < m
    · have hltz : (i : Int) < (m : Int) := by omega
      obtain ⟨F, r1, r2⟩ := hR.out.row
      have c0 := r1.cell (i := i * 2) (by omega)
      have z0 := r1.frozen (i * 2)
      have c1 : wr.cell? ⟨g, i * 2 + 1, none⟩ = some (.slice (some ⟨gs i, 0, none⟩) (bs i).n (bs i).n) := (r1.cell (i := i * 2 + 1) (by omega)).trans (by rw [r2 i hlt])
      have hcn := cntB_le bs (show i + 1 ≤ m by omega)
      simp only [cntB] at hcn
      obtain ⟨K, hK⟩ : ∃ K : Nat, K = 1 + i + cntB bs i := ⟨_, rfl⟩
      have hKb : K ≤ 1048577 := by omega
      have HK := Lib.hid hK
      rw [← hK]
      obtain ⟨W1, hW1⟩ : ∃ W1, W1 = wr.setCell ⟨g, i * 2, none⟩ (.int .i64 (K : Int)) := ⟨_, rfl⟩
      have hg := hR.out.gbd
      have hbd := hR.out.bd
      have HR1 : Hid (BxR lo hi g m gs bs W1) := by
        refine ⟨⟨_, by rw [hW1]; exact r1.set (i * 2) _, fun j hj => ?_⟩, fun j hj => ?_, hbd, hg⟩
        · have : j * 2 + 1 ≠ i * 2 := by omega
          simp only [this, if_false]; exact r2 j hj
        · obtain ⟨F1, q⟩ := hR.out.blk j hj
          exact ⟨F1, q.block (by rw [hW1]; exact Below.heap_setCell _ ⟨g, i * 2, none⟩ _ _ (by have := hg j hj; show gs j ≠ g; omega))⟩
      have HO1 : Hid (OnlyP (fun k => lo ≤ k ∧ k < hi) w W1) := by
        show OnlyP _ _ _
        rw [hW1]
        exact hO.out.trans ((OnlyP.of_only ((Only.refl g wr).set (i * 2) _) hbd))
      obtain ⟨F0, q0⟩ := HR1.out.blk i hlt
      have HQ0 := Lib.hid q0
      have lgr : g < wr.heap.size := r1.lt
      have HW1 := Lib.hid hW1
      have c1' : W1.cell? ⟨g, i * 2 + 1, none⟩ = some (.slice (some ⟨gs i, 0, none⟩) (bs i).n (bs i).n) := by
        obtain ⟨F2, r3, r4⟩ := HR1.out.row
        exact (r3.cell (i := i * 2 + 1) (by omega)).trans (by rw [r4 i hlt])
      clear r1 r2 hK hR hO q0 hW1
      go_wp2_with fail
      rw [← HW1.out]
      have hKe : ((K : Int) + 1) = ((K + 1 : Nat) : Int) := by omega
      rw [hKe]
      refine (markInts_any (gs i) (gs i + 1) (some ⟨gs i, 0, none⟩) (bs i).n (bs i).n (K + 1) F0 _ (Or.inr ⟨_, rfl, ⟨Nat.le_refl _, by omega⟩, HQ0.out⟩) (by omega) (by omega)).mono ?_
      rintro e W2 ⟨rfl, hmk, ho⟩
      have hat : ∀ k, atP (some ⟨gs i, 0, none⟩) k → k = gs i := fun k hk => by unfold atP at hk; simp at hk; omega
      have HR2 : Hid (BxR lo hi g m gs bs W2) := by
        obtain ⟨F2, r3, r4⟩ := HR1.out.row
        refine ⟨⟨F2, r3.of_block (ho.block _ r3.lt (fun h => by have := hat _ h; have := hg i hlt; omega)), r4⟩, fun j hj => ?_, hbd, hg⟩
        by_cases e : j = i
        · subst e
          rcases hmk with ⟨h, _⟩ | ⟨g', e1, h⟩
          · cases h
          · simp at e1; subst e1; exact h.ints
        · obtain ⟨F1, q⟩ := HR1.out.blk j hj
          refine ⟨F1, q.block (ho.block _ q.lt (fun h => ?_))⟩
          have h1 := hat _ h
          rcases Nat.lt_or_gt_of_ne e with h2 | h2
          · have := HU.out j i h2 hlt; omega
          · have := HU.out i j h2 hj; omega
      have HO2 : Hid (OnlyP (fun k => lo ≤ k ∧ k < hi) w W2) := HO1.out.trans (ho.mono (fun k hk => by have h1 := hat k hk; have h2 := hg i hlt; omega))
      clear hmk ho hat c0 z0 c1 c1' lgr hKe HQ0 HW1 hg hbd
      go_wp2_with fail
      go_roundw
      case rel =>
        refine ⟨i + 1, by omega, ?_, by go_num, HR2, HO2⟩
        have := HK.out
        simp only [cntB]
        congr 1; omega
      case measure => simp [intOf]; omega
    · obtain rfl : i = m := by omega
      go_wp2_with fail
      go_ret
      exact ⟨rfl, hO.out⟩
end Go.Proofs.YtcjeieagpcphjaaDoor
