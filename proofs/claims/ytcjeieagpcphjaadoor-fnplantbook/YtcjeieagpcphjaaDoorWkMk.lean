/-
  The laws' marks of lists and batches, and how they are found again.
-/
import Derived.Test.YtcjeieagpcphjaaDoorWkEx
namespace Go.Proofs.YtcjeieagpcphjaaDoor
open Go.RowKit Go.Deep

/-- One block alone may have changed. -/
structure Only (g : Nat) (w w' : World) : Prop where
  os : w'.os = w.os
  tape : w'.tape = w.tape
  output : w'.output = w.output
  size : w.heap.size ≤ w'.heap.size
  block : ∀ k, k < w.heap.size → k ≠ g → w'.heap[k]? = w.heap[k]?
theorem Only.refl (g : Nat) (w : World) : Only g w w := ⟨rfl, rfl, rfl, Nat.le_refl _, fun _ _ _ => rfl⟩
theorem Only.set {g : Nat} {w w' : World} (h : Only g w w') (i : Nat) (x : Value) : Only g w (w'.setCell ⟨g, i, none⟩ x) :=
  ⟨h.os, h.tape, h.output, by simpa using h.size, fun k hk hne => (blk_setCell_other _ _ _ _ (by show k ≠ g; exact hne)).trans (h.block k hk hne)⟩
theorem Only.of_below {g : Nat} {w w' : World} (h : Below w.heap.size w w') : Only g w w' := ⟨h.os, h.tape, h.output, h.size, fun k hk _ => h.block k hk⟩
theorem Only.below {B g : Nat} {w w' : World} (h : Only g w w') (h1 : B ≤ g) (h2 : B ≤ w.heap.size) : Below B w w' := ⟨h.os, h.tape, h.output, h.size, fun k hk => h.block k (by omega) (by omega)⟩
/-- N cells from k on are marked. -/
def MkBlk (T : TypeId) (g N k : Nat) (w : World) : Prop := ∃ m F, N ≤ m ∧ w.rowIs g T m F ∧ ∀ j, j < N → F j = .int .i64 ((k + j : Nat) : Int)
theorem MkBlk.block {T : TypeId} {g N k : Nat} {w w' : World} (h : MkBlk T g N k w) (e : w'.heap[g]? = w.heap[g]?) : MkBlk T g N k w' := by obtain ⟨m, F, h1, h2, h3⟩ := h; exact ⟨m, F, h1, h2.of_block e, h3⟩
theorem MkBlk.lt {T : TypeId} {g N k : Nat} {w : World} (h : MkBlk T g N k w) : g < w.heap.size := by obtain ⟨m, F, h1, h2, h3⟩ := h; exact h2.lt
theorem MkBlk.cell {T : TypeId} {g N k j : Nat} {w : World} (h : MkBlk T g N k w) (hj : j < N) : w.cell? ⟨g, j, none⟩ = some (.int .i64 ((k + j : Nat) : Int)) := by
  obtain ⟨m, F, h1, h2, h3⟩ := h
  rw [h2.cell (i := j) (by omega), h3 j hj]
/-- A block that is marked up to a place. -/
def MkPart (T : TypeId) (g m N k : Nat) (w : World) : Prop := ∃ F, w.rowIs g T m F ∧ ∀ j, j < N → F j = .int .i64 ((k + j : Nat) : Int)
theorem MkPart.put {T : TypeId} {g m N k : Nat} {w : World} (h : MkPart T g m N k w) (z : Int) (hz : z = ((k + N : Nat) : Int)) : MkPart T g m (N + 1) k (w.setCell ⟨g, N, none⟩ (.int .i64 z)) := by
  obtain ⟨F, h1, h2⟩ := h
  subst hz
  refine ⟨_, h1.set N _, fun j hj => ?_⟩
  by_cases e : j = N
  · subst e; simp
  · simp only [e, if_false]; exact h2 j (by omega)
theorem MkPart.cell {T : TypeId} {g m N k j : Nat} {w : World} (h : MkPart T g m N k w) (hj : j < m) : ∃ v, w.cell? ⟨g, j, none⟩ = some v := by obtain ⟨F, h1, _⟩ := h; exact ⟨_, h1.cell hj⟩
theorem MkPart.frozen {T : TypeId} {g m N k : Nat} {w : World} (h : MkPart T g m N k w) (j : Nat) : w.frozen? ⟨g, j, none⟩ = false := by obtain ⟨F, h1, _⟩ := h; exact h1.frozen j
theorem MkPart.lt {T : TypeId} {g m N k : Nat} {w : World} (h : MkPart T g m N k w) : g < w.heap.size := by obtain ⟨F, h1, _⟩ := h; exact h1.lt

set_option maxRecDepth 100000 in
set_option maxHeartbeats 2000000 in
theorem markInt64S_any (g n c k : Nat) (f : Nat → Int) (w : World) (h : InBlk g n f w) (hn : n ≤ 1048576) (hk : k ≤ 16777216) :
    Calls Tryd.prog 14 #[.slice (some ⟨g, 0, none⟩) n c, .int .i64 k] w fun e w' => e = .returned (.int .i64 ((k + n : Nat) : Int)) ∧ MkBlk 2 g n k w' ∧ Only g w w' := by
  obtain ⟨M, F0, hM, hR, _⟩ := h
  have H : Hid (MkPart 2 g M 0 k w) := ⟨F0, hR, fun j hj => absurd hj (Nat.not_lt_zero _)⟩
  clear hR
  go_enter Tryd.func14, Tryd.ntmps14
  go_wp2_with fail
  go_loopw [1, 5] (fun kv iv wr => ∃ (i : Nat), i ≤ n ∧ kv = .int .i64 ((k + i : Nat) : Int) ∧ iv = .int .i64 i ∧ Hid (MkPart 2 g M i k wr) ∧ Hid (Only g w wr)) (fun _ iv _ => n - (intOf iv).toNat)
  case atStart => exact ⟨0, Nat.zero_le _, by simp, rfl, H, Only.refl _ _⟩
  case round =>
    obtain ⟨i, hi, rfl, rfl, hP, hO⟩ := hrel
    clear H
    by_cases hlt : i < n
    · have hltz : (i : Int) < (n : Int) := by omega
      obtain ⟨v0, c0⟩ := hP.out.cell (j := i) (by omega)
      have f0 := hP.out.frozen i
      have zg : g < wr.heap.size := hP.out.lt
      obtain ⟨K, hK⟩ : ∃ K : Nat, K = k + i := ⟨_, rfl⟩
      rw [← hK]
      have hK2 : K ≤ 25165824 := by omega
      have HP5 := Lib.hid (hP.out.put (K : Int) (by omega))
      have HO5 := Lib.hid (hO.out.set i (.int .i64 (K : Int)))
      have HKE : Hid (K = k + i) := hK
      clear hP hO hK
      go_wp2_with fail
      go_roundw
      case rel =>
        refine ⟨i + 1, by omega, ?_, by go_num, HP5, HO5⟩
        have := HKE.out
        congr 1; omega
      case measure => simp [intOf]; omega
    · obtain rfl : i = n := by omega
      obtain ⟨F, r1, r2⟩ := hP.out
      go_wp2_with fail
      go_ret
      exact ⟨rfl, ⟨M, F, hM, r1, r2⟩, hO.out⟩

set_option maxRecDepth 100000 in
set_option maxHeartbeats 2000000 in
theorem heldInt64S_any (g n c k : Nat) (w : World) (h : MkBlk 2 g n k w) (hn : n ≤ 1048576) (hk : k ≤ 16777216) :
    Calls Tryd.prog 45 #[.slice (some ⟨g, 0, none⟩) n c, .int .i64 k] w fun e w' => e = .returned (.int .i64 ((k + n : Nat) : Int)) ∧ w' = w := by
  have H := Lib.hid h
  clear h
  go_enter Tryd.func45, Tryd.ntmps45
  go_wp2_with fail
  go_loopw [1, 5] (fun kv iv wr => ∃ (i : Nat), i ≤ n ∧ kv = .int .i64 ((k + i : Nat) : Int) ∧ iv = .int .i64 i ∧ Hid (wr = w)) (fun _ iv _ => n - (intOf iv).toNat)
  case atStart => exact ⟨0, Nat.zero_le _, by simp, rfl, rfl⟩
  case round =>
    obtain ⟨i, hi, rfl, rfl, hW⟩ := hrel
    obtain rfl := hW.out
    clear hW
    by_cases hlt : i < n
    · have hltz : (i : Int) < (n : Int) := by omega
      obtain ⟨K, hK⟩ : ∃ K : Nat, K = k + i := ⟨_, rfl⟩
      have c0 : wr.cell? ⟨g, i, none⟩ = some (.int .i64 (K : Int)) := (H.out.cell (j := i) (by omega)).trans (by rw [hK])
      rw [← hK]
      have hK2 : K ≤ 25165824 := by omega
      have HKE : Hid (K = k + i) := hK
      clear hK
      go_wp2_with fail
      go_roundw
      case rel =>
        refine ⟨i + 1, by omega, ?_, by go_num, by first | exact rfl | exact (trivial : True)⟩
        have := HKE.out
        congr 1; omega
      case measure => simp [intOf]; omega
    · obtain rfl : i = n := by omega
      go_wp2_with fail
      go_ret
      exact ⟨rfl, rfl⟩
set_option maxRecDepth 100000 in
set_option maxHeartbeats 2000000 in
theorem heldInt64S_nil (k : Nat) (w : World) :
    Calls Tryd.prog 45 #[.slice none 0 0, .int .i64 k] w fun e w' => e = .returned (.int .i64 k) ∧ w' = w := by
  go_enter Tryd.func45, Tryd.ntmps45
  go_wp2_with fail
  go_loopw [1, 5] (fun kv iv wr => kv = .int .i64 k ∧ iv = .int .i64 0 ∧ wr = w) (fun _ _ _ => 0)
  case atStart => exact ⟨rfl, rfl, rfl⟩
  case round =>
    obtain ⟨rfl, rfl, rfl⟩ := hrel
    go_wp2_with fail
    go_ret
    exact ⟨rfl, rfl⟩
set_option maxRecDepth 100000 in
set_option maxHeartbeats 2000000 in
theorem markInt64S_nil (k : Nat) (w : World) :
    Calls Tryd.prog 14 #[.slice none 0 0, .int .i64 k] w fun e w' => e = .returned (.int .i64 k) ∧ w' = w := by
  go_enter Tryd.func14, Tryd.ntmps14
  go_wp2_with fail
  go_loopw [1, 5] (fun kv iv wr => kv = .int .i64 k ∧ iv = .int .i64 0 ∧ wr = w) (fun _ _ _ => 0)
  case atStart => exact ⟨rfl, rfl, rfl⟩
  case round =>
    obtain ⟨rfl, rfl, rfl⟩ := hrel
    go_wp2_with fail
    go_ret
    exact ⟨rfl, rfl⟩
/-- Some blocks alone may have changed. -/
structure OnlyP (P : Nat → Prop) (w w' : World) : Prop where
  os : w'.os = w.os
  tape : w'.tape = w.tape
  output : w'.output = w.output
  size : w.heap.size ≤ w'.heap.size
  block : ∀ k, k < w.heap.size → ¬ P k → w'.heap[k]? = w.heap[k]?
theorem OnlyP.refl (P : Nat → Prop) (w : World) : OnlyP P w w := ⟨rfl, rfl, rfl, Nat.le_refl _, fun _ _ _ => rfl⟩
theorem OnlyP.of_below {P : Nat → Prop} {w w' : World} (h : Below w.heap.size w w') : OnlyP P w w' := ⟨h.os, h.tape, h.output, h.size, fun k hk _ => h.block k hk⟩
theorem OnlyP.of_only {P : Nat → Prop} {g : Nat} {w w' : World} (h : Only g w w') (hg : P g) : OnlyP P w w' := ⟨h.os, h.tape, h.output, h.size, fun k hk hp => h.block k hk (fun e => hp (by rw [e]; exact hg))⟩
theorem OnlyP.trans {P : Nat → Prop} {a b c : World} (h1 : OnlyP P a b) (h2 : OnlyP P b c) : OnlyP P a c := ⟨h2.os.trans h1.os, h2.tape.trans h1.tape, h2.output.trans h1.output, Nat.le_trans h1.size h2.size, fun k hk hp => (h2.block k (Nat.lt_of_lt_of_le hk h1.size) hp).trans (h1.block k hk hp)⟩
theorem OnlyP.mono {P Q : Nat → Prop} {w w' : World} (h : OnlyP P w w') (hq : ∀ k, P k → Q k) : OnlyP Q w w' := ⟨h.os, h.tape, h.output, h.size, fun k hk hp => h.block k hk (fun e => hp (hq k e))⟩
theorem OnlyP.below {P : Nat → Prop} {B : Nat} {w w' : World} (h : OnlyP P w w') (h1 : ∀ k, P k → B ≤ k) (h2 : B ≤ w.heap.size) : Below B w w' := ⟨h.os, h.tape, h.output, h.size, fun k hk => h.block k (by omega) (fun e => by have := h1 k e; omega)⟩
def atP (a : Option Addr) (k : Nat) : Prop := a = some ⟨k, 0, none⟩
/-- A list of one's own, between two places. -/
def PtM (lo hi : Nat) (a : Option Addr) (n k : Nat) (f : Nat → Int) (W : World) : Prop := (a = none ∧ n = 0 ∧ k = 0) ∨ ∃ g, a = some ⟨g, 0, none⟩ ∧ (lo ≤ g ∧ g < hi) ∧ InBlk g n f W
theorem PtM.same {lo hi : Nat} {a : Option Addr} {n k : Nat} {f : Nat → Int} {W W' : World} (h : PtM lo hi a n k f W) (hb : ∀ g, lo ≤ g → g < hi → g < W.heap.size → W'.heap[g]? = W.heap[g]?) : PtM lo hi a n k f W' := by
  rcases h with h | ⟨g, e, ⟨h1, h2⟩, h3⟩
  · exact Or.inl h
  · exact Or.inr ⟨g, e, ⟨h1, h2⟩, h3.block (hb g h1 h2 h3.lt)⟩
theorem PtM.at_ {lo hi : Nat} {a : Option Addr} {n k : Nat} {f : Nat → Int} {W : World} (h : PtM lo hi a n k f W) : IntsAt a n f W := by
  rcases h with ⟨_, h, _⟩ | ⟨g, rfl, _, h⟩
  · exact Or.inl h
  · exact h.at_
theorem PtM.mono {lo hi lo' hi' : Nat} {a : Option Addr} {n k : Nat} {f : Nat → Int} {W : World} (h : PtM lo hi a n k f W) (h1 : lo' ≤ lo) (h2 : hi ≤ hi') : PtM lo' hi' a n k f W := by
  rcases h with h | ⟨g, e, ⟨k1, k2⟩, h3⟩
  · exact Or.inl h
  · exact Or.inr ⟨g, e, ⟨by omega, by omega⟩, h3⟩
theorem PtM.top {lo hi hi' : Nat} {a : Option Addr} {n k : Nat} {f : Nat → Int} {W : World} (h : PtM lo hi a n k f W) (h2 : W.heap.size ≤ hi') : PtM lo hi' a n k f W := by
  rcases h with h | ⟨g, e, ⟨k1, k2⟩, h3⟩
  · exact Or.inl h
  · exact Or.inr ⟨g, e, ⟨k1, by have := h3.lt; omega⟩, h3⟩
theorem PtM.atp {lo hi : Nat} {a : Option Addr} {n k : Nat} {f : Nat → Int} {W : World} (h : PtM lo hi a n k f W) {g : Nat} (e : atP a g) : lo ≤ g ∧ g < hi := by
  rcases h with ⟨rfl, _⟩ | ⟨g', e', h1, _⟩
  · cases e
  · rw [e'] at e
    unfold atP at e
    simp at e
    omega
/-- A list that bears marks. -/
def MkA (a : Option Addr) (n k K : Nat) (w : World) : Prop := (a = none ∧ n = 0 ∧ k = 0) ∨ ∃ g, a = some ⟨g, 0, none⟩ ∧ MkBlk 2 g n K w
theorem MkA.same {a : Option Addr} {n k K : Nat} {W W' : World} (h : MkA a n k K W) (hb : ∀ g, atP a g → g < W.heap.size → W'.heap[g]? = W.heap[g]?) : MkA a n k K W' := by
  rcases h with h | ⟨g, e, h⟩
  · exact Or.inl h
  · exact Or.inr ⟨g, e, h.block (hb g e h.lt)⟩
theorem markInts_any (lo hi : Nat) (a : Option Addr) (n c k : Nat) (f : Nat → Int) (w : World) (h : PtM lo hi a n c f w) (hn : n ≤ 1048576) (hk : k ≤ 16777216) :
    Calls Tryd.prog 14 #[.slice a n c, .int .i64 k] w fun e w' => e = .returned (.int .i64 ((k + n : Nat) : Int)) ∧ MkA a n c k w' ∧ OnlyP (atP a) w w' := by
  rcases h with ⟨rfl, rfl, rfl⟩ | ⟨g, rfl, _, h⟩
  · exact (markInt64S_nil k w).mono fun e w' ⟨e1, e2⟩ => ⟨e1, Or.inl ⟨rfl, rfl, rfl⟩, by rw [e2]; exact OnlyP.refl _ _⟩
  · exact (markInt64S_any g n c k f w h hn hk).mono fun e w' ⟨e1, e2, e3⟩ => ⟨e1, Or.inr ⟨g, rfl, e2⟩, OnlyP.of_only e3 rfl⟩
theorem heldInts_any (a : Option Addr) (n c k : Nat) (w : World) (h : MkA a n c k w) (hn : n ≤ 1048576) (hk : k ≤ 16777216) :
    Calls Tryd.prog 45 #[.slice a n c, .int .i64 k] w fun e w' => e = .returned (.int .i64 ((k + n : Nat) : Int)) ∧ w' = w := by
  rcases h with ⟨rfl, rfl, rfl⟩ | ⟨g, rfl, h⟩
  · exact heldInt64S_nil k w
  · exact heldInt64S_any g n c k w h hn hk
set_option maxRecDepth 100000 in
set_option maxHeartbeats 2000000 in
theorem markBatch_any (lo hi : Nat) (wt : Int) (a : Option Addr) (n c k : Nat) (f : Nat → Int) (w : World) (h : PtM lo hi a n c f w) (hn : n ≤ 1048576) (hk : k ≤ 16777216) :
    Calls Tryd.prog 29 #[btV wt a n c, .int .i64 k] w fun e w' => e = .returned (.int .i64 ((k + n : Nat) : Int)) ∧ MkA a n c k w' ∧ OnlyP (atP a) w w' := by
  have hB : Below w.heap.size w (w.alloc (.cells #[.int .i64 wt, .slice a n c] 28)) := (Below.refl _ _).alloc (Nat.le_refl _) _
  have H := Lib.hid (h.same (fun g _ _ hl => hB.block g hl))
  have HB := Lib.hid hB
  clear h hB
  go_enter Tryd.func29, Tryd.ntmps29
  go_wp2_with fail
  refine (markInts_any lo hi a n c k f _ H.out hn hk).mono ?_
  rintro e w1 ⟨rfl, h1, h2⟩
  have H1 := Lib.hid h1
  have H2 : Hid (OnlyP (atP a) w w1) := (OnlyP.of_below HB.out).trans h2
  clear h1 h2
  go_wp2_with fail
  go_ret
  exact ⟨rfl, H1.out, H2.out⟩
set_option maxRecDepth 100000 in
set_option maxHeartbeats 2000000 in
theorem heldBatch_any (wt : Int) (a : Option Addr) (n c k : Nat) (w : World) (h : MkA a n c k w) (hn : n ≤ 1048576) (hk : k ≤ 16777216) :
    Calls Tryd.prog 30 #[btV wt a n c, .int .i64 k] w fun e w' => e = .returned (.int .i64 ((k + n : Nat) : Int)) ∧ Below w.heap.size w w' := by
  have hB : Below w.heap.size w (w.alloc (.cells #[.int .i64 wt, .slice a n c] 28)) := (Below.refl _ _).alloc (Nat.le_refl _) _
  have H := Lib.hid (h.same (fun g _ hl => hB.block g hl))
  have HB := Lib.hid hB
  have hz : ¬ ((k + n : Nat) : Int) < 0 := by omega
  clear h hB
  go_enter Tryd.func30, Tryd.ntmps30
  go_wp2_with fail
  refine (heldInts_any a n c k _ H.out hn hk).mono ?_
  rintro e w1 ⟨rfl, rfl⟩
  go_wp2_with fail
  go_ret
  exact ⟨rfl, HB.out⟩
/-- A row of cells, as a list. -/
def rowL (l : List Value) (i : Nat) : Value := l.getD i undef
theorem rowL_alloc (w : World) (l : List Value) (t : TypeId) : (w.alloc (.cells ⟨l⟩ t)).rowIs w.heap.size t l.length (rowL l) := by
  refine ⟨_, blk_alloc_new _ _, rfl, fun i hi => ?_⟩
  simp [rowL, hi]
/-- Two lists of an answer are its own and two. -/
structure TwM (lo hi : Nat) (ax : Option Addr) (nx kx : Nat) (fx : Nat → Int) (ay : Option Addr) (ny ky : Nat) (fy : Nat → Int) (W : World) : Prop where
  px : PtM lo hi ax nx kx fx W
  py : PtM lo hi ay ny ky fy W
  ne : ∀ g, atP ax g → ¬ atP ay g
theorem TwM.same {lo hi : Nat} {ax : Option Addr} {nx kx : Nat} {fx : Nat → Int} {ay : Option Addr} {ny ky : Nat} {fy : Nat → Int} {W W' : World} (h : TwM lo hi ax nx kx fx ay ny ky fy W) (hb : ∀ g, lo ≤ g → g < hi → g < W.heap.size → W'.heap[g]? = W.heap[g]?) : TwM lo hi ax nx kx fx ay ny ky fy W' := ⟨h.px.same hb, h.py.same hb, h.ne⟩
theorem TwM.below {lo hi : Nat} {ax : Option Addr} {nx kx : Nat} {fx : Nat → Int} {ay : Option Addr} {ny ky : Nat} {fy : Nat → Int} {W W' : World} (h : TwM lo hi ax nx kx fx ay ny ky fy W) (hb : Below W.heap.size W W') : TwM lo hi ax nx kx fx ay ny ky fy W' := h.same (fun g _ _ hl => hb.block g hl)
theorem TwM.top {lo hi hi' : Nat} {ax : Option Addr} {nx kx : Nat} {fx : Nat → Int} {ay : Option Addr} {ny ky : Nat} {fy : Nat → Int} {W : World} (h : TwM lo hi ax nx kx fx ay ny ky fy W) (h2 : W.heap.size ≤ hi') : TwM lo hi' ax nx kx fx ay ny ky fy W := ⟨h.px.top h2, h.py.top h2, h.ne⟩
theorem TwM.mono {lo hi lo' hi' : Nat} {ax : Option Addr} {nx kx : Nat} {fx : Nat → Int} {ay : Option Addr} {ny ky : Nat} {fy : Nat → Int} {W : World} (h : TwM lo hi ax nx kx fx ay ny ky fy W) (h1 : lo' ≤ lo) (h2 : hi ≤ hi') : TwM lo' hi' ax nx kx fx ay ny ky fy W := ⟨h.px.mono h1 h2, h.py.mono h1 h2, h.ne⟩
theorem TwM.nil (lo hi : Nat) (W : World) : TwM lo hi none 0 0 (fun _ => 0) none 0 0 (fun _ => 0) W := ⟨Or.inl ⟨rfl, rfl, rfl⟩, Or.inl ⟨rfl, rfl, rfl⟩, fun g h => by cases h⟩
end Go.Proofs.YtcjeieagpcphjaaDoor
