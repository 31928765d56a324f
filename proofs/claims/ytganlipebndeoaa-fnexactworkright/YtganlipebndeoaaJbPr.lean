/-
  Pairs of jobs: lists of them, and the laws' comparisons and marks of lists of lists.
-/
import Derived.Test.YtganlipebndeoaaJbBs
import Derived.Test.YtganlipebndeoaaMnMem
import Derived.Test.YtganlipebndeoaaPlMath
import Derived.Maps.AppendAt
import Derived.Deep.AppendLies
namespace Go.Proofs.Ytganlipebndeoaa
open Go.RowKit Go.Deep

namespace Jb
/-- The pairs of the place i with a later one that clash. -/
noncomputable def inn (C : Nat → Nat → Prop) (i : Nat) : Nat → List (Nat × Nat)
  | 0 => []
  | k + 1 => inn C i k ++ if i < k ∧ dB (C i k) = true then [(i, k)] else []
noncomputable def out (C : Nat → Nat → Prop) (m : Nat) : Nat → List (Nat × Nat)
  | 0 => []
  | i + 1 => out C m i ++ inn C i m
theorem inn_nil (C : Nat → Nat → Prop) (i : Nat) : ∀ k, k ≤ i + 1 → inn C i k = [] := by
  intro k
  induction k with
  | zero => intro _; rfl
  | succ k ih =>
    intro h
    simp only [inn]
    rw [ih (by omega), if_neg (by omega)]
    rfl
theorem inn_yes {C : Nat → Nat → Prop} {i k : Nat} (h : i < k) (c : C i k) : inn C i (k + 1) = inn C i k ++ [(i, k)] := by
  simp only [inn]; rw [if_pos ⟨h, dB_tt c⟩]
theorem inn_no {C : Nat → Nat → Prop} {i k : Nat} (c : ¬ C i k) : inn C i (k + 1) = inn C i k := by
  simp only [inn]; rw [if_neg (fun h => by rw [dB_ff c] at h; exact absurd h.2 (by simp))]; simp
theorem inn_len (C : Nat → Nat → Prop) (i k : Nat) : (inn C i k).length ≤ k := by
  induction k with
  | zero => exact Nat.le_refl _
  | succ k ih =>
    simp only [inn, List.length_append]
    split <;> simp <;> omega
theorem out_len (C : Nat → Nat → Prop) (m i : Nat) : (out C m i).length ≤ i * m := by
  induction i with
  | zero => simp [out]
  | succ i ih =>
    simp only [out, List.length_append]
    have := inn_len C i m
    have e : (i + 1) * m = i * m + m := by rw [Nat.succ_mul]
    omega
theorem inn_congr {C D : Nat → Nat → Prop} (h : ∀ i k, C i k ↔ D i k) : inn C = inn D := by
  funext i k
  induction k with
  | zero => rfl
  | succ k ih => simp only [inn]; rw [ih, dB_congr (h i k)]
theorem out_congr {C D : Nat → Nat → Prop} (h : ∀ i k, C i k ↔ D i k) : out C = out D := by
  funext m i
  induction i with
  | zero => rfl
  | succ i ih => simp only [out]; rw [ih, inn_congr h]
theorem inn_none {C : Nat → Nat → Prop} {i k : Nat} : inn C i k = [] ↔ ∀ j, i < j → j < k → ¬ C i j := by
  induction k with
  | zero => exact ⟨fun _ j _ hj => by omega, fun _ => rfl⟩
  | succ k ih =>
    constructor
    · intro h j h1 h2 c
      simp only [inn, List.append_eq_nil_iff] at h
      by_cases e : j = k
      · subst e
        rw [if_pos ⟨h1, dB_tt c⟩] at h
        exact absurd h.2 (by simp)
      · exact ih.1 h.1 j h1 (by omega) c
    · intro h
      simp only [inn]
      rw [ih.2 (fun j h1 h2 => h j h1 (by omega)), if_neg (fun x => by
        by_cases c : C i k
        · exact h k x.1 (by omega) c
        · rw [dB_ff c] at x; exact absurd x.2 (by simp))]
      rfl
theorem out_none {C : Nat → Nat → Prop} {m i : Nat} : out C m i = [] ↔ ∀ a b, a < i → a < b → b < m → ¬ C a b := by
  induction i with
  | zero => exact ⟨fun _ a b h => by omega, fun _ => rfl⟩
  | succ i ih =>
    simp only [out, List.append_eq_nil_iff]
    rw [ih, inn_none]
    constructor
    · intro ⟨h1, h2⟩ a b ha hab hb
      by_cases e : a = i
      · subst e; exact h2 b hab hb
      · exact h1 a b (by omega) hab hb
    · intro h
      exact ⟨fun a b ha hab hb => h a b (by omega) hab hb, fun b hab hb => h i b (by omega) hab hb⟩
/-- The numbers of a list of pairs. -/
def prF (L : List (Nat × Nat)) (j c : Nat) : Int := if c = 0 then ((L.getD j (0, 0)).1 : Int) else ((L.getD j (0, 0)).2 : Int)
theorem prF_old {L : List (Nat × Nat)} {p : Nat × Nat} {j : Nat} (h : j < L.length) : prF (L ++ [p]) j = prF L j := by
  funext c
  unfold prF
  simp [List.getD_eq_getElem?_getD, List.getElem?_append_left h]
theorem prF_new {L : List (Nat × Nat)} {p : Nat × Nat} : prF (L ++ [p]) L.length = fun c => if c = 0 then (p.1 : Int) else (p.2 : Int) := by
  funext c
  unfold prF
  simp
/-- Marks of pairs. -/
def mkP (j c : Nat) : Int := ((1 + j * 2 + c : Nat) : Int)
end Jb
/-- The cells of a list of pairs. -/
def prVs (gs : Nat → Nat) (n : Nat) : List Value := (List.range n).map (fun j => .slice (some ⟨gs j, 0, none⟩) 2 2)
theorem prVs_succ (gs : Nat → Nat) (n : Nat) : prVs gs (n + 1) = prVs gs n ++ [.slice (some ⟨gs n, 0, none⟩) 2 2] := by simp [prVs, List.range_succ]
theorem prVs_at (gs : Nat → Nat) {n j : Nat} (h : j < n) : (prVs gs n)[j]? = some (.slice (some ⟨gs j, 0, none⟩) 2 2) := by simp [prVs, h]
theorem prVs_congr {gs hs : Nat → Nat} {n : Nat} (h : ∀ j, j < n → gs j = hs j) : prVs gs n = prVs hs n := by
  unfold prVs
  apply List.map_congr_left
  intro j hj
  rw [h j (List.mem_range.1 hj)]
/-- A list of pairs that grows. -/
def PrL (B : Nat) (v : Value) (L : List (Nat × Nat)) (W : World) : Prop :=
  ∃ gs, W.ownsRow B 29 1 v L.length (prVs gs L.length) ∧ (∀ j, j < L.length → IsBlk 2 (gs j) 2 (Jb.prF L j) W ∧ B ≤ gs j) ∧ ∀ i j, i < j → j < L.length → gs i < gs j
theorem PrL.nil (B : Nat) (W : World) : PrL B (.slice none 0 0) [] W := ⟨fun _ => 0, World.ownsRow_nil _ _ _ _, fun _ hj => absurd hj (Nat.not_lt_zero _), fun _ _ _ hj => absurd hj (Nat.not_lt_zero _)⟩
theorem PrL.below {B : Nat} {v : Value} {L : List (Nat × Nat)} {W W' : World} (h : PrL B v L W) (hb : Below W.heap.size W W') : PrL B v L W' := by
  obtain ⟨gs, h1, h2, h3⟩ := h
  exact ⟨gs, ⟨h1.1, h1.2.imp id (fun ⟨g, cap, cur, e1, e2, e3, r⟩ => ⟨g, cap, cur, e1, e2, (hb.block g (h1.lt g (by rw [e1]; rfl)).2).trans e3, r⟩)⟩, fun j hj => ⟨(h2 j hj).1.below hb, (h2 j hj).2⟩, h3⟩
theorem PrL.shape {B : Nat} {v : Value} {L : List (Nat × Nat)} {W : World} (h : PrL B v L W) : ∃ a c, v = .slice a L.length c := by
  obtain ⟨gs, h1, _⟩ := h
  rcases h1.2 with h2 | ⟨g, cap, cur, e1, _⟩
  · exact ⟨none, 0, by rw [h2.1, h2.2]⟩
  · exact ⟨_, _, e1⟩
theorem isBlk_type {T : TypeId} {g N : Nat} {f : Nat → Int} {W : World} (h : IsBlk T g N f W) : ∃ cur, W.heap[g]? = some (.cells cur T (0, 0)) := by
  obtain ⟨m, F, _, ⟨cur, h1, _⟩, _⟩ := h
  exact ⟨cur, h1⟩
theorem own_typ {B n s : Nat} {t : TypeId} {v : Value} {xs : List Value} {W : World} (h : W.ownsRow B t s v n xs) {g : Nat} (hg : v.ownBlock = some g) : ∃ cur, W.heap[g]? = some (.cells cur t (0, 0)) := by
  rcases h.2 with h2 | ⟨g', cap, cur, e, _, h3, _⟩
  · rw [h2.1] at hg; cases hg
  · rw [e] at hg
    have : g' = g := by simpa [Value.ownBlock] using hg
    subst this
    exact ⟨cur, h3⟩
theorem typ_ne {g k : Nat} {t t' : TypeId} {W : World} (h1 : ∃ cur, W.heap[g]? = some (.cells cur t (0, 0))) (h2 : ∃ cur, W.heap[k]? = some (.cells cur t' (0, 0))) (hne : t ≠ t') : g ≠ k := by
  rintro rfl
  obtain ⟨c1, h1⟩ := h1
  obtain ⟨c2, h2⟩ := h2
  rw [h1] at h2
  injection h2 with h2
  injection h2 with _ h2
  exact hne h2
/-- One more pair: its block, the block of one list, the append. -/
theorem PrL.push {B : Nat} {v v' : Value} {L : List (Nat × Nat)} {W W2 W3 : World} {i k : Nat} (hB : B ≤ W.heap.size)
    (e2 : W2 = (W.alloc (.cells #[.int .i64 (i : Int), .int .i64 (k : Int)] 2)).alloc (.cells #[.slice (some ⟨W.heap.size, 0, none⟩) 2 2] 29))
    {gs : Nat → Nat} (hgs : W.ownsRow B 29 1 v L.length (prVs gs L.length) ∧ (∀ j, j < L.length → IsBlk 2 (gs j) 2 (Jb.prF L j) W ∧ B ≤ gs j) ∧ ∀ i j, i < j → j < L.length → gs i < gs j)
    (hg : W2.grownBy W3 v.ownBlock) (ho : W3.ownsRow B 29 1 v' (L.length + 1) (prVs gs L.length ++ [.slice (some ⟨W.heap.size, 0, none⟩) 2 2])) : PrL B v' (L ++ [(i, k)]) W3 := by
  obtain ⟨h1, h2, h3⟩ := hgs
  have hb : Below W.heap.size W W2 := by rw [e2]; exact (nbel_alloc _ _).alloc (by simp) _
  have ho2 : W2.ownsRow B 29 1 v L.length (prVs gs L.length) := ⟨h1.1, h1.2.imp id (fun ⟨g, cap, cur, e1, e2, e3, r⟩ => ⟨g, cap, cur, e1, e2, (hb.block g (h1.lt g (by rw [e1]; rfl)).2).trans e3, r⟩)⟩
  have keep : ∀ g (f : Nat → Int), IsBlk 2 g 2 f W2 → IsBlk 2 g 2 f W3 := fun g f q => q.block (hg.block g q.lt (fun e => typ_ne (isBlk_type q) (own_typ ho2 e.symm) (by decide) rfl))
  have hnew : IsBlk 2 W.heap.size 2 (fun c => if c = 0 then (i : Int) else (k : Int)) W2 := by
    rw [e2]
    refine IsBlk.below ⟨2, rowN [.int .i64 (i : Int), .int .i64 (k : Int)], Nat.le_refl _, rowN_alloc W _ _, fun j hj => ?_⟩ (nbel_alloc _ _)
    rcases (show j = 0 ∨ j = 1 by omega) with rfl | rfl <;> rfl
  refine ⟨fun j => if j < L.length then gs j else W.heap.size, ?_, fun j hj => ?_, fun a b hab hb2 => ?_⟩
  · have e : (L ++ [(i, k)]).length = L.length + 1 := by simp
    rw [e, prVs_succ, prVs_congr (hs := gs) (fun j hj => by simp [hj])]
    simpa using ho
  · have e : (L ++ [(i, k)]).length = L.length + 1 := by simp
    rw [e] at hj
    by_cases c : j < L.length
    · simp only [if_pos c]
      rw [Jb.prF_old c]
      exact ⟨keep _ _ ((h2 j c).1.below hb), (h2 j c).2⟩
    · obtain rfl : j = L.length := by omega
      simp only [if_neg c]
      rw [Jb.prF_new]
      exact ⟨keep _ _ hnew, hB⟩
  · have e : (L ++ [(i, k)]).length = L.length + 1 := by simp
    rw [e] at hb2
    have c : a < L.length := by omega
    simp only [if_pos c]
    by_cases d : b < L.length
    · simp only [if_pos d]; exact h3 a b hab d
    · simp only [if_neg d]; exact (h2 a c).1.lt
/-- A list of pairs that an answer is. -/
def PrO (B hi n : Nat) (a : Option Addr) (k : Nat) (P : Nat → Nat → Int) (W : World) : Prop :=
  (a = none ∧ n = 0 ∧ k = 0) ∨ ∃ (g : Nat) (gs : Nat → Nat), a = some ⟨g, 0, none⟩ ∧ (B ≤ g ∧ g < hi) ∧ (∃ N F, n ≤ N ∧ W.rowIs g 29 N F ∧ ∀ j, j < n → F j = .slice (some ⟨gs j, 0, none⟩) 2 2) ∧ (∀ j, j < n → IsBlk 2 (gs j) 2 (P j) W ∧ B ≤ gs j ∧ gs j < hi) ∧ ∀ i j, i < j → j < n → gs i < gs j
theorem PrL.own {B : Nat} {a : Option Addr} {k : Nat} {L : List (Nat × Nat)} {W : World} (h : PrL B (.slice a L.length k) L W) : PrO B W.heap.size L.length a k (Jb.prF L) W := by
  obtain ⟨gs, h, h2, h3⟩ := h
  rcases h.2 with h4 | ⟨g, cap, cur, e1, e2, e3, e4, e5, e6, e7⟩
  · have h5 := h4.1
    injection h5 with h5 h6 h7
    exact Or.inl ⟨h5, h4.2, h7⟩
  · injection e1 with e1 _ e1b
    subst e1 e1b
    have hrow : W.rowIs g 29 k (fun i => cur[i]?.getD undef) := ⟨cur, e3, by simpa using e6, fun i hi => by
      show cur[i]? = some (cur[i]?.getD undef)
      rw [Array.getElem?_eq_getElem (by omega)]
      rfl⟩
    refine Or.inr ⟨g, gs, rfl, ⟨e2, hrow.lt⟩, ⟨k, _, by omega, hrow, fun j hj => ?_⟩, fun j hj => ⟨(h2 j hj).1, (h2 j hj).2, (h2 j hj).1.lt⟩, h3⟩
    have h1 : (cur.toList.take (L.length * 1))[j]? = (prVs gs L.length)[j]? := by rw [e7]
    rw [List.getElem?_take, if_pos (by omega), Array.getElem?_toList] at h1
    show cur[j]?.getD undef = _
    rw [h1, prVs_at gs hj]
    rfl
theorem PrO.same {B hi n : Nat} {a : Option Addr} {k : Nat} {P : Nat → Nat → Int} {W W' : World} (h : PrO B hi n a k P W) (hb : ∀ q, B ≤ q → q < hi → q < W.heap.size → W'.heap[q]? = W.heap[q]?) : PrO B hi n a k P W' := by
  rcases h with h | ⟨g, gs, e, h1, ⟨N, F, f1, f2, f3⟩, h3, h4⟩
  · exact Or.inl h
  · exact Or.inr ⟨g, gs, e, h1, ⟨N, F, f1, f2.of_block (hb g h1.1 h1.2 f2.lt), f3⟩, fun j hj => ⟨(h3 j hj).1.block (hb _ (h3 j hj).2.1 (h3 j hj).2.2 (h3 j hj).1.lt), (h3 j hj).2⟩, h4⟩
theorem PrO.below {B hi n : Nat} {a : Option Addr} {k : Nat} {P : Nat → Nat → Int} {W W' : World} (h : PrO B hi n a k P W) (hb : Below W.heap.size W W') : PrO B hi n a k P W' := h.same (fun q _ _ hl => hb.block q hl)
theorem PrO.at_ {B hi n : Nat} {a : Option Addr} {k : Nat} {P : Nat → Nat → Int} {W : World} (h : PrO B hi n a k P W) : LsAt a n (fun _ => 2) P W := by
  rcases h with h | ⟨g, gs, e, h1, ⟨N, F, f1, f2, f3⟩, h3, h4⟩
  · exact Or.inl h.2.1
  · exact Or.inr ⟨g, e, fun i hi => ⟨_, _, (f2.cell (by omega)).trans (by rw [f3 i hi]), (h3 i hi).1.at_⟩⟩
/-- What a round of the comparison reads. -/
def EqSS (w : World) (b1 b2 i : Nat) (a1 : Option Addr) (n1 c1 : Nat) (a2 : Option Addr) (c2 : Nat) (W : World) : Prop := W.cell? ⟨b1, i, none⟩ = some (.slice a1 n1 c1) ∧ W.cell? ⟨b2, i, none⟩ = some (.slice a2 n1 c2) ∧ Below w.heap.size w W
theorem EqSS.below {w : World} {b1 b2 i : Nat} {a1 : Option Addr} {n1 c1 : Nat} {a2 : Option Addr} {c2 : Nat} {W W' : World} (h : EqSS w b1 b2 i a1 n1 c1 a2 c2 W) (hb : Below W.heap.size W W') : EqSS w b1 b2 i a1 n1 c1 a2 c2 W' := by
  obtain ⟨q1, q2, h3⟩ := h
  exact ⟨(hb.cell (World.block_lt_of_cell? _ _ q1)).trans q1, (hb.cell (World.block_lt_of_cell? _ _ q2)).trans q2, h3.trans (hb.mono h3.size)⟩
set_option maxRecDepth 100000 in
set_option maxHeartbeats 2000000 in
theorem meqSS_same (a b : Option Addr) (n ca cb : Nat) (LN : Nat → Nat) (L : Nat → Nat → Int) (w : World) (h1 : LsAt a n LN L w) (h2 : LsAt b n LN L w) (hn : n ≤ 1048576) (hl : ∀ i, i < n → LN i ≤ 1048576) :
    Calls Try.prog 17 #[.slice a n ca, .slice b n cb] w fun e w' => e = .returned (.bool true) ∧ Below w.heap.size w w' := by
  have H1 := Lib.hid h1
  have H2 := Lib.hid h2
  have HL := Lib.hid hl
  clear h1 h2 hl
  go_enter Try.func17, Try.ntmps17
  go_wp2_with fail
  go_loopw [5] (fun iv wr => ∃ (i : Nat), i ≤ n ∧ iv = .int .i64 i ∧ Hid (Below w.heap.size w wr)) (fun iv _ => n - (intOf iv).toNat)
  case atStart => exact ⟨0, Nat.zero_le _, rfl, Below.refl _ _⟩
  case round =>
    obtain ⟨i, hi, rfl, hB⟩ := hrel
    by_cases hlt : i < n
    · have hltz : (i : Int) < (n : Int) := by omega
      obtain ⟨b1, rfl, a1, c1, k1, K1⟩ := (H1.out.below hB.out).one hlt
      obtain ⟨b2, rfl, a2, c2, k2, K2⟩ := (H2.out.below hB.out).one hlt
      have HK1 := Lib.hid K1
      have HK2 := Lib.hid K2
      have HE : Hid (EqSS w b1 b2 i a1 (LN i) c1 a2 c2 wr) := ⟨k1, k2, hB.out⟩
      clear k1 k2 hB K1 K2
      go_wp2_with fail
      obtain ⟨W0, hW0⟩ : ∃ W0, W0 = wr := ⟨_, rfl⟩
      refine wp_region_held_drew (S := fun V => EqSS w b1 b2 i a1 (LN i) c1 a2 c2 V ∧ Below wr.heap.size wr V) (by kernel_rfl) ⟨HE.out.below (Below.refl _ _).drew, (Below.refl _ _).drew⟩ (fun hHeld => ?_)
      clear HE hW0 W0
      refine take_do (i := 0) (v := (.slice (some ⟨b1, 0, none⟩) n ca)) rfl (by kernel_rfl) (by kernel_rfl) (by kernel_rfl) (fun _ _ _ h => h) (by rfl) ?_ (by assumption) ?_
      · intro w hSw
        obtain ⟨⟨c0, d0, _⟩, _⟩ := hSw
        go_simp
      simp only [Act.put, List.setIfInBounds_toArray, List.set_cons_zero, List.set_cons_succ]
      refine take_do (i := 1) (v := (.int .i64 i)) rfl (by kernel_rfl) (by kernel_rfl) (by kernel_rfl) (fun _ _ _ h => h) (by rfl) ?_ (by assumption) ?_
      · intro w hSw
        obtain ⟨⟨c0, d0, _⟩, _⟩ := hSw
        go_simp
      simp only [Act.put, List.setIfInBounds_toArray, List.set_cons_zero, List.set_cons_succ]
      refine take_do (i := 2) (v := (.pointer (some ⟨b1, i, none⟩))) rfl (by kernel_rfl) (by kernel_rfl) (by kernel_rfl) (fun _ _ _ h => h) (by rfl) ?_ (by assumption) ?_
      · intro w hSw
        obtain ⟨⟨c0, d0, _⟩, _⟩ := hSw
        go_simp
      simp only [Act.put, List.setIfInBounds_toArray, List.set_cons_zero, List.set_cons_succ]
      refine take_do (i := 3) (v := (.slice a1 (LN i) c1)) rfl (by kernel_rfl) (by kernel_rfl) (by kernel_rfl) (fun _ _ _ h => h) (by rfl) ?_ (by assumption) ?_
      · intro w hSw
        obtain ⟨⟨c0, d0, _⟩, _⟩ := hSw
        go_simp
      simp only [Act.put, List.setIfInBounds_toArray, List.set_cons_zero, List.set_cons_succ]
      refine take_do (i := 4) (v := (.slice (some ⟨b2, 0, none⟩) n cb)) rfl (by kernel_rfl) (by kernel_rfl) (by kernel_rfl) (fun _ _ _ h => h) (by rfl) ?_ (by assumption) ?_
      · intro w hSw
        obtain ⟨⟨c0, d0, _⟩, _⟩ := hSw
        go_simp
      simp only [Act.put, List.setIfInBounds_toArray, List.set_cons_zero, List.set_cons_succ]
      refine take_do (i := 5) (v := (.int .i64 i)) rfl (by kernel_rfl) (by kernel_rfl) (by kernel_rfl) (fun _ _ _ h => h) (by rfl) ?_ (by assumption) ?_
      · intro w hSw
        obtain ⟨⟨c0, d0, _⟩, _⟩ := hSw
        go_simp
      simp only [Act.put, List.setIfInBounds_toArray, List.set_cons_zero, List.set_cons_succ]
      refine take_do (i := 6) (v := (.pointer (some ⟨b2, i, none⟩))) rfl (by kernel_rfl) (by kernel_rfl) (by kernel_rfl) (fun _ _ _ h => h) (by rfl) ?_ (by assumption) ?_
      · intro w hSw
        obtain ⟨⟨c0, d0, _⟩, _⟩ := hSw
        go_simp
      simp only [Act.put, List.setIfInBounds_toArray, List.set_cons_zero, List.set_cons_succ]
      refine take_do (i := 7) (v := (.slice a2 (LN i) c2)) rfl (by kernel_rfl) (by kernel_rfl) (by kernel_rfl) (fun _ _ _ h => h) (by rfl) ?_ (by assumption) ?_
      · intro w hSw
        obtain ⟨⟨c0, d0, _⟩, _⟩ := hSw
        go_simp
      simp only [Act.put, List.setIfInBounds_toArray, List.set_cons_zero, List.set_cons_succ]
      refine take_call (i := 8) rfl (by kernel_rfl) (fun K2 hK => ?_)
      go_simp
      refine (neqInt64S_same a1 a2 (LN i) c1 c2 (L i) _ (HK1.out.below hHeld.2) (HK2.out.below hHeld.2) (HL.out i hlt)).mono ?_
      rintro e w1 ⟨rfl, hb⟩
      go_wp2_with fail
      refine hK.out _ _ ⟨hHeld.1.below hb, hHeld.2.trans (hb.mono hHeld.2.size)⟩ (fun hHeld2 => ?_)
      clear hK hHeld hb
      have hHeld := hHeld2
      clear hHeld2
      refine take_do (i := 9) (v := (.bool false)) rfl (by kernel_rfl) (by kernel_rfl) (by kernel_rfl) (fun _ _ _ h => h) (by rfl) ?_ (by assumption) ?_
      · intro w hSw
        obtain ⟨⟨c0, d0, _⟩, _⟩ := hSw
        go_simp
      simp only [Act.put, List.setIfInBounds_toArray, List.set_cons_zero, List.set_cons_succ]
      refine wpAnyH_done (by kernel_rfl) ?_ _
      have HB1 := Lib.hid hHeld.1.2.2
      clear hHeld
      go_wp2_with fail
      go_roundw
      case rel => exact ⟨i + 1, by omega, by go_num, HB1⟩
      case measure => simp [intOf]; omega
    · obtain rfl : i = n := by omega
      go_wp2_with fail
      go_ret
      exact ⟨rfl, hB.out⟩
set_option maxRecDepth 100000 in
set_option maxHeartbeats 2000000 in
theorem markPr_any (B hi n : Nat) (a : Option Addr) (c : Nat) (P : Nat → Nat → Int) (w : World) (h : PrO B hi n a c P w) (hn : n ≤ 1048576) :
    Calls Try.prog 20 #[.slice a n c, .int .i64 1] w fun e w' => e = .returned (.int .i64 ((1 + n * 2 : Nat) : Int)) ∧ PrO B hi n a c Jb.mkP w' ∧ OnlyR B hi w w' := by
  rcases h with ⟨rfl, rfl, rfl⟩ | ⟨g, gs, rfl, h1, hF, h3, h4⟩
  · go_enter Try.func20, Try.ntmps20
    go_wp2_with fail
    go_loopw [1, 5] (fun kv iv wr => kv = .int .i64 1 ∧ iv = .int .i64 0 ∧ wr = w) (fun _ _ _ => 0)
    case atStart => exact ⟨rfl, rfl, rfl⟩
    case round =>
      obtain ⟨rfl, rfl, rfl⟩ := hrel
      go_wp2_with fail
      go_ret
      exact ⟨rfl, Or.inl ⟨rfl, rfl, rfl⟩, OnlyR.refl _ _ _⟩
  · have HF := Lib.hid hF
    have H1 := Lib.hid h1
    have H3 : Hid (∀ j, j < n → (∃ f, IsBlk 2 (gs j) 2 f w) ∧ B ≤ gs j ∧ gs j < hi) := fun j hj => ⟨⟨_, (h3 j hj).1⟩, (h3 j hj).2⟩
    have H4 := Lib.hid h4
    clear hF h1 h3 h4
    go_enter Try.func20, Try.ntmps20
    go_wp2_with fail
    go_loopw [1, 5] (fun kv iv wr => ∃ (i : Nat), i ≤ n ∧ kv = .int .i64 ((1 + i * 2 : Nat) : Int) ∧ iv = .int .i64 i ∧ Hid (∃ N F, n ≤ N ∧ wr.rowIs g 29 N F ∧ ∀ j, j < n → F j = .slice (some ⟨gs j, 0, none⟩) 2 2) ∧ Hid (∀ j, j < n → ∃ f, IsBlk 2 (gs j) 2 f wr) ∧ Hid (∀ j, j < i → IsBlk 2 (gs j) 2 (Jb.mkP j) wr) ∧ Hid (OnlyR B hi w wr)) (fun _ iv _ => n - (intOf iv).toNat)
    case atStart => exact ⟨0, Nat.zero_le _, rfl, rfl, HF, fun j hj => (H3.out j hj).1, fun j hj => absurd hj (Nat.not_lt_zero _), OnlyR.refl _ _ _⟩
    case round =>
      obtain ⟨i, hi', rfl, rfl, hR, hI, hM, hO⟩ := hrel
      clear HF
      by_cases hlt : i < n
      · have hltz : (i : Int) < (n : Int) := by omega
        obtain ⟨N, F, f1, f2, f3⟩ := hR.out
        have c0 : wr.cell? ⟨g, i, none⟩ = some (.slice (some ⟨gs i, 0, none⟩) 2 2) := (f2.cell (by omega)).trans (by rw [f3 i hlt])
        obtain ⟨f, hf⟩ := hI.out i hlt
        have HFI := Lib.hid hf
        have HNE : Hid (g ≠ gs i) := by
          obtain ⟨cur, q, _⟩ := f2
          exact typ_ne ⟨cur, q⟩ (isBlk_type hf) (by decide)
        obtain ⟨K, hK⟩ : ∃ K : Nat, K = 1 + i * 2 := ⟨_, rfl⟩
        have HK := Lib.hid hK
        have hKb : K ≤ 4194304 := by omega
        rw [← hK]
        clear f1 f2 f3 hf hK
        go_wp2_with fail
        refine (nmarkInt64S_any (gs i) 2 2 K f _ HFI.out (by omega) (by omega)).mono ?_
        rintro e w1 ⟨rfl, hmk, ho⟩
        have HR1 : Hid (∃ N F, n ≤ N ∧ w1.rowIs g 29 N F ∧ ∀ j, j < n → F j = .slice (some ⟨gs j, 0, none⟩) 2 2) := by
          obtain ⟨N, F, f1, f2, f3⟩ := hR.out
          exact ⟨N, F, f1, f2.of_block (ho.block _ f2.lt HNE.out), f3⟩
        have ne : ∀ j, j < n → j ≠ i → gs j ≠ gs i := fun j hj e => by
          rcases Nat.lt_or_gt_of_ne e with h | h
          · have := H4.out j i h hlt; omega
          · have := H4.out i j h hj; omega
        have HI1 : Hid (∀ j, j < n → ∃ f, IsBlk 2 (gs j) 2 f w1) := fun j hj => by
          by_cases e : j = i
          · subst e; exact ⟨_, hmk⟩
          · obtain ⟨f, q⟩ := hI.out j hj
            exact ⟨f, q.block (ho.block _ q.lt (ne j hj e))⟩
        have HM1 : Hid (∀ j, j < i + 1 → IsBlk 2 (gs j) 2 (Jb.mkP j) w1) := fun j hj => by
          by_cases e : j = i
          · subst e
            refine hmk.congr (fun t _ => ?_)
            rw [HK.out]; rfl
          · have q := hM.out j (by omega)
            exact q.block (ho.block _ q.lt (ne j (by omega) e))
        have HO1 : Hid (OnlyR B hi w w1) := hO.out.only ho (H3.out i hlt).2
        clear hR hI hM hO hmk ho c0 ne HFI HNE
        go_wp2_with fail
        go_roundw
        case rel =>
          refine ⟨i + 1, by omega, ?_, by go_num, HR1, HI1, HM1, HO1⟩
          have := HK.out
          congr 1; omega
        case measure => simp [intOf]; omega
      · obtain rfl : i = n := by omega
        go_wp2_with fail
        go_ret
        exact ⟨rfl, Or.inr ⟨g, gs, rfl, H1.out, hR.out, fun j hj => ⟨hM.out j hj, (H3.out j hj).2⟩, H4.out⟩, hO.out⟩
set_option maxRecDepth 100000 in
set_option maxHeartbeats 2000000 in
theorem heldPr_any (B hi n : Nat) (a : Option Addr) (c : Nat) (w : World) (h : PrO B hi n a c Jb.mkP w) (hn : n ≤ 1048576) :
    Calls Try.prog 21 #[.slice a n c, .int .i64 1] w fun e w' => e = .returned (.int .i64 ((1 + n * 2 : Nat) : Int)) ∧ w' = w := by
  rcases h with ⟨rfl, rfl, rfl⟩ | ⟨g, gs, rfl, h1, hF, h3, h4⟩
  · go_enter Try.func21, Try.ntmps21
    go_wp2_with fail
    go_loopw [1, 5] (fun kv iv wr => kv = .int .i64 1 ∧ iv = .int .i64 0 ∧ wr = w) (fun _ _ _ => 0)
    case atStart => exact ⟨rfl, rfl, rfl⟩
    case round =>
      obtain ⟨rfl, rfl, rfl⟩ := hrel
      go_wp2_with fail
      go_ret
      exact ⟨rfl, rfl⟩
  · have HF := Lib.hid hF
    have H3 := Lib.hid h3
    clear hF h1 h3 h4
    go_enter Try.func21, Try.ntmps21
    go_wp2_with fail
    go_loopw [1, 5] (fun kv iv wr => ∃ (i : Nat), i ≤ n ∧ kv = .int .i64 ((1 + i * 2 : Nat) : Int) ∧ iv = .int .i64 i ∧ wr = w) (fun _ iv _ => n - (intOf iv).toNat)
    case atStart => exact ⟨0, Nat.zero_le _, rfl, rfl, rfl⟩
    case round =>
      obtain ⟨i, hi', rfl, rfl, rfl⟩ := hrel
      by_cases hlt : i < n
      · have hltz : (i : Int) < (n : Int) := by omega
        obtain ⟨N, F, f1, f2, f3⟩ := HF.out
        have c0 : wr.cell? ⟨g, i, none⟩ = some (.slice (some ⟨gs i, 0, none⟩) 2 2) := (f2.cell (by omega)).trans (by rw [f3 i hlt])
        obtain ⟨K, hK⟩ : ∃ K : Nat, K = 1 + i * 2 := ⟨_, rfl⟩
        have HK := Lib.hid hK
        have hKb : K ≤ 4194304 := by omega
        have HMK : Hid (IsBlk 2 (gs i) 2 (mk1 K) wr) := (H3.out i hlt).1.congr (fun t _ => by rw [hK]; rfl)
        have hKz : ¬ ((K + 2 : Nat) : Int) < 0 := by omega
        rw [← hK]
        clear f1 f2 f3 hK
        go_wp2_with fail
        refine (nheldInt64S_any (gs i) 2 2 K _ HMK.out (by omega) (by omega)).mono ?_
        rintro e w1 ⟨rfl, hw⟩
        subst w1
        clear c0 HMK
        go_wp2_with fail
        go_roundw
        case rel =>
          refine ⟨i + 1, by omega, ?_, by go_num, ?_⟩
          · have := HK.out
            congr 1; omega
          · first | rfl | trivial
        case measure => simp [intOf]; omega
      · obtain rfl : i = n := by omega
        go_wp2_with fail
        go_ret
        exact ⟨rfl, rfl⟩
end Go.Proofs.Ytganlipebndeoaa
