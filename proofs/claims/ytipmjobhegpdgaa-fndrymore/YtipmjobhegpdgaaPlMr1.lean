/-
  The laws' small functions on lists; what more shut rows do: mathematics.
-/
import Derived.Test.YtipmjobhegpdgaaPlD9
namespace Go.Proofs.Ytipmjobhegpdgaa
open Go Go.RowKit Go.Deep

set_option maxRecDepth 100000 in
set_option maxHeartbeats 1000000 in
theorem mhas_any (a : Option Addr) (n cap : Nat) (f : Nat → Int) (x : Int) (w : World) (h : IsAt a n f w) (hn : n ≤ 1048576) :
    Calls Try.prog 11 #[.slice a n cap, .int .i64 x] w fun e w' => e = .returned (.bool (dB (Pl.Has n f x))) ∧ w' = w := by
  have H := Lib.hid h
  clear h
  go_enter Try.func11, Try.ntmps11
  go_wp2_with fail
  go_loopw [5] (fun iv wr => ∃ (i : Nat), i ≤ n ∧ iv = .int .i64 i ∧ wr = w ∧ Hid (∀ j, j < i → f j ≠ x)) (fun iv _ => n - (intOf iv).toNat)
  case atStart => exact ⟨0, Nat.zero_le _, rfl, rfl, fun j hj => absurd hj (Nat.not_lt_zero _)⟩
  case round =>
    obtain ⟨i, hi, rfl, rfl, hP⟩ := hrel
    by_cases hlt : i < n
    · have hltz : (i : Int) < (n : Int) := by omega
      obtain ⟨b, e, c0⟩ := H.out.at1 hlt
      subst e
      by_cases c : f i = x
      · have HC : Hid (dB (Pl.Has n f x) = true) := dB_tt ⟨i, hlt, c⟩
        have c' : (f i == x) = true := by simp [c]
        clear c
        go_wp2_with fail
        go_ret
        exact ⟨by rw [HC.out]; rfl, rfl⟩
      · have HC := Lib.hid c
        have c' : (f i == x) = false := by simp [c]
        clear c
        go_wp2_with fail
        go_roundw
        case rel => exact ⟨i + 1, by omega, by go_num, by trivial, fun j hj => by
          by_cases e : j = i
          · subst e; exact HC.out
          · exact hP.out j (by omega)⟩
        case measure => simp [intOf]; omega
    · obtain rfl : i = n := by omega
      have HC : Hid (dB (Pl.Has i f x) = false) := dB_ff (fun ⟨j, hj, e⟩ => hP.out j hj e)
      go_wp2_with fail
      go_ret
      exact ⟨by rw [HC.out]; rfl, rfl⟩
set_option maxRecDepth 100000 in
set_option maxHeartbeats 2000000 in
theorem msame_same (a b : Option Addr) (n ca cb : Nat) (f : Nat → Int) (w : World) (h1 : IsAt a n f w) (h2 : IsAt b n f w) (hn : n ≤ 1048576) :
    Calls Try.prog 15 #[.slice a n ca, .slice b n cb] w fun e w' => e = .returned (.bool true) ∧ Below w.heap.size w w' := by
  have H1 := Lib.hid h1
  have H2 := Lib.hid h2
  clear h1 h2
  go_enter Try.func15, Try.ntmps15
  go_wp2_with fail
  go_loopw [5] (fun iv wr => ∃ (i : Nat), i ≤ n ∧ iv = .int .i64 i ∧ Hid (Below w.heap.size w wr)) (fun iv _ => n - (intOf iv).toNat)
  case atStart => exact ⟨0, Nat.zero_le _, rfl, Below.refl _ _⟩
  case round =>
    obtain ⟨i, hi, rfl, hB⟩ := hrel
    by_cases hlt : i < n
    · have hltz : (i : Int) < (n : Int) := by omega
      obtain ⟨b1, rfl, k1⟩ := (H1.out.below hB.out).at1 hlt
      obtain ⟨b2, rfl, k2⟩ := (H2.out.below hB.out).at1 hlt
      go_wp2_with fail
      go_region
      go_wp2_with fail
      go_roundw
      case rel => exact ⟨i + 1, by omega, by go_num, hB.out.drew⟩
      case measure => simp [intOf]; omega
    · obtain rfl : i = n := by omega
      go_wp2_with fail
      go_ret
      exact ⟨rfl, hB.out⟩
set_option maxRecDepth 100000 in
set_option maxHeartbeats 2000000 in
theorem mcopy_any (a : Option Addr) (m cap : Nat) (f : Nat → Int) (w : World) (h : IsAt a m f w) (hm : m ≤ 1000) (ha : a = none → cap = 0) :
    Calls Try.prog 14 #[.slice a m cap] w fun e w' => (∃ g c, e = .returned (.slice (some ⟨g, 0, none⟩) m c) ∧ w.heap.size ≤ g ∧ IsAt (some ⟨g, 0, none⟩) m f w') ∧ Below w.heap.size w w' := by
  obtain ⟨i0, hi, hz0, hz1, hz2⟩ := info_parts yinfo_i64
  have H := Lib.hid h
  clear h
  obtain ⟨ab, hab⟩ : ∃ ab : Addr, (a = some ab ∨ (a = none ∧ m = 0)) ∧ ∀ j, j < m → w.cell? (ab.add j) = some (.int .i64 (f j)) := by
    by_cases hm0 : m = 0
    · subst hm0
      cases a with
      | none => exact ⟨⟨0, 0, none⟩, Or.inr ⟨rfl, rfl⟩, fun j hj => absurd hj (Nat.not_lt_zero _)⟩
      | some b => exact ⟨b, Or.inl rfl, fun j hj => absurd hj (Nat.not_lt_zero _)⟩
    · obtain ⟨b, e, _⟩ := H.out.at1 (show 0 < m by omega)
      refine ⟨_, Or.inl e, fun j hj => ?_⟩
      obtain ⟨b', e', c'⟩ := H.out.at1 hj
      rw [e] at e'
      cases e'
      rw [Addr.add_lit]
      simpa using c'
  obtain ⟨ho, hcl⟩ := hab
  rcases ho with rfl | ⟨rfl, rfl⟩
  case inr =>
    obtain rfl := ha rfl
    go_enter Try.func14, Try.ntmps14
    go_wp2_with fail
    go_ret
    exact ⟨⟨w.heap.size, ⟨0, rfl⟩, Nat.le_refl _, Or.inl rfl⟩, (Below.refl _ _).alloc (Nat.le_refl _) _⟩
  have HC := Lib.hid hcl
  clear hcl
  go_enter Try.func14, Try.ntmps14
  go_wp2_with (at_builtin; refine wpList_append_own _ rfl _ _ 24 rfl w.heap.size 2 i0 (.int .i64 0) 1 8 Try.underlying24 hi hz0 hz1 hz2 rfl (by decide) _ _ _ rfl (World.ownsRow_made w #[] 0 (Nat.le_refl _) (Nat.zero_le _) rfl) ab m cap ((List.range m).map fun j => Value.int .i64 (f j)) rfl ?qc1 ?qc2 ?qc3 ?qc4 ?qc5 ?qc6 ?_)
  case qc1 => simp
  case qc2 =>
    intro j u hj
    have hjn : j < m := by
      have := (List.getElem?_eq_some_iff.1 hj).1
      simpa using this
    refine Lib.cell?_alloc_some _ ?_
    rw [HC.out j hjn, ← hj]
    simp [hjn]
  case qc3 =>
    intro u hu
    obtain ⟨x, _, rfl⟩ := List.mem_map.1 hu
    rfl
  case qc4 => unfold maxLen; omega
  case qc5 => omega
  case qc6 => simp
  intro v' w1 hown hgrow hnil
  have HB : Hid (Below w.heap.size w w1) := ((Below.refl _ w).alloc (Nat.le_refl _) _).grown hgrow (by simp) (by intro k hk; simp [Value.ownBlock] at hk; omega)
  rcases hown.2 with ⟨e1, _⟩ | ⟨g, c, cur, e1, h2, h3, _, _, h6, h7⟩
  · exact absurd e1 (by simpa using hnil)
  · subst e1
    have HAT : Hid (IsAt (some ⟨g, 0, none⟩) m f w1) := Or.inr ⟨g, rfl, fun j hj => by
      have e2 : (cur.toList.take (m * 1))[j]? = some (.int .i64 (f j)) := by
        rw [h7]
        simp [hj]
      rw [List.getElem?_take_of_lt (by omega), Array.getElem?_toList] at e2
      rw [cell_of_row w1 g j cur _ (0, 0) h3, e2]⟩
    clear hown hgrow hnil h3 h6 h7
    go_wp2_with fail
    go_ret
    exact ⟨⟨g, c, rfl, h2, HAT.out⟩, HB.out⟩
namespace Pl
/-- More shut rows leave no more places wet. -/
theorem dry_more {n : Plan} {m m2 : Nat} {f f2 : Nat → Int} (h2 : AskOk n m f → AskOk n m2 f2) (hs : AskOk n m f → ∀ i, In m f i → In m2 f2 i) {v : Nat} (hv : v ∈ dry n m f) : v ∈ dry n m2 f2 := by
  unfold dry at hv
  split at hv
  · rename_i hb
    have ha := dB_iff.1 hb
    have h3 := List.mem_filter.1 hv
    unfold dry
    rw [dB_tt (h2 ha)]
    exact List.mem_filter.2 ⟨h3.1, dB_tt (fun hw => (dB_iff.1 h3.2) (hw.mono (hs ha)))⟩
  · simp at hv
theorem sum_filter {H : Nat → Int} {p q : Nat → Bool} {l : List Nat} (hp : ∀ v, v ∈ l → 0 ≤ H v) (h : ∀ v, v ∈ l → p v = true → q v = true) : ((l.filter p).map H).sum ≤ ((l.filter q).map H).sum := by
  induction l with
  | nil => simp
  | cons x l ih =>
    have h1 := ih (fun v hv => hp v (List.mem_cons_of_mem _ hv)) (fun v hv => h v (List.mem_cons_of_mem _ hv))
    have h2 := hp x (List.mem_cons_self ..)
    have h3 := h x (List.mem_cons_self ..)
    cases ep : p x with
    | true => rw [List.filter_cons_of_pos ep, List.filter_cons_of_pos (h3 ep)]; simp; omega
    | false =>
      rw [List.filter_cons_of_neg (by simp [ep])]
      cases eq : q x with
      | true => rw [List.filter_cons_of_pos eq]; simp; omega
      | false => rw [List.filter_cons_of_neg (by simp [eq])]; exact h1
theorem homes_more {n : Plan} {m m2 : Nat} {f f2 : Nat → Int} (h2 : AskOk n m f → AskOk n m2 f2) (hs : AskOk n m f → ∀ i, In m f i → In m2 f2 i) (hr : Right n) : homes n m f ≤ homes n m2 f2 := by
  unfold homes sumH
  by_cases ha : AskOk n m f
  · have e1 : dry n m f = dryL n (In m f) := by unfold dry; rw [dB_tt ha]; rfl
    have e2 : dry n m2 f2 = dryL n (In m2 f2) := by unfold dry; rw [dB_tt (h2 ha)]; rfl
    rw [e1, e2]
    refine sum_filter (fun v hv => (hr.hs v (List.mem_range.1 hv)).1) (fun v _ hd => ?_)
    exact dB_tt (fun hw => (dB_iff.1 hd) (hw.mono (hs ha)))
  · have e1 : dry n m f = [] := by unfold dry; rw [dB_ff ha]; rfl
    rw [e1]
    unfold dry
    split
    · simp only [List.map_nil, List.sum_nil]
      have := sum_filter (H := n.H) (p := fun _ => false) (q := fun v => dB (¬ Wet n (In m2 f2) v)) (l := List.range n.hn) (fun v hv => (hr.hs v (List.mem_range.1 hv)).1) (fun _ _ x => by cases x)
      have e0 : (List.range n.hn).filter (fun _ => false) = [] := List.filter_eq_nil_iff.2 (by simp)
      rw [e0] at this
      simpa [dryL] using this
    · simp
/-- The rows of both, below i. -/
noncomputable def bothL (n : Plan) (m : Nat) (f : Nat → Int) (mo : Nat → Bool) (i : Nat) : List Nat := (List.range i).filter fun r => dB (In m f r) || (n.R (r * 3 + 2) == 1 && mo r)
theorem bothL_in {n : Plan} {m : Nat} {f : Nat → Int} {mo : Nat → Bool} {i : Nat} (h : (dB (In m f i) || (n.R (i * 3 + 2) == 1 && mo i)) = true) : bothL n m f mo (i + 1) = bothL n m f mo i ++ [i] := by
  unfold bothL; rw [List.range_succ, List.filter_append, List.filter_cons_of_pos (p := fun r => dB (In m f r) || (n.R (r * 3 + 2) == 1 && mo r)) h]; rfl
theorem bothL_out {n : Plan} {m : Nat} {f : Nat → Int} {mo : Nat → Bool} {i : Nat} (h : (dB (In m f i) || (n.R (i * 3 + 2) == 1 && mo i)) = false) : bothL n m f mo (i + 1) = bothL n m f mo i := by
  unfold bothL; rw [List.range_succ, List.filter_append, List.filter_cons_of_neg (p := fun r => dB (In m f r) || (n.R (r * 3 + 2) == 1 && mo r)) (by rw [h]; simp)]; simp
theorem bothL_len {n : Plan} {m : Nat} {f : Nat → Int} {mo : Nat → Bool} {i : Nat} : (bothL n m f mo i).length ≤ i := by
  have := List.length_filter_le (fun r => dB (In m f r) || (n.R (r * 3 + 2) == 1 && mo r)) (List.range i)
  simpa [bothL] using this
theorem both_in {n : Plan} {m : Nat} {f : Nat → Int} {mo : Nat → Bool} (h : SetOk n m f) (i : Nat) (hi : In m f i) : In (bothL n m f mo n.rn).length (fun j => (((bothL n m f mo n.rn).getD j 0 : Nat) : Int)) i := by
  have hl : i < n.rn := by
    obtain ⟨j, hj, e⟩ := hi
    have := (h.rise j hj).1
    omega
  have hm : i ∈ bothL n m f mo n.rn := List.mem_filter.2 ⟨List.mem_range.2 hl, by rw [dB_tt hi]; rfl⟩
  obtain ⟨j, hj, e⟩ := List.getElem_of_mem hm
  exact ⟨j, hj, by simp [List.getD_eq_getElem?_getD, hj, e]⟩
theorem getD_mem {l : List Nat} {j : Nat} (hj : j < l.length) : l.getD j 0 ∈ l := by
  rw [List.getD_eq_getElem?_getD, List.getElem?_eq_getElem hj]
  exact List.getElem_mem hj
theorem both_at {n : Plan} {m : Nat} {f : Nat → Int} {mo : Nat → Bool} {j : Nat} (hj : j < (bothL n m f mo n.rn).length) : (bothL n m f mo n.rn).getD j 0 < n.rn ∧ (dB (In m f ((bothL n m f mo n.rn).getD j 0)) || (n.R ((bothL n m f mo n.rn).getD j 0 * 3 + 2) == 1 && mo ((bothL n m f mo n.rn).getD j 0))) = true := by
  have hm := getD_mem hj
  generalize (bothL n m f mo n.rn).getD j 0 = r at hm ⊢
  unfold bothL at hm
  have h1 := List.mem_filter.1 hm
  exact ⟨List.mem_range.1 h1.1, h1.2⟩
theorem both_ask {n : Plan} {m : Nat} {f : Nat → Int} {mo : Nat → Bool} (h : AskOk n m f) : AskOk n (bothL n m f mo n.rn).length (fun j => (((bothL n m f mo n.rn).getD j 0 : Nat) : Int)) := by
  have hr := h.right.r
  refine ⟨by have := bothL_len (n := n) (m := m) (f := f) (mo := mo) (i := n.rn); omega, h.right, ⟨fun j hj => ⟨?_, fun h0 => ?_⟩, fun j hj => ?_⟩⟩
  · have := (both_at hj).1
    show (0 : Int) ≤ _ ∧ _ < (n.rn : Int)
    omega
  · have hp : (bothL n m f mo n.rn).Pairwise (· < ·) := List.Pairwise.filter _ List.pairwise_lt_range
    have := List.pairwise_iff_getElem.1 hp (j - 1) j (by omega) hj (by omega)
    have e1 : (bothL n m f mo n.rn).getD (j - 1) 0 = (bothL n m f mo n.rn)[j - 1]'(by omega) := by rw [List.getD_eq_getElem?_getD, List.getElem?_eq_getElem (by omega)]; rfl
    have e2 : (bothL n m f mo n.rn).getD j 0 = (bothL n m f mo n.rn)[j] := by rw [List.getD_eq_getElem?_getD, List.getElem?_eq_getElem hj]; rfl
    simp only [e1, e2]
    omega
  · have h1 := (both_at hj).2
    generalize (bothL n m f mo n.rn).getD j 0 = r at h1 ⊢
    show n.R (((r : Nat) : Int).toNat * 3 + 2) = 1
    have e : ((r : Nat) : Int).toNat = r := by omega
    rw [e]
    rw [Bool.or_eq_true] at h1
    rcases h1 with x | x
    · obtain ⟨k, hk, ek⟩ := dB_iff.1 x
      have := h.set.good k hk
      rw [ek, e] at this
      exact this
    · simp at x; exact x.1
end Pl
end Go.Proofs.Ytipmjobhegpdgaa
